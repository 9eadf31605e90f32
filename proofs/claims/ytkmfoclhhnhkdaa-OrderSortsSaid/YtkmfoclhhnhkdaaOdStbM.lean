/- The order of values goes through thirds, with an answer between outer ones; sorting as data, where two that are alike keep their places. -/
import Derived.Test.YtkmfoclhhnhkdaaOdCmp
namespace Go.Proofs.Ytkmfoclhhnhkdaa
open Go.RowKit
namespace Od
open _root_.Go.Proofs.Ytkmfoclhhnhkdaa.Nm _root_.Go.Proofs.Ytkmfoclhhnhkdaa.Jv
theorem txC_neg (a b : ByteArray) : txC b a = - txC a b := by
  unfold txC
  by_cases h1 : ltB a b = true
  · have h2 := ltB_asymm h1
    have h3 : ¬ b = a := fun e => by subst e; rw [ltB_irrefl] at h1; cases h1
    rw [if_pos h1, if_neg (by rw [h2]; decide), if_neg h3]
    rfl
  · by_cases h2 : a = b
    · subst h2
      rw [if_neg h1, if_pos rfl]
      rfl
    · have h3 : ltB b a = true := (ltB_total h2).resolve_left h1
      rw [if_pos h3, if_neg h1, if_neg h2]
theorem sgn_neg (a b : Int) : sgn b a = - sgn a b := by
  unfold sgn
  by_cases h1 : a < b
  · rw [if_pos h1, if_neg (by omega), if_pos h1]; rfl
  · by_cases h2 : b < a
    · rw [if_pos h2, if_neg h1, if_pos h2]
    · rw [if_neg h2, if_neg h1, if_neg h1, if_neg h2]; rfl
theorem ksC_neg : ∀ ts us : List ByteArray, ksC us ts = - ksC ts us
  | [], [] => rfl
  | [], _ :: _ => by simp [ksC]
  | _ :: _, [] => by simp [ksC]
  | t :: ts, u :: us => by
    rw [ksC, ksC, txC_neg t u, ksC_neg ts us]
    by_cases h : txC t u = 0
    · rw [if_pos h, if_pos (by omega)]
    · rw [if_neg h, if_neg (by omega)]
theorem cmpI_neg (x y : Int) : cmpI y x = - cmpI x y := by
  unfold cmpI
  by_cases h : x = y
  · subst h; rw [if_pos rfl]; rfl
  · by_cases h1 : x < y
    · rw [if_neg (by omega), if_neg (by omega), if_neg h, if_pos h1]; rfl
    · rw [if_neg (by omega), if_pos (by omega), if_neg h, if_neg h1]
theorem nmC_neg (a b c d : Int) : nmC c d a b = - nmC a b c d := by
  unfold nmC
  rw [show mx (clS c d) (clS a b) = mx (clS a b) (clS c d) by unfold mx; omega]
  exact cmpI_neg _ _
theorem rk_same {k k' m : Int} (h : rk k = rk k') (h0 : 0 ≤ m) (h7 : m ≤ 7) : k = m ↔ k' = m := by
  unfold rk at h
  split at h <;> split at h <;> omega
def ng (p : Int × Nat) : Int × Nat := (-p.1, p.2)
mutual
theorem cmpV_neg : ∀ (t u : JV) (L : Nat), cmpV u t L = (cmpV t u L).map ng
  | .mk k c s st is ks, .mk k' c' s' st' is' ks', 0 => rfl
  | .mk k c s st is ks, .mk k' c' s' st' is' ks', L + 1 => by
    have hl := cmpL_neg is is' L
    rw [cmpV, cmpV]
    show (if rk k' = rk k then (if k' = 3 then some (nmC c' s' c s, L) else if k' = 4 ∨ k' = 7 then some (txC st' st, L) else if k' = 5 then cmpL is' is L else if k' = 6 then (if ksC ks' ks = 0 then cmpL is' is L else some (ksC ks' ks, L)) else some (0, L)) else some (sgn (rk k') (rk k), L)) = Option.map ng (if rk k = rk k' then (if k = 3 then some (nmC c s c' s', L) else if k = 4 ∨ k = 7 then some (txC st st', L) else if k = 5 then cmpL is is' L else if k = 6 then (if ksC ks ks' = 0 then cmpL is is' L else some (ksC ks ks', L)) else some (0, L)) else some (sgn (rk k) (rk k'), L))
    by_cases q0 : rk k = rk k'
    · rw [if_pos q0, if_pos q0.symm]
      have e3 := rk_same q0 (m := 3) (by decide) (by decide)
      have e4 := rk_same q0 (m := 4) (by decide) (by decide)
      have e5 := rk_same q0 (m := 5) (by decide) (by decide)
      have e6 := rk_same q0 (m := 6) (by decide) (by decide)
      have e7 := rk_same q0 (m := 7) (by decide) (by decide)
      by_cases q1 : k = 3
      · rw [if_pos q1, if_pos (e3.1 q1), nmC_neg c s c' s']; rfl
      rw [if_neg q1, if_neg (fun h => q1 (e3.2 h))]
      by_cases q2 : k = 4 ∨ k = 7
      · rw [if_pos q2, if_pos (by rw [← e4, ← e7]; exact q2), txC_neg st st']; rfl
      rw [if_neg q2, if_neg (by rw [← e4, ← e7]; exact q2)]
      by_cases q3 : k = 5
      · rw [if_pos q3, if_pos (e5.1 q3)]; exact hl
      rw [if_neg q3, if_neg (fun h => q3 (e5.2 h))]
      by_cases q4 : k = 6
      · rw [if_pos q4, if_pos (e6.1 q4), ksC_neg ks ks']
        by_cases q5 : ksC ks ks' = 0
        · rw [if_pos q5, if_pos (by omega)]; exact hl
        · rw [if_neg q5, if_neg (by omega)]; rfl
      · rw [if_neg q4, if_neg (fun h => q4 (e6.2 h))]; rfl
    · rw [if_neg q0, if_neg (fun h => q0 h.symm), sgn_neg (rk k) (rk k')]; rfl
theorem cmpL_neg : ∀ (ts us : List JV) (L : Nat), cmpL us ts L = (cmpL ts us L).map ng
  | [], [], L => rfl
  | [], _ :: _, L => by simp [cmpL, ng]
  | _ :: _, [], L => by simp [cmpL, ng]
  | t :: ts, u :: us, L => by
    rw [cmpL, cmpL, cmpV_neg t u L]
    cases cmpV t u L with
    | none => rfl
    | some p =>
      obtain ⟨c, M⟩ := p
      show (if -c = 0 then cmpL us ts M else some (-c, M)) = Option.map ng (if c = 0 then cmpL ts us M else some (c, M))
      rw [cmpL_neg ts us M]
      by_cases h : c = 0
      · rw [if_pos h, if_pos (by omega)]
      · rw [if_neg h, if_neg (by omega)]; rfl
end
/-- two neighbours change places -/
def swp {α : Type} : Nat → List α → List α
  | 0, [] => []
  | 0, [a] => [a]
  | 0, a :: b :: z => b :: a :: z
  | _ + 1, [] => []
  | p + 1, a :: z => a :: swp p z
abbrev sw {α : Type} (z : List α) (p : Nat) : List α := swp p z
theorem sw_perm {α : Type} (z : List α) (p : Nat) : (sw z p).Perm z := by
  induction p generalizing z with
  | zero =>
    match z with
    | [] => exact .refl _
    | [a] => exact .refl _
    | a :: b :: z => exact .swap _ _ _
  | succ p ih =>
    cases z with
    | nil => exact .refl _
    | cons a z => exact (ih z).cons a
theorem sw_len {α : Type} (z : List α) (p : Nat) : (sw z p).length = z.length := (sw_perm z p).length_eq
theorem sw_get {α : Type} (z : List α) (p : Nat) (h : p + 1 < z.length) (q : Nat) : (sw z p)[q]? = if q = p then z[p + 1]? else if q = p + 1 then z[p]? else z[q]? := by
  induction p generalizing z q with
  | zero =>
    match z, h with
    | [], h => simp at h
    | [a], h => simp at h
    | a :: b :: z, h =>
      match q with
      | 0 => rfl
      | 1 => rfl
      | q + 2 => rw [if_neg (by omega), if_neg (by omega)]; rfl
  | succ p ih =>
    cases z with
    | nil => simp at h
    | cons a z =>
      cases q with
      | zero => rw [if_neg (by omega), if_neg (by omega)]; rfl
      | succ q =>
        have := ih z (by simpa using h) q
        show (sw z p)[q]? = _
        rw [this]
        by_cases h1 : q = p
        · subst h1
          rw [if_pos rfl, if_pos rfl]
          rfl
        · rw [if_neg h1, if_neg (show ¬ q + 1 = p + 1 by omega)]
          by_cases h2 : q = p + 1
          · subst h2
            rw [if_pos rfl, if_pos rfl]
            rfl
          · rw [if_neg h2, if_neg (show ¬ q + 1 = p + 1 + 1 by omega)]
            rfl
theorem sw_map {α β : Type} (f : α → β) (z : List α) (p : Nat) : (sw z p).map f = sw (z.map f) p := by
  induction p generalizing z with
  | zero =>
    match z with
    | [] => rfl
    | [a] => rfl
    | a :: b :: z => rfl
  | succ p ih =>
    cases z with
    | nil => rfl
    | cons a z =>
      show f a :: (sw z p).map f = f a :: sw (z.map f) p
      rw [ih z]
/-- a row of values in a block of its own -/
structure Rw6 (w : World) (q : Nat) (s : List Six) : Prop where
  blk : ∃ cur, w.heap[q]? = some (.cells cur 27 (0, 0))
  at6 : ∀ (i : Nat) (y : Six), s[i]? = some y → At6 w q (i * 6) y
/-- six cells written -/
def st6 (w : World) (q p : Nat) (y : Six) : World := (((((w.setCell ⟨q, p, none⟩ (.int .i64 y.k)).setCell ⟨q, p + 1, none⟩ (.int .i64 y.c)).setCell ⟨q, p + 2, none⟩ (.int .i64 y.s)).setCell ⟨q, p + 3, none⟩ (.string y.st)).setCell ⟨q, p + 4, none⟩ y.iv).setCell ⟨q, p + 5, none⟩ y.kv
theorem st6_far {w : World} {q p : Nat} {y : Six} {a : Addr} (h : a.block ≠ q ∨ a.off < p ∨ p + 6 ≤ a.off) : (st6 w q p y).cell? a = w.cell? a := by
  have hn : ∀ d, d < 6 → (⟨q, p + d, none⟩ : Addr) ≠ a := fun d hd e => by subst e; simp at h; omega
  have hn0 : (⟨q, p, none⟩ : Addr) ≠ a := fun e => by subst e; simp at h; omega
  unfold st6
  rw [World.cell?_setCell_other (h := hn 5 (by decide)), World.cell?_setCell_other (h := hn 4 (by decide)), World.cell?_setCell_other (h := hn 3 (by decide)), World.cell?_setCell_other (h := hn 2 (by decide)), World.cell?_setCell_other (h := hn 1 (by decide)), World.cell?_setCell_other (h := hn0)]
theorem st6_at {w : World} {q p : Nat} {x y : Six} (h : At6 w q p x) : At6 (st6 w q p y) q p y := by
  obtain ⟨h0, h1, h2, h3, h4, h5⟩ := h
  have ne : ∀ c d, c ≠ d → (⟨q, p + c, none⟩ : Addr) ≠ ⟨q, p + d, none⟩ := fun c d hcd e => by
    injection e with _ e2 _
    omega
  have e0 : ∀ d, d ≠ 0 → (⟨q, p + d, none⟩ : Addr) ≠ ⟨q, p, none⟩ := fun d hd e => by
    injection e with _ e2 _
    omega
  have f0 : ∀ d, d ≠ 0 → (⟨q, p, none⟩ : Addr) ≠ ⟨q, p + d, none⟩ := fun d hd e => e0 d hd e.symm
  unfold st6
  refine ⟨?_, ?_, ?_, ?_, ?_, ?_⟩
  · rw [World.cell?_setCell_other (h := e0 5 (by decide)), World.cell?_setCell_other (h := e0 4 (by decide)), World.cell?_setCell_other (h := e0 3 (by decide)), World.cell?_setCell_other (h := e0 2 (by decide)), World.cell?_setCell_other (h := e0 1 (by decide))]
    exact World.cell?_setCell_same _ _ _ h0
  · rw [World.cell?_setCell_other (h := ne 5 1 (by decide)), World.cell?_setCell_other (h := ne 4 1 (by decide)), World.cell?_setCell_other (h := ne 3 1 (by decide)), World.cell?_setCell_other (h := ne 2 1 (by decide))]
    exact World.cell?_setCell_same _ _ _ (by rw [World.cell?_setCell_other (h := f0 1 (by decide))]; exact h1)
  · rw [World.cell?_setCell_other (h := ne 5 2 (by decide)), World.cell?_setCell_other (h := ne 4 2 (by decide)), World.cell?_setCell_other (h := ne 3 2 (by decide))]
    exact World.cell?_setCell_same _ _ _ (by rw [World.cell?_setCell_other (h := ne 1 2 (by decide)), World.cell?_setCell_other (h := f0 2 (by decide))]; exact h2)
  · rw [World.cell?_setCell_other (h := ne 5 3 (by decide)), World.cell?_setCell_other (h := ne 4 3 (by decide))]
    exact World.cell?_setCell_same _ _ _ (by rw [World.cell?_setCell_other (h := ne 2 3 (by decide)), World.cell?_setCell_other (h := ne 1 3 (by decide)), World.cell?_setCell_other (h := f0 3 (by decide))]; exact h3)
  · rw [World.cell?_setCell_other (h := ne 5 4 (by decide))]
    exact World.cell?_setCell_same _ _ _ (by rw [World.cell?_setCell_other (h := ne 3 4 (by decide)), World.cell?_setCell_other (h := ne 2 4 (by decide)), World.cell?_setCell_other (h := ne 1 4 (by decide)), World.cell?_setCell_other (h := f0 4 (by decide))]; exact h4)
  · exact World.cell?_setCell_same _ _ _ (by rw [World.cell?_setCell_other (h := ne 4 5 (by decide)), World.cell?_setCell_other (h := ne 3 5 (by decide)), World.cell?_setCell_other (h := ne 2 5 (by decide)), World.cell?_setCell_other (h := ne 1 5 (by decide)), World.cell?_setCell_other (h := f0 5 (by decide))]; exact h5)
theorem st6_blk {w : World} {q p : Nat} {y : Six} (h : ∃ cur, w.heap[q]? = some (.cells cur 27 (0, 0))) : ∃ cur, (st6 w q p y).heap[q]? = some (.cells cur 27 (0, 0)) := by
  have one : ∀ (w : World) (o : Nat) (u : Value), (∃ cur, w.heap[q]? = some (.cells cur 27 (0, 0))) → ∃ cur, (w.setCell ⟨q, o, none⟩ u).heap[q]? = some (.cells cur 27 (0, 0)) := fun w o u ⟨cur, h⟩ => by
    refine ⟨cur.setIfInBounds o u, ?_⟩
    simp [World.setCell, Array.getElem?_modify, h]
  unfold st6
  exact one _ _ _ (one _ _ _ (one _ _ _ (one _ _ _ (one _ _ _ (one _ _ _ h)))))
section
variable {w : World} {q : Nat} {s : List Six}
theorem Rw6.lt (h : Rw6 w q s) : q < w.heap.size := by obtain ⟨cur, h⟩ := h.blk; exact (Array.getElem?_eq_some_iff.1 h).1
theorem Rw6.free (h : Rw6 w q s) (o : Nat) : w.frozen? ⟨q, o, none⟩ = false := by
  obtain ⟨cur, h⟩ := h.blk
  simp [World.frozen?, h]
theorem Rw6.on {w' : World} (h : Rw6 w q s) (hb : w'.heap[q]? = w.heap[q]?) : Rw6 w' q s :=
  ⟨by rw [hb]; exact h.blk, fun i y hy => (h.at6 i y hy).blk hb⟩
theorem Rw6.swap (h : Rw6 w q s) {j : Nat} {x y : Six} (hx : s[j + 1]? = some x) (hy : s[j]? = some y) : Rw6 (st6 (st6 w q ((j + 1) * 6) y) q (j * 6) x) q (sw s j) := by
  have hl : j + 1 < s.length := (List.getElem?_eq_some_iff.1 hx).1
  refine ⟨st6_blk (st6_blk h.blk), fun i z hz => ?_⟩
  rw [sw_get s j hl] at hz
  have A1 := h.at6 _ _ hx
  have A2 := h.at6 _ _ hy
  have mv : ∀ {w : World} {p o : Nat} {y z : Six}, At6 w q o z → (o + 6 ≤ p ∨ p + 6 ≤ o) → At6 (st6 w q p y) q o z := fun {w p o y z} ⟨h0, h1, h2, h3, h4, h5⟩ ho =>
    ⟨(st6_far (by simp; omega)).trans h0, (st6_far (by simp; omega)).trans h1, (st6_far (by simp; omega)).trans h2, (st6_far (by simp; omega)).trans h3, (st6_far (by simp; omega)).trans h4, (st6_far (by simp; omega)).trans h5⟩
  by_cases h1 : i = j
  · subst h1
    rw [if_pos rfl, hx] at hz
    obtain rfl := Option.some.inj hz
    exact st6_at (mv A2 (by omega))
  · rw [if_neg h1] at hz
    by_cases h2 : i = j + 1
    · subst h2
      rw [if_pos rfl, hy] at hz
      obtain rfl := Option.some.inj hz
      exact mv (st6_at A1) (by omega)
    · rw [if_neg h2] at hz
      exact mv (mv (h.at6 i z hz) (by omega)) (by omega)
end
theorem cmpR_neg (t u : JV) : cmpR u t = (-(cmpR t u).1, (cmpR t u).2) := by
  unfold cmpR
  rw [cmpV_neg t u]
  cases cmpV t u 4096 with
  | none => rfl
  | some p => rfl
theorem cmpR_no {t u : JV} (h : (cmpR t u).2 = false) : (cmpR t u).1 = 0 := by
  unfold cmpR at h ⊢
  cases hq : cmpV t u 4096 with
  | none => rfl
  | some p => rw [hq] at h; cases h
/-- one isn't behind the other, and there is an answer -/
def G (t u : JV) : Prop := (cmpR t u).2 = true ∧ (cmpR t u).1 ≤ 0
theorem G_back {t u : JV} (h : (cmpR u t).2 = true) (h' : ¬ (cmpR u t).1 < 0) : G t u := by
  have := cmpR_neg u t
  unfold G
  rw [this]
  exact ⟨h, by show -(cmpR u t).1 ≤ 0; omega⟩
theorem G_back' {t u : JV} (h : G t u) : (cmpR u t).2 = true ∧ ¬ (cmpR u t).1 < 0 := by
  have := cmpR_neg t u
  rw [this]
  exact ⟨h.1, by show ¬ -(cmpR t u).1 < 0; have := h.2; omega⟩
/-- neighbours rise -/
def Ch (z : List JV) : Prop := ∀ (i : Nat) (a b : JV), z[i]? = some a → z[i + 1]? = some b → G a b
/-- what holds of a list while one is put into its place: i are in order, and one is on its way down from i, at j -/
structure In (z : List JV) (i j : Nat) : Prop where
  lo : ∀ (p : Nat) (a b : JV), p + 1 < j → z[p]? = some a → z[p + 1]? = some b → G a b
  hi : ∀ (p : Nat) (a b : JV), j < p → p + 1 ≤ i → z[p]? = some a → z[p + 1]? = some b → G a b
  mid : ∀ (a b : JV), 0 < j → j + 1 ≤ i → z[j - 1]? = some a → z[j + 1]? = some b → G a b
  nxt : ∀ (a b : JV), j + 1 ≤ i → z[j]? = some a → z[j + 1]? = some b → G a b
/-- the first i are in order -/
def Out (z : List JV) (i : Nat) : Prop := ∀ (p : Nat) (a b : JV), p + 1 < i → z[p]? = some a → z[p + 1]? = some b → G a b
theorem Out.start {z : List JV} : Out z 1 := fun p a b h => by omega
theorem Out.into {z : List JV} {i : Nat} (h : Out z i) : In z i i := ⟨h, fun p a b h1 h2 => by omega, fun a b h1 h2 => by omega, fun a b h1 => by omega⟩
theorem Out.done {z : List JV} (h : Out z z.length) : Ch z := fun i a b ha hb => h i a b (List.getElem?_eq_some_iff.1 hb).1 ha hb
theorem In.stop0 {z : List JV} {i : Nat} (h : In z i 0) : Out z (i + 1) := fun p a b hp ha hb => by
  cases p with
  | zero => exact h.nxt a b (by omega) ha hb
  | succ p => exact h.hi (p + 1) a b (by omega) (by omega) ha hb
theorem In.stop {z : List JV} {i j : Nat} {x y : JV} (h : In z i (j + 1)) (hy : z[j]? = some y) (hx : z[j + 1]? = some x) (hg : G y x) : Out z (i + 1) := fun p a b hp ha hb => by
  rcases Nat.lt_trichotomy p j with h1 | h1 | h1
  · exact h.lo p a b (by omega) ha hb
  · subst h1
    rw [hy] at ha
    rw [hx] at hb
    obtain rfl := Option.some.inj ha
    obtain rfl := Option.some.inj hb
    exact hg
  · by_cases h2 : p = j + 1
    · subst h2; exact h.nxt a b (by omega) ha hb
    · exact h.hi p a b (by omega) (by omega) ha hb
theorem In.step {z : List JV} {i j : Nat} {x y : JV} (h : In z i (j + 1)) (hi : i < z.length) (hji : j + 1 ≤ i) (hy : z[j]? = some y) (hx : z[j + 1]? = some x) (hg : G x y) : In (sw z j) i j := by
  have hj : j + 1 < z.length := by omega
  have g := sw_get z j hj
  refine ⟨fun p a b hp ha hb => ?_, fun p a b h1 h2 ha hb => ?_, fun a b h1 h2 ha hb => ?_, fun a b h1 ha hb => ?_⟩
  · rw [g, if_neg (by omega), if_neg (by omega)] at ha hb
    exact h.lo p a b (by omega) ha hb
  · by_cases hp : p = j + 1
    · subst hp
      rw [g, if_neg (by omega), if_pos rfl] at ha
      rw [g, if_neg (by omega), if_neg (by omega)] at hb
      exact h.mid a b (by omega) (by omega) (by rw [Nat.add_sub_cancel]; exact ha) hb
    · rw [g, if_neg (by omega), if_neg (by omega)] at ha hb
      exact h.hi p a b (by omega) (by omega) ha hb
  · rw [g, if_neg (by omega), if_neg (by omega)] at ha
    rw [g, if_neg (by omega), if_pos rfl] at hb
    have := h.lo (j - 1) a b (by omega) ha (by rw [show j - 1 + 1 = j by omega]; exact hb)
    exact this
  · rw [g, if_pos rfl] at ha
    rw [g, if_neg (by omega), if_pos rfl] at hb
    rw [hx] at ha
    rw [hy] at hb
    obtain rfl := Option.some.inj ha
    obtain rfl := Option.some.inj hb
    exact hg
theorem up_up {c s : Int} {m : Nat} (hs : s ≤ m) (hm : m ≤ 9) : up c s 9 = up c s m * ((10 ^ (9 - m) : Nat) : Int) := by
  unfold up
  rw [Int.mul_assoc, ← Int.natCast_mul, ← Nat.pow_add]
  congr 3
  omega
theorem mul_ltI {a b k : Int} (hk : 0 < k) : a * k < b * k ↔ a < b := Int.mul_lt_mul_right hk
theorem mul_eqI {a b k : Int} (hk : 0 < k) : a * k = b * k ↔ a = b := Int.mul_eq_mul_right_iff (by omega)
theorem cmp_scale {x y k : Int} (hk : 0 < k) : cmpI (x * k) (y * k) = cmpI x y := by
  unfold cmpI
  by_cases h : x = y
  · rw [if_pos h, if_pos (by rw [h])]
  · rw [if_neg h, if_neg (fun e => h ((mul_eqI hk).1 e))]
    by_cases h2 : x < y
    · rw [if_pos h2, if_pos ((mul_ltI hk).2 h2)]
    · rw [if_neg h2, if_neg (fun e => h2 ((mul_ltI hk).1 e))]
theorem mx_le {ca sa cb sb : Int} (ia : isB ca sa = true) (ib : isB cb sb = true) : sa ≤ mx sa sb ∧ sb ≤ mx sa sb ∧ mx sa sb ≤ 9 := by
  rw [isB_iff] at ia ib
  unfold mx; omega
theorem cmp_nine {ca sa cb sb : Int} (ia : isB ca sa = true) (ib : isB cb sb = true) : cmpI (up ca sa (mx sa sb)) (up cb sb (mx sa sb)) = cmpI (up ca sa 9) (up cb sb 9) := by
  obtain ⟨h1, h2, h3⟩ := mx_le ia ib
  rw [up_up h1 h3, up_up h2 h3]
  exact (cmp_scale (by have : 0 < 10 ^ (9 - mx sa sb) := Nat.pow_pos (by decide); omega)).symm
theorem cmp_form (x y : Int) : cmpI x y = -1 ∧ x < y ∨ cmpI x y = 0 ∧ x = y ∨ cmpI x y = 1 ∧ y < x := by
  unfold cmpI
  by_cases h : x = y
  · simp [h]
  · by_cases h2 : x < y
    · simp [h, h2]
    · simp [h, h2]; omega
/-- what a first one is against a second one, that one against a third one, and the first one against the third one -/
def Tr (a c d : Int) : Prop := a ≤ 0 → c ≤ 0 → (a = 0 ∧ c = 0 ∧ d = 0) ∨ ((a < 0 ∨ c < 0) ∧ d < 0)
theorem sgn_form (a b : Int) : sgn a b = -1 ∧ a < b ∨ sgn a b = 0 ∧ a = b ∨ sgn a b = 1 ∧ b < a := by
  unfold sgn
  by_cases h1 : a < b
  · rw [if_pos h1]; exact Or.inl ⟨rfl, h1⟩
  · rw [if_neg h1]
    by_cases h2 : b < a
    · rw [if_pos h2]; exact Or.inr (Or.inr ⟨rfl, h2⟩)
    · rw [if_neg h2]; exact Or.inr (Or.inl ⟨rfl, by omega⟩)
theorem sgn_tr (x y z : Int) : Tr (sgn x y) (sgn y z) (sgn x z) := by
  intro h1 h2
  rcases sgn_form x y with ⟨e1, f1⟩ | ⟨e1, f1⟩ | ⟨e1, f1⟩ <;> rcases sgn_form y z with ⟨e2, f2⟩ | ⟨e2, f2⟩ | ⟨e2, f2⟩ <;> rcases sgn_form x z with ⟨e3, f3⟩ | ⟨e3, f3⟩ | ⟨e3, f3⟩ <;> omega
theorem tx_form (a b : ByteArray) : txC a b = -1 ∧ ltB a b = true ∨ txC a b = 0 ∧ a = b ∨ txC a b = 1 ∧ ltB b a = true := by
  unfold txC
  by_cases h1 : ltB a b = true
  · rw [if_pos h1]; exact Or.inl ⟨rfl, h1⟩
  · rw [if_neg h1]
    by_cases h2 : a = b
    · rw [if_pos h2]; exact Or.inr (Or.inl ⟨rfl, h2⟩)
    · rw [if_neg h2]; exact Or.inr (Or.inr ⟨rfl, (ltB_total h2).resolve_left h1⟩)
theorem txC_lt {a b : ByteArray} (h : ltB a b = true) : txC a b = -1 := by unfold txC; rw [if_pos h]
theorem txC_self (a : ByteArray) : txC a a = 0 := by unfold txC; rw [if_neg (by rw [ltB_irrefl]; decide), if_pos rfl]
theorem txC_tr (x y z : ByteArray) : Tr (txC x y) (txC y z) (txC x z) := by
  intro h1 h2
  rcases tx_form x y with ⟨e1, f1⟩ | ⟨e1, f1⟩ | ⟨e1, f1⟩
  · rcases tx_form y z with ⟨e2, f2⟩ | ⟨e2, f2⟩ | ⟨e2, f2⟩
    · have := txC_lt (ltB_trans f1 f2); omega
    · subst f2; omega
    · omega
  · subst f1
    rw [txC_self] at h1 ⊢
    omega
  · omega
theorem nmC_tr (a b c d e f : Int) : Tr (nmC a b c d) (nmC c d e f) (nmC a b e f) := by
  unfold nmC
  rw [cmp_nine (cl_is a b) (cl_is c d), cmp_nine (cl_is c d) (cl_is e f), cmp_nine (cl_is a b) (cl_is e f)]
  intro h1 h2
  rcases cmp_form (up (clC a b) (clS a b) 9) (up (clC c d) (clS c d) 9) with ⟨e1, f1⟩ | ⟨e1, f1⟩ | ⟨e1, f1⟩ <;> rcases cmp_form (up (clC c d) (clS c d) 9) (up (clC e f) (clS e f) 9) with ⟨e2, f2⟩ | ⟨e2, f2⟩ | ⟨e2, f2⟩ <;> rcases cmp_form (up (clC a b) (clS a b) 9) (up (clC e f) (clS e f) 9) with ⟨e3, f3⟩ | ⟨e3, f3⟩ | ⟨e3, f3⟩ <;> omega
theorem ksC_tr : ∀ ts us vs : List ByteArray, Tr (ksC ts us) (ksC us vs) (ksC ts vs)
  | [], [], [] => fun _ _ => Or.inl ⟨rfl, rfl, rfl⟩
  | [], [], v :: vs => fun _ _ => Or.inr ⟨Or.inr (by simp [ksC]), by simp [ksC]⟩
  | [], u :: us, [] => fun _ h => absurd h (by simp [ksC])
  | [], u :: us, v :: vs => fun _ _ => Or.inr ⟨Or.inl (by simp [ksC]), by simp [ksC]⟩
  | t :: ts, [], vs => fun h _ => absurd h (by simp [ksC])
  | t :: ts, u :: us, [] => fun _ h => absurd h (by simp [ksC])
  | t :: ts, u :: us, v :: vs => by
    have h0 := txC_tr t u v
    have h1 := ksC_tr ts us vs
    rw [ksC, ksC, ksC]
    unfold Tr at h0 h1 ⊢
    intro ha hc
    by_cases q1 : txC t u = 0
    · by_cases q2 : txC u v = 0
      · have q3 : txC t v = 0 := by rcases h0 (by omega) (by omega) with h | h <;> omega
        rw [if_pos q1] at ha ⊢
        rw [if_pos q2] at hc ⊢
        rw [if_pos q3]
        exact h1 ha hc
      · rw [if_neg q2] at hc ⊢
        rcases h0 (by omega) hc with h | h
        · omega
        · rw [if_neg (show ¬ txC t v = 0 by omega)]
          right
          exact ⟨Or.inr (by omega), h.2⟩
    · rw [if_neg q1] at ha ⊢
      by_cases q2 : txC u v = 0
      · rcases h0 ha (by omega) with h | h
        · omega
        · rw [if_neg (show ¬ txC t v = 0 by omega)]
          right
          exact ⟨Or.inl (by omega), h.2⟩
      · rw [if_neg q2] at hc ⊢
        rcases h0 ha hc with h | h
        · omega
        · rw [if_neg (show ¬ txC t v = 0 by omega)]
          right
          exact ⟨Or.inl (by omega), h.2⟩
theorem inj1 {x y : Int} {M N : Nat} (h : some (x, M) = some (y, N)) : x = y := (Prod.mk.inj (Option.some.inj h)).1
mutual
theorem cmpV_tr : ∀ (t u v : JV) (L1 L2 L3 : Nat) (a c d : Int) (M1 M2 M3 : Nat), cmpV t u L1 = some (a, M1) → cmpV u v L2 = some (c, M2) → cmpV t v L3 = some (d, M3) → Tr a c d
  | .mk k c0 s st is ks, u, v, 0, L2, L3, a, c, d, M1, M2, M3, h, _, _ => by simp [cmpV] at h
  | .mk k c0 s st is ks, u, v, L1 + 1, 0, L3, a, c, d, M1, M2, M3, _, h, _ => by rw [cmpV_zero] at h; cases h
  | .mk k c0 s st is ks, u, v, L1 + 1, L2 + 1, 0, a, c, d, M1, M2, M3, _, _, h => by rw [cmpV_zero] at h; cases h
  | .mk k c0 s st is ks, u, v, L1 + 1, L2 + 1, L3 + 1, a, c, d, M1, M2, M3, h1, h2, h3 => by
    have hl0 := cmpL_tr is u.items v.items
    obtain ⟨t, ht⟩ : ∃ t, JV.mk k c0 s st is ks = t := ⟨_, rfl⟩
    have hi : is = t.items := by rw [← ht]; rfl
    rw [hi] at hl0
    rw [ht] at h1 h3
    clear ht hi
    rw [cmpV_is] at h1 h2 h3
    by_cases q1 : rk t.k = rk u.k
    · rw [if_pos q1] at h1
      by_cases q2 : rk u.k = rk v.k
      · rw [if_pos q2] at h2
        rw [if_pos (q1.trans q2)] at h3
        have e3 := rk_same q1 (m := 3) (by decide) (by decide)
        have e4 := rk_same q1 (m := 4) (by decide) (by decide)
        have e5 := rk_same q1 (m := 5) (by decide) (by decide)
        have e6 := rk_same q1 (m := 6) (by decide) (by decide)
        have e7 := rk_same q1 (m := 7) (by decide) (by decide)
        by_cases p1 : t.k = 3
        · rw [if_pos p1] at h1 h3
          rw [if_pos (e3.1 p1)] at h2
          rw [← inj1 h1, ← inj1 h2, ← inj1 h3]
          exact nmC_tr _ _ _ _ _ _
        rw [if_neg p1] at h1 h3
        rw [if_neg (fun h => p1 (e3.2 h))] at h2
        by_cases p2 : t.k = 4 ∨ t.k = 7
        · have p2' : u.k = 4 ∨ u.k = 7 := by rw [← e4, ← e7]; exact p2
          rw [if_pos p2] at h1 h3
          rw [if_pos p2'] at h2
          rw [← inj1 h1, ← inj1 h2, ← inj1 h3]
          exact txC_tr _ _ _
        have p2' : ¬ (u.k = 4 ∨ u.k = 7) := by rw [← e4, ← e7]; exact p2
        rw [if_neg p2] at h1 h3
        rw [if_neg p2'] at h2
        by_cases p3 : t.k = 5
        · rw [if_pos p3] at h1 h3
          rw [if_pos (e5.1 p3)] at h2
          exact hl0 _ _ _ _ _ _ _ _ _ h1 h2 h3
        rw [if_neg p3] at h1 h3
        rw [if_neg (fun h => p3 (e5.2 h))] at h2
        by_cases p4 : t.k = 6
        · rw [if_pos p4] at h1 h3
          rw [if_pos (e6.1 p4)] at h2
          have hk := ksC_tr t.keys u.keys v.keys
          by_cases z1 : ksC t.keys u.keys = 0
          · rw [if_pos z1] at h1
            by_cases z2 : ksC u.keys v.keys = 0
            · rw [if_pos z2] at h2
              have z3 : ksC t.keys v.keys = 0 := by rcases hk (by omega) (by omega) with h | h <;> omega
              rw [if_pos z3] at h3
              exact hl0 _ _ _ _ _ _ _ _ _ h1 h2 h3
            · rw [if_neg z2] at h2
              have i2 := inj1 h2
              intro ha hc
              rcases hk (by omega) (by omega) with h | h
              · omega
              · rw [if_neg (show ¬ ksC t.keys v.keys = 0 by omega)] at h3
                have i3 := inj1 h3
                exact Or.inr ⟨Or.inr (by omega), by omega⟩
          · rw [if_neg z1] at h1
            have i1 := inj1 h1
            intro ha hc
            by_cases z2 : ksC u.keys v.keys = 0
            · rcases hk (by omega) (by omega) with h | h
              · omega
              · rw [if_neg (show ¬ ksC t.keys v.keys = 0 by omega)] at h3
                have i3 := inj1 h3
                exact Or.inr ⟨Or.inl (by omega), by omega⟩
            · rw [if_neg z2] at h2
              have i2 := inj1 h2
              rcases hk (by omega) (by omega) with h | h
              · omega
              · rw [if_neg (show ¬ ksC t.keys v.keys = 0 by omega)] at h3
                have i3 := inj1 h3
                exact Or.inr ⟨Or.inl (by omega), by omega⟩
        · rw [if_neg p4] at h1 h3
          rw [if_neg (fun h => p4 (e6.2 h))] at h2
          exact fun _ _ => Or.inl ⟨(inj1 h1).symm, (inj1 h2).symm, (inj1 h3).symm⟩
      · rw [if_neg q2] at h2
        rw [if_neg (fun h => q2 (q1.symm.trans h)), q1] at h3
        have i2 := inj1 h2
        have i3 := inj1 h3
        intro ha hc
        rcases sgn_form (rk u.k) (rk v.k) with ⟨f1, f2⟩ | ⟨f1, f2⟩ | ⟨f1, f2⟩
        · exact Or.inr ⟨Or.inr (by omega), by omega⟩
        · exact absurd f2 q2
        · omega
    · rw [if_neg q1] at h1
      have i1 := inj1 h1
      intro ha hc
      by_cases q2 : rk u.k = rk v.k
      · rw [if_neg (fun h => q1 (h.trans q2.symm)), ← q2] at h3
        have i3 := inj1 h3
        rcases sgn_form (rk t.k) (rk u.k) with ⟨f1, f2⟩ | ⟨f1, f2⟩ | ⟨f1, f2⟩
        · exact Or.inr ⟨Or.inl (by omega), by omega⟩
        · exact absurd f2 q1
        · omega
      · rw [if_neg q2] at h2
        have i2 := inj1 h2
        rcases sgn_tr (rk t.k) (rk u.k) (rk v.k) (by omega) (by omega) with h | h
        · rcases sgn_form (rk t.k) (rk u.k) with ⟨f1, f2⟩ | ⟨f1, f2⟩ | ⟨f1, f2⟩ <;> omega
        · have q3 : ¬ rk t.k = rk v.k := fun e => by
            rcases sgn_form (rk t.k) (rk v.k) with ⟨f1, f2⟩ | ⟨f1, f2⟩ | ⟨f1, f2⟩ <;> omega
          rw [if_neg q3] at h3
          have i3 := inj1 h3
          exact Or.inr ⟨by omega, by omega⟩
theorem cmpL_tr : ∀ (ts us vs : List JV) (L1 L2 L3 : Nat) (a c d : Int) (M1 M2 M3 : Nat), cmpL ts us L1 = some (a, M1) → cmpL us vs L2 = some (c, M2) → cmpL ts vs L3 = some (d, M3) → Tr a c d
  | [], [], [], L1, L2, L3, a, c, d, M1, M2, M3, h1, h2, h3 => by
    rw [cmpL] at h1 h2 h3
    have i1 := inj1 h1
    have i2 := inj1 h2
    have i3 := inj1 h3
    rw [if_pos rfl] at i1 i2 i3
    exact fun _ _ => Or.inl ⟨i1.symm, i2.symm, i3.symm⟩
  | [], [], v :: vs, L1, L2, L3, a, c, d, M1, M2, M3, h1, h2, h3 => by
    rw [cmpL] at h1 h2 h3
    have i2 := inj1 h2
    have i3 := inj1 h3
    rw [if_neg (by simp)] at i2 i3
    exact fun _ _ => Or.inr ⟨Or.inr (by omega), by omega⟩
  | [], u :: us, [], L1, L2, L3, a, c, d, M1, M2, M3, h1, h2, h3 => by
    rw [cmpL] at h2
    have i2 := inj1 h2
    intro _ hc
    omega
  | [], u :: us, v :: vs, L1, L2, L3, a, c, d, M1, M2, M3, h1, h2, h3 => by
    rw [cmpL] at h1 h3
    have i1 := inj1 h1
    have i3 := inj1 h3
    rw [if_neg (by simp)] at i1 i3
    exact fun _ _ => Or.inr ⟨Or.inl (by omega), by omega⟩
  | t :: ts, [], vs, L1, L2, L3, a, c, d, M1, M2, M3, h1, h2, h3 => by
    rw [cmpL] at h1
    have i1 := inj1 h1
    intro ha _
    omega
  | t :: ts, u :: us, [], L1, L2, L3, a, c, d, M1, M2, M3, h1, h2, h3 => by
    rw [cmpL] at h2
    have i2 := inj1 h2
    intro _ hc
    omega
  | t :: ts, u :: us, v :: vs, L1, L2, L3, a, c, d, M1, M2, M3, h1, h2, h3 => by
    have hv := cmpV_tr t u v L1 L2 L3
    have hl := cmpL_tr ts us vs
    rw [cmpL] at h1 h2 h3
    cases g1 : cmpV t u L1 with
    | none => rw [g1] at h1; cases h1
    | some p1 =>
    cases g2 : cmpV u v L2 with
    | none => rw [g2] at h2; cases h2
    | some p2 =>
    cases g3 : cmpV t v L3 with
    | none => rw [g3] at h3; cases h3
    | some p3 =>
    obtain ⟨a0, N1⟩ := p1
    obtain ⟨c0, N2⟩ := p2
    obtain ⟨d0, N3⟩ := p3
    have h0 := hv a0 c0 d0 N1 N2 N3 g1 g2 g3
    rw [g1] at h1
    rw [g2] at h2
    rw [g3] at h3
    simp only at h1 h2 h3
    unfold Tr at h0
    by_cases z1 : a0 = 0
    · rw [if_pos z1] at h1
      by_cases z2 : c0 = 0
      · rw [if_pos z2] at h2
        have z3 : d0 = 0 := by rcases h0 (by omega) (by omega) with h | h <;> omega
        rw [if_pos z3] at h3
        exact hl _ _ _ _ _ _ _ _ _ h1 h2 h3
      · rw [if_neg z2] at h2
        have i2 := inj1 h2
        intro ha hc
        rcases h0 (by omega) (by omega) with h | h
        · omega
        · rw [if_neg (show ¬ d0 = 0 by omega)] at h3
          have i3 := inj1 h3
          exact Or.inr ⟨Or.inr (by omega), by omega⟩
    · rw [if_neg z1] at h1
      have i1 := inj1 h1
      intro ha hc
      by_cases z2 : c0 = 0
      · rcases h0 (by omega) (by omega) with h | h
        · omega
        · rw [if_neg (show ¬ d0 = 0 by omega)] at h3
          have i3 := inj1 h3
          exact Or.inr ⟨Or.inl (by omega), by omega⟩
      · rw [if_neg z2] at h2
        have i2 := inj1 h2
        rcases h0 (by omega) (by omega) with h | h
        · omega
        · rw [if_neg (show ¬ d0 = 0 by omega)] at h3
          have i3 := inj1 h3
          exact Or.inr ⟨Or.inl (by omega), by omega⟩
end
theorem cmpR_tr {t u v : JV} (h1 : (cmpR t u).2 = true) (h2 : (cmpR u v).2 = true) (h3 : (cmpR t v).2 = true) : Tr (cmpR t u).1 (cmpR u v).1 (cmpR t v).1 := by
  have key : ∀ x y : JV, (cmpR x y).2 = true → ∃ M, cmpV x y 4096 = some ((cmpR x y).1, M) := fun x y h => by
    unfold cmpR at h ⊢
    cases hq : cmpV x y 4096 with
    | none => rw [hq] at h; cases h
    | some p => exact ⟨p.2, rfl⟩
  obtain ⟨M1, g1⟩ := key t u h1
  obtain ⟨M2, g2⟩ := key u v h2
  obtain ⟨M3, g3⟩ := key t v h3
  exact cmpV_tr t u v 4096 4096 4096 _ _ _ M1 M2 M3 g1 g2 g3
theorem cmpR_self (t : JV) : (cmpR t t).1 = 0 := by
  have h := cmpR_neg t t
  have h1 := congrArg Prod.fst h
  simp only at h1
  omega
theorem cmpV_lt (t u : JV) (L : Nat) (c : Int) (M : Nat) (h : cmpV t u (L + 1) = some (c, M)) : M ≤ L := by
  have hl := cmpL_le t.items u.items L c M
  have one : ∀ x : Int, some (x, L) = some (c, M) → M ≤ L := fun x e => by
    have := (Prod.mk.inj (Option.some.inj e)).2
    omega
  rw [cmpV_is] at h
  by_cases q1 : rk t.k = rk u.k
  · rw [if_pos q1] at h
    by_cases p1 : t.k = 3
    · rw [if_pos p1] at h; exact one _ h
    rw [if_neg p1] at h
    by_cases p2 : t.k = 4 ∨ t.k = 7
    · rw [if_pos p2] at h; exact one _ h
    rw [if_neg p2] at h
    by_cases p3 : t.k = 5
    · rw [if_pos p3] at h; exact hl h
    rw [if_neg p3] at h
    by_cases p4 : t.k = 6
    · rw [if_pos p4] at h
      by_cases p5 : ksC t.keys u.keys = 0
      · rw [if_pos p5] at h; exact hl h
      · rw [if_neg p5] at h; exact one _ h
    · rw [if_neg p4] at h; exact one _ h
  · rw [if_neg q1] at h; exact one _ h
mutual
theorem cmpV_mid : ∀ (t u v : JV) (L1 L2 L3 : Nat) (a c : Int) (M1 M2 : Nat), cmpV t u L1 = some (a, M1) → cmpV u v L2 = some (c, M2) → a ≤ 0 → c ≤ 0 → L1 ≤ L3 → ∃ d M3, cmpV t v L3 = some (d, M3) ∧ M1 ≤ M3
  | .mk k c0 s st is ks, u, v, 0, L2, L3, a, c, M1, M2, h, _, _, _, _ => by simp [cmpV] at h
  | .mk k c0 s st is ks, u, v, L1 + 1, 0, L3, a, c, M1, M2, _, h, _, _, _ => by rw [cmpV_zero] at h; cases h
  | .mk k c0 s st is ks, u, v, L1 + 1, L2 + 1, 0, a, c, M1, M2, _, _, _, _, h => by omega
  | .mk k c0 s st is ks, u, v, L1 + 1, L2 + 1, L3 + 1, a, c, M1, M2, h1, h2, ha, hc, hL => by
    have hl0 := cmpL_mid is u.items v.items L1 L2 L3 a c M1 M2
    obtain ⟨t, ht⟩ : ∃ t, JV.mk k c0 s st is ks = t := ⟨_, rfl⟩
    have hi : is = t.items := by rw [← ht]; rfl
    rw [hi] at hl0
    rw [ht] at h1 ⊢
    clear ht hi
    have hM : M1 ≤ L1 := cmpV_lt t u L1 a M1 h1
    rw [cmpV_is] at h1 h2 ⊢
    have one : ∀ x : Int, ∃ d M3, some (x, L3) = some (d, M3) ∧ M1 ≤ M3 := fun x => ⟨x, L3, rfl, by omega⟩
    by_cases q3 : rk t.k = rk v.k
    · rw [if_pos q3]
      have q1 : rk t.k = rk u.k := by
        by_cases q1 : rk t.k = rk u.k
        · exact q1
        · rw [if_neg q1] at h1
          rw [if_neg (fun h => q1 (q3.trans h.symm))] at h2
          have i1 := inj1 h1
          have i2 := inj1 h2
          rcases sgn_form (rk t.k) (rk u.k) with ⟨e1, f1⟩ | ⟨e1, f1⟩ | ⟨e1, f1⟩ <;> rcases sgn_form (rk u.k) (rk v.k) with ⟨e2, f2⟩ | ⟨e2, f2⟩ | ⟨e2, f2⟩ <;> omega
      have q2 : rk u.k = rk v.k := q1.symm.trans q3
      rw [if_pos q1] at h1
      rw [if_pos q2] at h2
      have e3 := rk_same q1 (m := 3) (by decide) (by decide)
      have e4 := rk_same q1 (m := 4) (by decide) (by decide)
      have e5 := rk_same q1 (m := 5) (by decide) (by decide)
      have e6 := rk_same q1 (m := 6) (by decide) (by decide)
      have e7 := rk_same q1 (m := 7) (by decide) (by decide)
      by_cases p1 : t.k = 3
      · rw [if_pos p1]; exact one _
      rw [if_neg p1] at h1 ⊢
      rw [if_neg (fun h => p1 (e3.2 h))] at h2
      by_cases p2 : t.k = 4 ∨ t.k = 7
      · rw [if_pos p2]; exact one _
      have p2' : ¬ (u.k = 4 ∨ u.k = 7) := by rw [← e4, ← e7]; exact p2
      rw [if_neg p2] at h1 ⊢
      rw [if_neg p2'] at h2
      by_cases p3 : t.k = 5
      · rw [if_pos p3] at h1 ⊢
        rw [if_pos (e5.1 p3)] at h2
        exact hl0 h1 h2 ha hc (by omega)
      rw [if_neg p3] at h1 ⊢
      rw [if_neg (fun h => p3 (e5.2 h))] at h2
      by_cases p4 : t.k = 6
      · rw [if_pos p4] at h1 ⊢
        rw [if_pos (e6.1 p4)] at h2
        by_cases z3 : ksC t.keys v.keys = 0
        · rw [if_pos z3]
          have hk := ksC_tr t.keys u.keys v.keys
          have z1 : ksC t.keys u.keys ≤ 0 := by
            by_cases z1 : ksC t.keys u.keys = 0
            · omega
            · rw [if_neg z1] at h1; have := inj1 h1; omega
          have z2 : ksC u.keys v.keys ≤ 0 := by
            by_cases z2 : ksC u.keys v.keys = 0
            · omega
            · rw [if_neg z2] at h2; have := inj1 h2; omega
          have z12 : ksC t.keys u.keys = 0 ∧ ksC u.keys v.keys = 0 := by rcases hk z1 z2 with h | h <;> omega
          rw [if_pos z12.1] at h1
          rw [if_pos z12.2] at h2
          exact hl0 h1 h2 ha hc (by omega)
        · rw [if_neg z3]; exact one _
      · rw [if_neg p4]; exact one _
    · rw [if_neg q3]; exact one _
theorem cmpL_mid : ∀ (ts us vs : List JV) (L1 L2 L3 : Nat) (a c : Int) (M1 M2 : Nat), cmpL ts us L1 = some (a, M1) → cmpL us vs L2 = some (c, M2) → a ≤ 0 → c ≤ 0 → L1 ≤ L3 → ∃ d M3, cmpL ts vs L3 = some (d, M3) ∧ M1 ≤ M3
  | [], us, vs, L1, L2, L3, a, c, M1, M2, h1, _, _, _, hL => by
    have := cmpL_le [] us L1 a M1 h1
    rw [cmpL]
    exact ⟨_, L3, rfl, by omega⟩
  | t :: ts, [], vs, L1, L2, L3, a, c, M1, M2, h1, _, ha, _, _ => by
    rw [cmpL] at h1
    have := inj1 h1
    omega
  | t :: ts, u :: us, [], L1, L2, L3, a, c, M1, M2, _, h2, _, hc, _ => by
    rw [cmpL] at h2
    have := inj1 h2
    omega
  | t :: ts, u :: us, v :: vs, L1, L2, L3, a, c, M1, M2, h1, h2, ha, hc, hL => by
    rw [cmpL] at h1 h2
    cases e1 : cmpV t u L1 with
    | none => rw [e1] at h1; cases h1
    | some p1 =>
    cases e2 : cmpV u v L2 with
    | none => rw [e2] at h2; cases h2
    | some p2 =>
    obtain ⟨a0, N1⟩ := p1
    obtain ⟨c0, N2⟩ := p2
    rw [e1] at h1
    rw [e2] at h2
    have h1' : (if a0 = 0 then cmpL ts us N1 else some (a0, N1)) = some (a, M1) := h1
    have h2' : (if c0 = 0 then cmpL us vs N2 else some (c0, N2)) = some (c, M2) := h2
    have ha0 : a0 ≤ 0 ∧ M1 ≤ N1 := by
      by_cases z : a0 = 0
      · rw [if_pos z] at h1'
        have := cmpL_le ts us N1 a M1 h1'
        omega
      · rw [if_neg z] at h1'
        have g1 := inj1 h1'
        have g2 := (Prod.mk.inj (Option.some.inj h1')).2
        omega
    have hc0 : c0 ≤ 0 := by
      by_cases z : c0 = 0
      · omega
      · rw [if_neg z] at h2'
        have g1 := inj1 h2'
        omega
    obtain ⟨d0, N3, e3, hN⟩ := cmpV_mid t u v L1 L2 L3 a0 c0 N1 N2 e1 e2 ha0.1 hc0 hL
    have htr := cmpV_tr t u v L1 L2 L3 a0 c0 d0 N1 N2 N3 e1 e2 e3 ha0.1 hc0
    rw [cmpL, e3]
    show ∃ d M3, (if d0 = 0 then cmpL ts vs N3 else some (d0, N3)) = some (d, M3) ∧ M1 ≤ M3
    by_cases z : d0 = 0
    · rw [if_pos z]
      rw [if_pos (by omega)] at h1' h2'
      exact cmpL_mid ts us vs N1 N2 N3 a c M1 M2 h1' h2' ha hc hN
    · rw [if_neg z]
      exact ⟨d0, N3, rfl, by omega⟩
end
/-- the order goes through thirds, and there is an answer between outer ones -/
theorem G_mid {t u v : JV} (h1 : G t u) (h2 : G u v) : G t v := by
  obtain ⟨k1, g1⟩ := h1
  obtain ⟨k2, g2⟩ := h2
  have k3 : (cmpR t v).2 = true := by
    unfold cmpR at k1 k2 g1 g2 ⊢
    cases e1 : cmpV t u 4096 with
    | none => rw [e1] at k1; cases k1
    | some p1 =>
    cases e2 : cmpV u v 4096 with
    | none => rw [e2] at k2; cases k2
    | some p2 =>
    obtain ⟨a, M1⟩ := p1
    obtain ⟨c, M2⟩ := p2
    rw [e1] at g1
    rw [e2] at g2
    obtain ⟨d, M3, e3, _⟩ := cmpV_mid t u v 4096 4096 4096 a c M1 M2 e1 e2 g1 g2 (Nat.le_refl _)
    rw [e3]
  refine ⟨k3, ?_⟩
  rcases cmpR_tr k1 k2 k3 g1 g2 with h | h <;> omega
/-- two have an answer -/
def Ans (t u : JV) : Prop := (cmpR t u).2 = true
theorem Ans.turn {t u : JV} (h : Ans t u) : Ans u t := by
  unfold Ans at h ⊢
  rw [cmpR_neg t u]
  exact h
theorem ans_perm {ts us : List JV} (h : ts.Perm us) : ts.Pairwise Ans ↔ us.Pairwise Ans := h.pairwise_iff (fun h => Ans.turn h)
theorem ans_next {z : List JV} (h : z.Pairwise Ans) {i j : Nat} (hij : i < j) {a b : JV} (h1 : z[i]? = some a) (h2 : z[j]? = some b) : Ans a b := by
  obtain ⟨q1, rfl⟩ := List.getElem?_eq_some_iff.1 h1
  obtain ⟨q2, rfl⟩ := List.getElem?_eq_some_iff.1 h2
  exact List.pairwise_iff_getElem.1 h i j q1 q2 hij
theorem Ch.far {z : List JV} (h : Ch z) : ∀ (d i : Nat) (a b : JV), z[i]? = some a → z[i + d + 1]? = some b → G a b
  | 0, i, a, b, h1, h2 => h i a b h1 h2
  | d + 1, i, a, b, h1, h2 => by
    have hl := (List.getElem?_eq_some_iff.1 h2).1
    have h3 : z[i + d + 1]? = some (z[i + d + 1]'(by omega)) := List.getElem?_eq_getElem (by omega)
    exact G_mid (Ch.far h d i a _ h1 h3) (h (i + d + 1) _ b h3 h2)
theorem Ch.ans {z : List JV} (h : Ch z) : z.Pairwise Ans := by
  rw [List.pairwise_iff_getElem]
  intro i j hi hj hij
  exact (Ch.far h (j - i - 1) i _ _ (List.getElem?_eq_getElem hi) (by rw [show i + (j - i - 1) + 1 = j by omega]; exact List.getElem?_eq_getElem hj)).1
/-- the place of a new one in a list that is in order: behind all from which on it is not behind -/
def pos (out : List JV) (u : JV) : Nat → Nat
  | 0 => 0
  | k + 1 => match out[k]? with
    | some b => if (cmpR b u).1 ≤ 0 then k + 1 else pos out u k
    | none => pos out u k
def insA (out : List JV) (u : JV) : List JV := out.take (pos out u out.length) ++ u :: out.drop (pos out u out.length)
/-- a list in order -/
def refS (ts : List JV) : List JV := ts.foldl insA []
theorem pos_le (out : List JV) (u : JV) : ∀ k, pos out u k ≤ k
  | 0 => Nat.le_refl _
  | k + 1 => by
    have h := pos_le out u k
    unfold pos
    split
    · split <;> omega
    · omega
theorem pos_is {out : List JV} {u : JV} {j : Nat} (hj : ∀ p b, j ≤ p → out[p]? = some b → 0 < (cmpR b u).1) (h0 : j = 0 ∨ ∃ y, out[j - 1]? = some y ∧ (cmpR y u).1 ≤ 0) : ∀ k, j ≤ k → pos out u k = j
  | 0, hk => by unfold pos; omega
  | k + 1, hk => by
    unfold pos
    by_cases e : j = k + 1
    · rcases h0 with h0 | ⟨y, hy, hc⟩
      · omega
      · rw [e, Nat.add_sub_cancel] at hy
        rw [hy, e]
        show (if (cmpR y u).1 ≤ 0 then k + 1 else pos out u k) = k + 1
        rw [if_pos hc]
    · have ih := pos_is hj h0 k (by omega)
      cases hb : out[k]? with
      | none => exact ih
      | some b =>
        show (if (cmpR b u).1 ≤ 0 then k + 1 else pos out u k) = j
        rw [if_neg (by have := hj k b (by omega) hb; omega)]
        exact ih
theorem insA_len (out : List JV) (u : JV) : (insA out u).length = out.length + 1 := by
  have := pos_le out u out.length
  unfold insA
  rw [List.length_append, List.length_take, List.length_cons, List.length_drop]
  omega
theorem refS_step {ts : List JV} {i : Nat} {u : JV} (h : ts[i]? = some u) : refS (ts.take (i + 1)) = insA (refS (ts.take i)) u := by
  unfold refS
  rw [List.take_add_one, h, List.foldl_append]
  rfl
theorem fold_len (ts : List JV) : ∀ acc : List JV, (ts.foldl insA acc).length = acc.length + ts.length := by
  induction ts with
  | nil => intro acc; rfl
  | cons t ts ih =>
    intro acc
    rw [List.foldl_cons, ih, insA_len, List.length_cons]
    omega
theorem refS_len (ts : List JV) : (refS ts).length = ts.length := by
  unfold refS
  rw [fold_len, List.length_nil, Nat.zero_add]
/-- a list with one more, at j -/
def mid (R : List JV) (u : JV) (j : Nat) : List JV := R.take j ++ u :: R.drop j
theorem sw_app {α : Type} (A : List α) (a b : α) (C : List α) : sw (A ++ a :: b :: C) A.length = A ++ b :: a :: C := by
  induction A with
  | nil => rfl
  | cons x A ih =>
    show x :: swp A.length (A ++ a :: b :: C) = x :: (A ++ b :: a :: C)
    exact congrArg (List.cons x) ih
theorem mid_at {R : List JV} {j : Nat} {y : JV} (hy : R[j]? = some y) (u : JV) (X : List JV) : mid R u (j + 1) ++ X = R.take j ++ y :: u :: (R.drop (j + 1) ++ X) := by
  unfold mid
  rw [List.take_add_one, hy]
  simp
theorem mid_at' {R : List JV} {j : Nat} {y : JV} (hy : R[j]? = some y) (u : JV) (X : List JV) : mid R u j ++ X = R.take j ++ u :: y :: (R.drop (j + 1) ++ X) := by
  obtain ⟨q, rfl⟩ := List.getElem?_eq_some_iff.1 hy
  have e : R.drop j = R[j] :: R.drop (j + 1) := List.drop_eq_getElem_cons q
  unfold mid
  rw [List.append_assoc, List.cons_append, e, List.cons_append]
theorem sw_mid {R : List JV} {j : Nat} {y : JV} (hy : R[j]? = some y) (u : JV) (X : List JV) : sw (mid R u (j + 1) ++ X) j = mid R u j ++ X := by
  have hl := (List.getElem?_eq_some_iff.1 hy).1
  rw [mid_at hy, mid_at' hy]
  have := sw_app (R.take j) y u (R.drop (j + 1) ++ X)
  rw [List.length_take, Nat.min_eq_left (by omega)] at this
  exact this
/-- the first i stand as they are sorted -/
def OutS (ts z : List JV) (i : Nat) : Prop := z = refS (ts.take i) ++ ts.drop i
/-- the one at i is on its way down, at j -/
def InS (ts z : List JV) (i j : Nat) : Prop := ∃ u, ts[i]? = some u ∧ j ≤ i ∧ z = mid (refS (ts.take i)) u j ++ ts.drop (i + 1) ∧ ∀ p b, j ≤ p → (refS (ts.take i))[p]? = some b → 0 < (cmpR b u).1
theorem OutS.start {ts : List JV} : OutS ts ts 1 := by
  unfold OutS
  cases ts with
  | nil => rfl
  | cons t ts => rfl
theorem OutS.into {ts z : List JV} {i : Nat} (h : OutS ts z i) (hi : i < ts.length) : InS ts z i i := by
  have hl : (refS (ts.take i)).length = i := by rw [refS_len, List.length_take]; omega
  refine ⟨ts[i], List.getElem?_eq_getElem hi, Nat.le_refl _, ?_, fun p b hp hb => ?_⟩
  · have e1 : (refS (ts.take i)).take i = refS (ts.take i) := List.take_of_length_le (by omega)
    have e2 : (refS (ts.take i)).drop i = [] := List.drop_of_length_le (by omega)
    have e3 : ts.drop i = ts[i] :: ts.drop (i + 1) := List.drop_eq_getElem_cons hi
    unfold OutS at h
    unfold mid
    rw [h, e1, e2, e3, List.append_assoc]
    rfl
  · have := (List.getElem?_eq_some_iff.1 hb).1
    omega
theorem OutS.done {ts z : List JV} (h : OutS ts z ts.length) : z = refS ts := by
  rw [h, List.take_length, List.drop_length, List.append_nil]
theorem OutS.all {ts z : List JV} {i : Nat} (h : OutS ts z i) (hi : ts.length ≤ i) : z = refS ts := by
  rw [h, List.take_of_length_le hi, List.drop_of_length_le hi, List.append_nil]
theorem InS.at {ts z : List JV} {i j : Nat} {x y : JV} (h : InS ts z i (j + 1)) (hy : z[j]? = some y) (hx : z[j + 1]? = some x) : ts[i]? = some x ∧ (refS (ts.take i))[j]? = some y ∧ z = mid (refS (ts.take i)) x (j + 1) ++ ts.drop (i + 1) := by
  obtain ⟨u, hu, hj, rfl, _⟩ := h
  have hl : (refS (ts.take i)).length = i := by
    have := (List.getElem?_eq_some_iff.1 hu).1
    rw [refS_len, List.length_take]; omega
  obtain ⟨y', hy'⟩ : ∃ y', (refS (ts.take i))[j]? = some y' := ⟨_, List.getElem?_eq_getElem (by omega)⟩
  rw [mid_at hy'] at hx hy
  have ht : ((refS (ts.take i)).take j).length = j := by rw [List.length_take]; omega
  rw [List.getElem?_append_right (by omega), ht] at hx hy
  have e1 : j + 1 - j = 1 := by omega
  rw [e1] at hx
  rw [Nat.sub_self] at hy
  obtain rfl : u = x := by simpa using hx
  obtain rfl : y' = y := by simpa using hy
  exact ⟨hu, hy', rfl⟩
theorem InS.step {ts z : List JV} {i j : Nat} {x y : JV} (h : InS ts z i (j + 1)) (hy : z[j]? = some y) (hx : z[j + 1]? = some x) (hc : (cmpR x y).1 < 0) : InS ts (sw z j) i j := by
  obtain ⟨g1, g2, g3⟩ := h.at hy hx
  obtain ⟨u, hu, hj, _, hall⟩ := h
  rw [hu] at g1
  obtain rfl := Option.some.inj g1
  refine ⟨u, hu, by omega, ?_, fun p b hp hb => ?_⟩
  · rw [g3]; exact sw_mid g2 u _
  · by_cases e : p = j
    · subst e
      rw [g2] at hb
      obtain rfl := Option.some.inj hb
      rw [cmpR_neg u y]
      show 0 < -(cmpR u y).1
      omega
    · exact hall p b (by omega) hb
theorem InS.done {ts : List JV} {i j : Nat} {u : JV} {z : List JV} (hu : ts[i]? = some u) (hj : j ≤ i) (hz : z = mid (refS (ts.take i)) u j ++ ts.drop (i + 1)) (hall : ∀ p b, j ≤ p → (refS (ts.take i))[p]? = some b → 0 < (cmpR b u).1) (h0 : j = 0 ∨ ∃ y, (refS (ts.take i))[j - 1]? = some y ∧ (cmpR y u).1 ≤ 0) : OutS ts z (i + 1) := by
  have hl : (refS (ts.take i)).length = i := by
    have := (List.getElem?_eq_some_iff.1 hu).1
    rw [refS_len, List.length_take]; omega
  unfold OutS
  rw [refS_step hu, hz]
  unfold insA mid
  rw [pos_is hall h0 _ (by omega)]
theorem InS.stop0 {ts z : List JV} {i : Nat} (h : InS ts z i 0) : OutS ts z (i + 1) := by
  obtain ⟨u, hu, hj, hz, hall⟩ := h
  exact InS.done hu hj hz hall (Or.inl rfl)
theorem InS.stop {ts z : List JV} {i j : Nat} {x y : JV} (h : InS ts z i (j + 1)) (hy : z[j]? = some y) (hx : z[j + 1]? = some x) (hc : ¬ (cmpR x y).1 < 0) : OutS ts z (i + 1) := by
  obtain ⟨g1, g2, g3⟩ := h.at hy hx
  obtain ⟨u, hu, hj, hz, hall⟩ := h
  rw [hu] at g1
  obtain rfl := Option.some.inj g1
  refine InS.done hu hj hz hall (Or.inr ⟨y, by rw [Nat.add_sub_cancel]; exact g2, ?_⟩)
  rw [cmpR_neg u y]
  show -(cmpR u y).1 ≤ 0
  omega
/-- both -/
structure Out2 (ts z : List JV) (i : Nat) : Prop where
  o : Out z i
  s : OutS ts z i
structure In2 (ts z : List JV) (i j : Nat) : Prop where
  o : In z i j
  s : InS ts z i j
/-- is a thing of a sorted list kept, when each is to stand there once? -/
def kp (S : List JV) : Nat → Bool
  | 0 => true
  | i + 1 => match S[i]?, S[i + 1]? with
    | some a, some b => decide ((cmpR a b).1 ≠ 0)
    | _, _ => false
theorem kp_at {S : List JV} {i : Nat} {a b : JV} (h1 : S[i]? = some a) (h2 : S[i + 1]? = some b) : kp S (i + 1) = decide ((cmpR a b).1 ≠ 0) := by
  show (match S[i]?, S[i + 1]? with
    | some a, some b => decide ((cmpR a b).1 ≠ 0)
    | _, _ => false) = _
  rw [h1, h2]
theorem kp_turn {S : List JV} {i : Nat} {a b : JV} (h1 : S[i]? = some a) (h2 : S[i + 1]? = some b) : kp S (i + 1) = decide ((cmpR b a).1 ≠ 0) := by
  rw [kp_at h1 h2, cmpR_neg a b]
  show decide _ = decide (-(cmpR a b).1 ≠ 0)
  congr 1
  exact propext ⟨fun h e => h (by omega), fun h e => h (by omega)⟩
/-- which things of the first n are kept -/
def onc (S : List JV) (n : Nat) : List Nat := (List.range n).filter (kp S)
theorem onc_succ (S : List JV) (n : Nat) : onc S (n + 1) = onc S n ++ if kp S n = true then [n] else [] := by
  unfold onc
  rw [List.range_succ, List.filter_append]
  congr 1
  simp only [List.filter_cons, List.filter_nil]
theorem onc_lt {S : List JV} {n i : Nat} (h : i ∈ onc S n) : i < n := List.mem_range.1 (List.mem_filter.1 h).1
theorem onc_le (S : List JV) (n : Nat) : (onc S n).length ≤ n := by
  have := List.length_filter_le (kp S) (List.range n)
  rw [List.length_range] at this
  exact this
theorem onc_all {S : List JV} {n : Nat} (h : ∀ j, j < n → kp S j = true) : onc S n = List.range n := by
  unfold onc
  rw [List.filter_eq_self]
  intro j hj
  exact h j (List.mem_range.1 hj)
/-- a row while those that are not kept are struck: r are read, k are kept -/
structure CpI {α : Type} (S : List JV) (l : List α) (k r : Nat) (cur : List α) : Prop where
  len : cur.length = l.length
  many : (onc S r).length = k
  lt : k < r
  le : r ≤ l.length
  low : ∀ p i : Nat, (onc S r)[p]? = some i → cur[p]? = l[i]?
  high : ∀ i : Nat, r ≤ i + 1 → cur[i]? = l[i]?
theorem CpI.start {α : Type} {S : List JV} {l : List α} {k : Nat} (h : ∀ j, j < k → kp S j = true) (h' : kp S k = false) (hk : k < l.length) : CpI S l k (k + 1) l := by
  have e : onc S (k + 1) = List.range k := by rw [onc_succ, h', onc_all h]; simp
  refine ⟨rfl, by rw [e, List.length_range], by omega, by omega, fun p i hp => ?_, fun i _ => rfl⟩
  rw [e] at hp
  obtain ⟨q, hq⟩ := List.getElem?_eq_some_iff.1 hp
  rw [List.getElem_range] at hq
  rw [hq]
theorem CpI.skip {α : Type} {S : List JV} {l cur : List α} {k r : Nat} (h : CpI S l k r cur) (hr : r < l.length) (hk : kp S r = false) : CpI S l k (r + 1) cur := by
  have e : onc S (r + 1) = onc S r := by rw [onc_succ, hk]; simp
  refine ⟨h.len, by rw [e]; exact h.many, by have := h.lt; omega, by omega, fun p i hp => h.low p i (by rw [← e]; exact hp), fun i hi => h.high i (by omega)⟩
theorem CpI.keep {α : Type} {S : List JV} {l cur : List α} {k r : Nat} {y : α} (h : CpI S l k r cur) (hy : l[r]? = some y) (hk : kp S r = true) : CpI S l (k + 1) (r + 1) (cur.set k y) := by
  have hr := (List.getElem?_eq_some_iff.1 hy).1
  have e : onc S (r + 1) = onc S r ++ [r] := by rw [onc_succ, hk]; simp
  have hlt := h.lt
  refine ⟨by rw [List.length_set]; exact h.len, by rw [e, List.length_append, h.many]; rfl, by omega, by omega, fun p i hp => ?_, fun i hi => ?_⟩
  · rw [e] at hp
    by_cases hpk : p = k
    · subst hpk
      rw [List.getElem?_append_right (by rw [h.many]; omega), h.many, Nat.sub_self] at hp
      obtain rfl : r = i := by simpa using hp
      rw [List.getElem?_set_self (by rw [h.len]; omega), hy]
    · have hpl : p < k := by
        have := (List.getElem?_eq_some_iff.1 hp).1
        rw [List.length_append, h.many] at this
        simp at this
        omega
      rw [List.getElem?_append_left (by rw [h.many]; exact hpl)] at hp
      rw [List.getElem?_set_ne (by omega)]
      exact h.low p i hp
  · rw [List.getElem?_set_ne (by omega)]
    exact h.high i (by omega)
/-- those that are kept -/
def pk {α : Type} (S : List JV) (l : List α) (n : Nat) : List α := (onc S n).filterMap (l[·]?)
theorem pk_len {α : Type} {S : List JV} {l : List α} {n : Nat} (h : n ≤ l.length) : (pk S l n).length = (onc S n).length := by
  induction n with
  | zero => rfl
  | succ n ih =>
    unfold pk at ih ⊢
    rw [onc_succ, List.filterMap_append, List.length_append, List.length_append, ih (by omega)]
    congr 1
    split
    · rw [List.filterMap_cons, List.getElem?_eq_getElem (show n < l.length by omega)]; rfl
    · rfl
theorem pk_succ {α : Type} {S : List JV} {l : List α} {n : Nat} {y : α} (h : l[n]? = some y) : pk S l (n + 1) = pk S l n ++ if kp S n = true then [y] else [] := by
  unfold pk
  rw [onc_succ, List.filterMap_append]
  congr 1
  split
  · rw [List.filterMap_cons, h]; rfl
  · rfl
theorem pk_map {α β : Type} (f : α → β) {S : List JV} {l : List α} {n : Nat} : (pk S l n).map f = pk S (l.map f) n := by
  unfold pk
  rw [List.map_filterMap]
  congr 1
  funext i
  rw [List.getElem?_map]
theorem pk_at {α : Type} {S : List JV} {l : List α} {n : Nat} (h : n ≤ l.length) (p : Nat) : (pk S l n)[p]? = (onc S n)[p]?.bind (l[·]?) := by
  induction n with
  | zero => rfl
  | succ n ih =>
    obtain ⟨y, hy⟩ : ∃ y, l[n]? = some y := ⟨_, List.getElem?_eq_getElem (by omega)⟩
    have hl := pk_len (S := S) (l := l) (n := n) (by omega)
    rw [pk_succ hy, onc_succ]
    by_cases hp : p < (onc S n).length
    · rw [List.getElem?_append_left (by omega), List.getElem?_append_left hp]
      exact ih (by omega)
    · rw [List.getElem?_append_right (by omega), List.getElem?_append_right (by omega), hl]
      split
      · cases hq : p - (onc S n).length with
        | zero => simpa using hy.symm
        | succ q => rfl
      · rfl
theorem CpI.done {α : Type} {S : List JV} {l cur : List α} {k r : Nat} (h : CpI S l k r cur) (hr : r = l.length) (p : Nat) (hp : p < k) : cur[p]? = (pk S l l.length)[p]? := by
  subst hr
  obtain ⟨i, hi⟩ : ∃ i, (onc S l.length)[p]? = some i := ⟨_, List.getElem?_eq_getElem (by rw [h.many]; exact hp)⟩
  rw [pk_at (Nat.le_refl _), hi, h.low p i hi]
  rfl
end Od
end Go.Proofs.Ytkmfoclhhnhkdaa
