/- Sorting as data: the order turned about, neighbours that rise, two neighbours that change places; rows of values of the call's own. -/
import Derived.Test.YtkmfoclhhnhkdaaOdMath
namespace Go.Proofs.Ytkmfoclhhnhkdaa
open Go.RowKit
namespace Od
open _root_.Go.Proofs.Ytkmfoclhhnhkdaa.Nm _root_.Go.Proofs.Ytkmfoclhhnhkdaa.Jv
theorem txC_neg (a b : ByteArray) : txC b a = - txC a b := by
  unfold txC
  by_cases h1 : ltB a b = true
  · have h2 := ltB_asymm h1
    have h3 : ¬ b = a := fun e => by subst e; rw [ltB_irrefl] at h1; cases h1
    rw [if_pos h1, if_neg (by rw [h2]; decide), if_neg h3]
    rfl
  · by_cases h2 : a = b
    · subst h2
      rw [if_neg h1, if_pos rfl]
      rfl
    · have h3 : ltB b a = true := (ltB_total h2).resolve_left h1
      rw [if_pos h3, if_neg h1, if_neg h2]
theorem sgn_neg (a b : Int) : sgn b a = - sgn a b := by
  unfold sgn
  by_cases h1 : a < b
  · rw [if_pos h1, if_neg (by omega), if_pos h1]; rfl
  · by_cases h2 : b < a
    · rw [if_pos h2, if_neg h1, if_pos h2]
    · rw [if_neg h2, if_neg h1, if_neg h1, if_neg h2]; rfl
theorem ksC_neg : ∀ ts us : List ByteArray, ksC us ts = - ksC ts us
  | [], [] => rfl
  | [], _ :: _ => by simp [ksC]
  | _ :: _, [] => by simp [ksC]
  | t :: ts, u :: us => by
    rw [ksC, ksC, txC_neg t u, ksC_neg ts us]
    by_cases h : txC t u = 0
    · rw [if_pos h, if_pos (by omega)]
    · rw [if_neg h, if_neg (by omega)]
theorem cmpI_neg (x y : Int) : cmpI y x = - cmpI x y := by
  unfold cmpI
  by_cases h : x = y
  · subst h; rw [if_pos rfl]; rfl
  · by_cases h1 : x < y
    · rw [if_neg (by omega), if_neg (by omega), if_neg h, if_pos h1]; rfl
    · rw [if_neg (by omega), if_pos (by omega), if_neg h, if_neg h1]
theorem nmC_neg (a b c d : Int) : nmC c d a b = - nmC a b c d := by
  unfold nmC
  rw [show mx (clS c d) (clS a b) = mx (clS a b) (clS c d) by unfold mx; omega]
  exact cmpI_neg _ _
theorem rk_same {k k' m : Int} (h : rk k = rk k') (h0 : 0 ≤ m) (h7 : m ≤ 7) : k = m ↔ k' = m := by
  unfold rk at h
  split at h <;> split at h <;> omega
def ng (p : Int × Nat) : Int × Nat := (-p.1, p.2)
mutual
theorem cmpV_neg : ∀ (t u : JV) (L : Nat), cmpV u t L = (cmpV t u L).map ng
  | .mk k c s st is ks, .mk k' c' s' st' is' ks', 0 => rfl
  | .mk k c s st is ks, .mk k' c' s' st' is' ks', L + 1 => by
    have hl := cmpL_neg is is' L
    rw [cmpV, cmpV]
    show (if rk k' = rk k then (if k' = 3 then some (nmC c' s' c s, L) else if k' = 4 ∨ k' = 7 then some (txC st' st, L) else if k' = 5 then cmpL is' is L else if k' = 6 then (if ksC ks' ks = 0 then cmpL is' is L else some (ksC ks' ks, L)) else some (0, L)) else some (sgn (rk k') (rk k), L)) = Option.map ng (if rk k = rk k' then (if k = 3 then some (nmC c s c' s', L) else if k = 4 ∨ k = 7 then some (txC st st', L) else if k = 5 then cmpL is is' L else if k = 6 then (if ksC ks ks' = 0 then cmpL is is' L else some (ksC ks ks', L)) else some (0, L)) else some (sgn (rk k) (rk k'), L))
    by_cases q0 : rk k = rk k'
    · rw [if_pos q0, if_pos q0.symm]
      have e3 := rk_same q0 (m := 3) (by decide) (by decide)
      have e4 := rk_same q0 (m := 4) (by decide) (by decide)
      have e5 := rk_same q0 (m := 5) (by decide) (by decide)
      have e6 := rk_same q0 (m := 6) (by decide) (by decide)
      have e7 := rk_same q0 (m := 7) (by decide) (by decide)
      by_cases q1 : k = 3
      · rw [if_pos q1, if_pos (e3.1 q1), nmC_neg c s c' s']; rfl
      rw [if_neg q1, if_neg (fun h => q1 (e3.2 h))]
      by_cases q2 : k = 4 ∨ k = 7
      · rw [if_pos q2, if_pos (by rw [← e4, ← e7]; exact q2), txC_neg st st']; rfl
      rw [if_neg q2, if_neg (by rw [← e4, ← e7]; exact q2)]
      by_cases q3 : k = 5
      · rw [if_pos q3, if_pos (e5.1 q3)]; exact hl
      rw [if_neg q3, if_neg (fun h => q3 (e5.2 h))]
      by_cases q4 : k = 6
      · rw [if_pos q4, if_pos (e6.1 q4), ksC_neg ks ks']
        by_cases q5 : ksC ks ks' = 0
        · rw [if_pos q5, if_pos (by omega)]; exact hl
        · rw [if_neg q5, if_neg (by omega)]; rfl
      · rw [if_neg q4, if_neg (fun h => q4 (e6.2 h))]; rfl
    · rw [if_neg q0, if_neg (fun h => q0 h.symm), sgn_neg (rk k) (rk k')]; rfl
theorem cmpL_neg : ∀ (ts us : List JV) (L : Nat), cmpL us ts L = (cmpL ts us L).map ng
  | [], [], L => rfl
  | [], _ :: _, L => by simp [cmpL, ng]
  | _ :: _, [], L => by simp [cmpL, ng]
  | t :: ts, u :: us, L => by
    rw [cmpL, cmpL, cmpV_neg t u L]
    cases cmpV t u L with
    | none => rfl
    | some p =>
      obtain ⟨c, M⟩ := p
      show (if -c = 0 then cmpL us ts M else some (-c, M)) = Option.map ng (if c = 0 then cmpL ts us M else some (c, M))
      rw [cmpL_neg ts us M]
      by_cases h : c = 0
      · rw [if_pos h, if_pos (by omega)]
      · rw [if_neg h, if_neg (by omega)]; rfl
end
/-- two neighbours change places -/
def swp {α : Type} : Nat → List α → List α
  | 0, [] => []
  | 0, [a] => [a]
  | 0, a :: b :: z => b :: a :: z
  | _ + 1, [] => []
  | p + 1, a :: z => a :: swp p z
abbrev sw {α : Type} (z : List α) (p : Nat) : List α := swp p z
theorem sw_perm {α : Type} (z : List α) (p : Nat) : (sw z p).Perm z := by
  induction p generalizing z with
  | zero =>
    match z with
    | [] => exact .refl _
    | [a] => exact .refl _
    | a :: b :: z => exact .swap _ _ _
  | succ p ih =>
    cases z with
    | nil => exact .refl _
    | cons a z => exact (ih z).cons a
theorem sw_len {α : Type} (z : List α) (p : Nat) : (sw z p).length = z.length := (sw_perm z p).length_eq
theorem sw_get {α : Type} (z : List α) (p : Nat) (h : p + 1 < z.length) (q : Nat) : (sw z p)[q]? = if q = p then z[p + 1]? else if q = p + 1 then z[p]? else z[q]? := by
  induction p generalizing z q with
  | zero =>
    match z, h with
    | [], h => simp at h
    | [a], h => simp at h
    | a :: b :: z, h =>
      match q with
      | 0 => rfl
      | 1 => rfl
      | q + 2 => rw [if_neg (by omega), if_neg (by omega)]; rfl
  | succ p ih =>
    cases z with
    | nil => simp at h
    | cons a z =>
      cases q with
      | zero => rw [if_neg (by omega), if_neg (by omega)]; rfl
      | succ q =>
        have := ih z (by simpa using h) q
        show (sw z p)[q]? = _
        rw [this]
        by_cases h1 : q = p
        · subst h1
          rw [if_pos rfl, if_pos rfl]
          rfl
        · rw [if_neg h1, if_neg (show ¬ q + 1 = p + 1 by omega)]
          by_cases h2 : q = p + 1
          · subst h2
            rw [if_pos rfl, if_pos rfl]
            rfl
          · rw [if_neg h2, if_neg (show ¬ q + 1 = p + 1 + 1 by omega)]
            rfl
theorem sw_map {α β : Type} (f : α → β) (z : List α) (p : Nat) : (sw z p).map f = sw (z.map f) p := by
  induction p generalizing z with
  | zero =>
    match z with
    | [] => rfl
    | [a] => rfl
    | a :: b :: z => rfl
  | succ p ih =>
    cases z with
    | nil => rfl
    | cons a z =>
      show f a :: (sw z p).map f = f a :: sw (z.map f) p
      rw [ih z]
/-- a row of values in a block of its own -/
structure Rw6 (w : World) (q : Nat) (s : List Six) : Prop where
  blk : ∃ cur, w.heap[q]? = some (.cells cur 27 (0, 0))
  at6 : ∀ (i : Nat) (y : Six), s[i]? = some y → At6 w q (i * 6) y
/-- six cells written -/
def st6 (w : World) (q p : Nat) (y : Six) : World := (((((w.setCell ⟨q, p, none⟩ (.int .i64 y.k)).setCell ⟨q, p + 1, none⟩ (.int .i64 y.c)).setCell ⟨q, p + 2, none⟩ (.int .i64 y.s)).setCell ⟨q, p + 3, none⟩ (.string y.st)).setCell ⟨q, p + 4, none⟩ y.iv).setCell ⟨q, p + 5, none⟩ y.kv
theorem st6_far {w : World} {q p : Nat} {y : Six} {a : Addr} (h : a.block ≠ q ∨ a.off < p ∨ p + 6 ≤ a.off) : (st6 w q p y).cell? a = w.cell? a := by
  have hn : ∀ d, d < 6 → (⟨q, p + d, none⟩ : Addr) ≠ a := fun d hd e => by subst e; simp at h; omega
  have hn0 : (⟨q, p, none⟩ : Addr) ≠ a := fun e => by subst e; simp at h; omega
  unfold st6
  rw [World.cell?_setCell_other (h := hn 5 (by decide)), World.cell?_setCell_other (h := hn 4 (by decide)), World.cell?_setCell_other (h := hn 3 (by decide)), World.cell?_setCell_other (h := hn 2 (by decide)), World.cell?_setCell_other (h := hn 1 (by decide)), World.cell?_setCell_other (h := hn0)]
theorem st6_at {w : World} {q p : Nat} {x y : Six} (h : At6 w q p x) : At6 (st6 w q p y) q p y := by
  obtain ⟨h0, h1, h2, h3, h4, h5⟩ := h
  have ne : ∀ c d, c ≠ d → (⟨q, p + c, none⟩ : Addr) ≠ ⟨q, p + d, none⟩ := fun c d hcd e => by
    injection e with _ e2 _
    omega
  have e0 : ∀ d, d ≠ 0 → (⟨q, p + d, none⟩ : Addr) ≠ ⟨q, p, none⟩ := fun d hd e => by
    injection e with _ e2 _
    omega
  have f0 : ∀ d, d ≠ 0 → (⟨q, p, none⟩ : Addr) ≠ ⟨q, p + d, none⟩ := fun d hd e => e0 d hd e.symm
  unfold st6
  refine ⟨?_, ?_, ?_, ?_, ?_, ?_⟩
  · rw [World.cell?_setCell_other (h := e0 5 (by decide)), World.cell?_setCell_other (h := e0 4 (by decide)), World.cell?_setCell_other (h := e0 3 (by decide)), World.cell?_setCell_other (h := e0 2 (by decide)), World.cell?_setCell_other (h := e0 1 (by decide))]
    exact World.cell?_setCell_same _ _ _ h0
  · rw [World.cell?_setCell_other (h := ne 5 1 (by decide)), World.cell?_setCell_other (h := ne 4 1 (by decide)), World.cell?_setCell_other (h := ne 3 1 (by decide)), World.cell?_setCell_other (h := ne 2 1 (by decide))]
    exact World.cell?_setCell_same _ _ _ (by rw [World.cell?_setCell_other (h := f0 1 (by decide))]; exact h1)
  · rw [World.cell?_setCell_other (h := ne 5 2 (by decide)), World.cell?_setCell_other (h := ne 4 2 (by decide)), World.cell?_setCell_other (h := ne 3 2 (by decide))]
    exact World.cell?_setCell_same _ _ _ (by rw [World.cell?_setCell_other (h := ne 1 2 (by decide)), World.cell?_setCell_other (h := f0 2 (by decide))]; exact h2)
  · rw [World.cell?_setCell_other (h := ne 5 3 (by decide)), World.cell?_setCell_other (h := ne 4 3 (by decide))]
    exact World.cell?_setCell_same _ _ _ (by rw [World.cell?_setCell_other (h := ne 2 3 (by decide)), World.cell?_setCell_other (h := ne 1 3 (by decide)), World.cell?_setCell_other (h := f0 3 (by decide))]; exact h3)
  · rw [World.cell?_setCell_other (h := ne 5 4 (by decide))]
    exact World.cell?_setCell_same _ _ _ (by rw [World.cell?_setCell_other (h := ne 3 4 (by decide)), World.cell?_setCell_other (h := ne 2 4 (by decide)), World.cell?_setCell_other (h := ne 1 4 (by decide)), World.cell?_setCell_other (h := f0 4 (by decide))]; exact h4)
  · exact World.cell?_setCell_same _ _ _ (by rw [World.cell?_setCell_other (h := ne 4 5 (by decide)), World.cell?_setCell_other (h := ne 3 5 (by decide)), World.cell?_setCell_other (h := ne 2 5 (by decide)), World.cell?_setCell_other (h := ne 1 5 (by decide)), World.cell?_setCell_other (h := f0 5 (by decide))]; exact h5)
theorem st6_blk {w : World} {q p : Nat} {y : Six} (h : ∃ cur, w.heap[q]? = some (.cells cur 27 (0, 0))) : ∃ cur, (st6 w q p y).heap[q]? = some (.cells cur 27 (0, 0)) := by
  have one : ∀ (w : World) (o : Nat) (u : Value), (∃ cur, w.heap[q]? = some (.cells cur 27 (0, 0))) → ∃ cur, (w.setCell ⟨q, o, none⟩ u).heap[q]? = some (.cells cur 27 (0, 0)) := fun w o u ⟨cur, h⟩ => by
    refine ⟨cur.setIfInBounds o u, ?_⟩
    simp [World.setCell, Array.getElem?_modify, h]
  unfold st6
  exact one _ _ _ (one _ _ _ (one _ _ _ (one _ _ _ (one _ _ _ (one _ _ _ h)))))
section
variable {w : World} {q : Nat} {s : List Six}
theorem Rw6.lt (h : Rw6 w q s) : q < w.heap.size := by obtain ⟨cur, h⟩ := h.blk; exact (Array.getElem?_eq_some_iff.1 h).1
theorem Rw6.free (h : Rw6 w q s) (o : Nat) : w.frozen? ⟨q, o, none⟩ = false := by
  obtain ⟨cur, h⟩ := h.blk
  simp [World.frozen?, h]
theorem Rw6.on {w' : World} (h : Rw6 w q s) (hb : w'.heap[q]? = w.heap[q]?) : Rw6 w' q s :=
  ⟨by rw [hb]; exact h.blk, fun i y hy => (h.at6 i y hy).blk hb⟩
theorem Rw6.swap (h : Rw6 w q s) {j : Nat} {x y : Six} (hx : s[j + 1]? = some x) (hy : s[j]? = some y) : Rw6 (st6 (st6 w q ((j + 1) * 6) y) q (j * 6) x) q (sw s j) := by
  have hl : j + 1 < s.length := (List.getElem?_eq_some_iff.1 hx).1
  refine ⟨st6_blk (st6_blk h.blk), fun i z hz => ?_⟩
  rw [sw_get s j hl] at hz
  have A1 := h.at6 _ _ hx
  have A2 := h.at6 _ _ hy
  have mv : ∀ {w : World} {p o : Nat} {y z : Six}, At6 w q o z → (o + 6 ≤ p ∨ p + 6 ≤ o) → At6 (st6 w q p y) q o z := fun {w p o y z} ⟨h0, h1, h2, h3, h4, h5⟩ ho =>
    ⟨(st6_far (by simp; omega)).trans h0, (st6_far (by simp; omega)).trans h1, (st6_far (by simp; omega)).trans h2, (st6_far (by simp; omega)).trans h3, (st6_far (by simp; omega)).trans h4, (st6_far (by simp; omega)).trans h5⟩
  by_cases h1 : i = j
  · subst h1
    rw [if_pos rfl, hx] at hz
    obtain rfl := Option.some.inj hz
    exact st6_at (mv A2 (by omega))
  · rw [if_neg h1] at hz
    by_cases h2 : i = j + 1
    · subst h2
      rw [if_pos rfl, hy] at hz
      obtain rfl := Option.some.inj hz
      exact mv (st6_at A1) (by omega)
    · rw [if_neg h2] at hz
      exact mv (mv (h.at6 i z hz) (by omega)) (by omega)
end
end Od
end Go.Proofs.Ytkmfoclhhnhkdaa
