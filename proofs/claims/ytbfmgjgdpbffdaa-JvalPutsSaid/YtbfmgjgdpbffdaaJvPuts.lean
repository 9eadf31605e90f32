/- JvalPuts answers true for every two values and two texts. -/
import Derived.Test.YtbfmgjgdpbffdaaJvBs
import Derived.Deep.QuietTactic
import Derived.BigQuiet
namespace Go.Proofs.Ytbfmgjgdpbffdaa
open Go.RowKit
namespace Jv
open _root_.Go.Proofs.Ytbfmgjgdpbffdaa.Nm
set_option maxRecDepth 100000 in
theorem run_leB (x y : ByteArray) (w : World) : (binOp .leq 9 (.string x) (.string y)).run Try.prog w = .ok (.bool (leB x y)) w := by
  simp [binOp, Op.stringOp, leB, go_sem]
/-- a value's parts that stand in slices -/
theorem VT.parts {w : World} {n : Nat} {x : Six} {t : JV} (h : VT w n x t) : ∃ ko kc io ic, x.kv = .slice ko t.keys.length kc ∧ x.iv = .slice io t.items.length ic ∧ t.keys.length ≤ maxLen ∧ t.items.length ≤ maxLen ∧
    (0 < t.keys.length → ∃ k o, ko = some ⟨k, o, none⟩ ∧ k < w.heap.size ∧ ∀ j s, t.keys[j]? = some s → w.cell? ⟨k, o + j, none⟩ = some (.string s)) ∧
    (0 < t.items.length → ∃ k o, io = some ⟨k, o, none⟩ ∧ k < w.heap.size ∧ ∀ j z, t.items[j]? = some z → ∃ y m, At6 w k (o + j * 6) y ∧ VT w m y z) ∧ x.k = t.k ∧ ∀ s ∈ t.keys, s.size ≤ maxLen := by
  cases n with
  | zero => exact h.elim
  | succ n =>
    obtain ⟨e1, _, _, _, ⟨ko, kc, h1, h2, h3, _, h4⟩, hB, l, ⟨io, ic, g1, g2, g3, _, g4⟩, hl, ht⟩ := h
    refine ⟨ko, kc, io, ic, h1, hl ▸ g1, by omega, by omega, h4, fun h0 => ?_, e1, hB.2.2.2.2⟩
    obtain ⟨k, o, q1, q2, q3⟩ := g4 (by omega)
    refine ⟨k, o, q1, q2, fun j z hz => ?_⟩
    have hj : j < l.length := by have := (List.getElem?_eq_some_iff.1 hz).1; omega
    exact ⟨_, n, q3 j _ (List.getElem?_eq_getElem hj), ht j _ z (List.getElem?_eq_getElem hj) hz⟩
/-- Get, cell by cell -/
theorem get_cells (x : Six) (t : JV) (key : ByteArray) (wr : World) (h : ∃ n, VT wr n x t) :
    Calls Try.prog 23 #[.agg #[.int .i64 x.k, .int .i64 x.c, .int .i64 x.s, .string x.st, x.iv, x.kv], .string key] wr fun e w' => ∃ uk uc us ust ua un uo va vn vo, e = .returned (.tuple #[.agg #[.int .i64 uk, .int .i64 uc, .int .i64 us, .string ust, .slice ua un uo, .slice va vn vo], .bool (gotT t key).2]) ∧ (∃ q, VT w' q ⟨uk, uc, us, ust, .slice ua un uo, .slice va vn vo⟩ (gotT t key).1) ∧ Below wr.heap.size wr w' := by
  obtain ⟨n, h⟩ := h
  have h1 := get_anyT n x t key wr h
  unfold Six.val vV at h1
  refine h1.mono ?_
  rintro e w' ⟨u, rfl, hu, hb⟩
  obtain ⟨⟨ua, un, uo, g1⟩, va, vn, vo, g2⟩ := hu.one
  obtain ⟨uk, uc, us, ust, ui, uv⟩ := u
  simp only at g1 g2
  subst g1 g2
  exact ⟨_, _, _, _, _, _, _, _, _, _, rfl, ⟨_, hu⟩, hb⟩
theorem Sx.set6 {B k : Nat} {o a : World} {fx : List (Addr × Value)} (h : Sx B o fx a) (hk : B ≤ k) (hl : ∀ t ∈ fx, t.1.block < k) (u0 u1 u2 u3 u4 u5 : Value) :
    Sx B o fx ((((((a.setCell ⟨k, 0, none⟩ u0).setCell ⟨k, 1, none⟩ u1).setCell ⟨k, 2, none⟩ u2).setCell ⟨k, 3, none⟩ u3).setCell ⟨k, 4, none⟩ u4).setCell ⟨k, 5, none⟩ u5) := by
  have step : ∀ (a : World) (i : Nat) (u : Value), Sx B o fx a → Sx B o fx (a.setCell ⟨k, i, none⟩ u) := fun a i u h =>
    ⟨h.1.setCell hk u, fun t ht => ⟨by simpa using (h.2 t ht).1, (World.cell?_of_block (a := t.1) (Below.heap_setCell a ⟨k, i, none⟩ u t.1.block (Nat.ne_of_lt (hl t ht)))).trans (h.2 t ht).2⟩⟩
  exact step _ 5 u5 (step _ 4 u4 (step _ 3 u3 (step _ 2 u2 (step _ 1 u1 (step _ 0 u0 h)))))
theorem Bs.new5 {w wr wx : World} {l : List (Nat × Six × JV)} {k n : Nat} {x : Six} {t : JV} (h : Bs w wr l) (hb : Below wr.heap.size wr wx) (hv : Vb wx k x.cells.toArray) (ht : VT wr n x t) : Bs w wx ((k, x, t) :: l) := by
  have h' := h.on hb
  refine ⟨h'.bel, fun p hp => ?_, fun p hp => ?_⟩
  · rcases List.mem_cons.1 hp with rfl | hp
    · exact hv
    · exact h'.box p hp
  · rcases List.mem_cons.1 hp with rfl | hp
    · exact ⟨n, VT.on hb n ht⟩
    · exact h'.tree p hp
/-- Get, of a value that was read earlier -/
theorem get_at (x : Six) (t : JV) (key : ByteArray) (w0 wr : World) (h : ∃ n, VT w0 n x t) (hw : Below w0.heap.size w0 wr) :
    Calls Try.prog 23 #[.agg #[.int .i64 x.k, .int .i64 x.c, .int .i64 x.s, .string x.st, x.iv, x.kv], .string key] wr fun e w' => ∃ uk uc us ust ua un uo va vn vo, e = .returned (.tuple #[.agg #[.int .i64 uk, .int .i64 uc, .int .i64 us, .string ust, .slice ua un uo, .slice va vn vo], .bool (gotT t key).2]) ∧ (∃ q, VT w0 q ⟨uk, uc, us, ust, .slice ua un uo, .slice va vn vo⟩ (gotT t key).1) ∧ Below wr.heap.size wr w' := by
  obtain ⟨n, hx⟩ := h
  have fin : ∀ (u : Six) (q : Nat) (g : Bool) (w' : World), VT w0 q u (gotT t key).1 → g = (gotT t key).2 → Below wr.heap.size wr w' → ∃ uk uc us ust ua un uo va vn vo, (Ending.returned (.tuple #[u.val, .bool g])) = .returned (.tuple #[.agg #[.int .i64 uk, .int .i64 uc, .int .i64 us, .string ust, .slice ua un uo, .slice va vn vo], .bool (gotT t key).2]) ∧ (∃ q, VT w0 q ⟨uk, uc, us, ust, .slice ua un uo, .slice va vn vo⟩ (gotT t key).1) ∧ Below wr.heap.size wr w' := by
    intro u q g w' hu hg hb
    obtain ⟨⟨ua, un, uo, g1⟩, va, vn, vo, g2⟩ := hu.one
    obtain ⟨uk, uc, us, ust, ui, uv⟩ := u
    simp only at g1 g2
    subst g1 g2 hg
    exact ⟨_, _, _, _, _, _, _, _, _, _, rfl, ⟨_, hu⟩, hb⟩
  cases n with
  | zero => exact hx.elim
  | succ n =>
  obtain ⟨e1, e2, e3, e4, e5, hB, l, hl, hll, hlt⟩ := hx
  have hone : ∀ y ∈ l, y.one := fun y hy => by
    obtain ⟨j, hj⟩ := List.getElem?_of_mem hy
    have hjl := (List.getElem?_eq_some_iff.1 hj).1
    exact (hlt j y _ hj (List.getElem?_eq_getElem (by omega))).one
  have h1 := get_any x t.keys l key wr (e5.on hw) (hl.on hw) hone
  unfold Six.val vV at h1
  refine h1.mono ?_
  rintro e w' ⟨rfl, b⟩
  have hz : VT w0 1 six0 jv0 := VT.zero w0
  by_cases ho : t.k = 6 ∧ t.keys.length = t.items.length
  · have ho' : x.k = 6 ∧ t.keys.length = l.length := ⟨by rw [e1]; exact ho.1, by rw [hll]; exact ho.2⟩
    have eg : gotT t key = gotL t.keys t.items jv0 key := by unfold gotT; rw [if_pos ho]
    unfold gotS
    rw [if_pos ho']
    unfold gotL at eg
    cases hz2 : t.items[(idx t.keys key).toNat]? with
    | none =>
      have hy : l[(idx t.keys key).toNat]? = none := by rw [List.getElem?_eq_none_iff] at hz2 ⊢; omega
      rw [hz2] at eg
      rw [hy]
      exact fin six0 1 false w' (by rw [eg]; exact hz) (by rw [eg]) b
    | some z =>
      obtain ⟨y, hy⟩ : ∃ y, l[(idx t.keys key).toNat]? = some y := by
        have := (List.getElem?_eq_some_iff.1 hz2).1
        exact ⟨_, List.getElem?_eq_getElem (by omega)⟩
      rw [hz2] at eg
      rw [hy]
      simp only at eg ⊢
      by_cases hi : 0 ≤ idx t.keys key
      · rw [if_pos hi] at eg ⊢
        exact fin y n true w' (by rw [eg]; exact hlt _ y z hy hz2) (by rw [eg]) b
      · rw [if_neg hi] at eg ⊢
        exact fin six0 1 false w' (by rw [eg]; exact hz) (by rw [eg]) b
  · have eg : gotT t key = (jv0, false) := by unfold gotT; rw [if_neg ho]
    unfold gotS
    rw [if_neg (by rw [e1, hll]; exact ho)]
    exact fin six0 1 false w' (by rw [eg]; exact hz) (by rw [eg]) b
/-- Same, cell by cell, of values of one tree -/
theorem same_cells (x y : Six) (t : JV) (wr : World) (h : ∃ n, VT wr n x t) (g : ∃ n, VT wr n y t) :
    Calls Try.prog 13 #[.agg #[.int .i64 x.k, .int .i64 x.c, .int .i64 x.s, .string x.st, x.iv, x.kv], .agg #[.int .i64 y.k, .int .i64 y.c, .int .i64 y.s, .string y.st, y.iv, y.kv]] wr fun e w' => e = .returned (.bool true) ∧ Below wr.heap.size wr w' := by
  obtain ⟨n, h⟩ := h
  obtain ⟨m, g⟩ := g
  have h1 := rsame_any n m x y t t wr h g
  unfold Six.val vV at h1
  rw [sameB_refl] at h1
  exact h1
/-- what Put's value has -/
theorem puts_facts {tx ty : JV} {a : ByteArray} (h6 : tx.k = 6 ∧ tx.keys.length = tx.items.length) (hu : Up tx.keys) :
    (putT tx a ty).k = 6 ∧ Up (putT tx a ty).keys ∧ (putT tx a ty).keys.length = (putT tx a ty).items.length ∧ gotT (putT tx a ty) a = (ty, true) ∧ (∀ b, b ≠ a → gotT (putT tx a ty) b = gotT tx b) ∧
    (∀ (i : Nat) (s : ByteArray) (z : JV), tx.keys[i]? = some s → tx.items[i]? = some z → (gotT (putT tx a ty) s).2 = true ∧ (s ≠ a → (gotT (putT tx a ty) s).1 = z)) ∧
    (putT tx a ty).keys.length = (if (gotT tx a).2 = true then tx.keys.length else tx.keys.length + 1) := by
  obtain ⟨h1, h2⟩ := h6
  have e : putT tx a ty = .mk tx.k tx.c tx.s tx.st (putI tx.keys tx.items a ty) (putK tx.keys a) := by unfold putT; rw [if_pos ⟨h1, h2⟩]
  have hl := putKI_len (key := a) (v := ty) h2
  have g0 : ∀ b, gotT tx b = gotL tx.keys tx.items jv0 b := fun b => by unfold gotT; rw [if_pos ⟨h1, h2⟩]
  have g1 : ∀ b, gotT (putT tx a ty) b = gotL (putK tx.keys a) (putI tx.keys tx.items a ty) jv0 b := fun b => by
    rw [e]; unfold gotT; rw [if_pos ⟨h1, hl⟩]; rfl
  have g2 : ∀ b, b ≠ a → gotT (putT tx a ty) b = gotT tx b := fun b hb => by rw [g1, g0, got_other h2 hu hb]
  refine ⟨by rw [e]; exact h1, by rw [e]; exact putK_up hu, by rw [e]; exact hl, by rw [g1, got_put h2 hu], g2, fun i s z hs hz => ?_, ?_⟩
  · by_cases hsa : s = a
    · subst hsa
      rw [g1, got_put h2 hu]
      exact ⟨rfl, fun h => absurd rfl h⟩
    · rw [g2 s hsa, g0, gotL_some hu (v := z) (List.mem_of_getElem? (i := i) (List.getElem?_zip_eq_some.2 ⟨hs, hz⟩))]
      exact ⟨rfl, fun _ => rfl⟩
  · rw [g0, got_snd h2, e]
    show (putK tx.keys a).length = _
    rw [putK_len]
    simp only [decide_eq_true_eq]
set_option maxRecDepth 100000 in
set_option maxHeartbeats 32000000 in
theorem puts_any (n m : Nat) (x y : Six) (tx ty : JV) (a b : ByteArray) (w : World) (hx : VT w n x tx) (hy : VT w m y ty) (ha : a.size ≤ maxLen) :
    Calls Try.prog 6 #[x.val, y.val, .agg #[.string a, .string b]] w fun e w' => e = .returned (.bool true) ∧ Below w.heap.size w w' := by
  obtain ⟨ko, kc, io, ic, hkv, hiv, hmk, hmi, hkc, hic, hk, hks⟩ := hx.parts
  obtain ⟨l, hl⟩ : ∃ l : List JV, tx.items = l := ⟨_, rfl⟩
  rw [hl] at hiv hmi hic
  have HKC := Lib.hid hkc
  have HIC := Lib.hid hic
  have HKS := Lib.hid hks
  have HL := Lib.hid hl
  unfold maxLen at hmk hmi
  clear hkc hic hks hl
  obtain ⟨k, c, s, st, iv, kv⟩ := x
  simp only at hkv hiv hk
  subst hkv hiv hk
  have HX := Lib.hid hx
  have HY := Lib.hid hy
  have HA := Lib.hid ha
  clear hx hy ha
  unfold Six.val vV
  go_enter Try.func6, Try.ntmps6
  go_upto_region 1 with (fail)
  have HB0 : Hid (Bs w (((w.alloc (Obj.cells #[.int .i64 tx.k, .int .i64 c, .int .i64 s, .string st, .slice io l.length ic, .slice ko tx.keys.length kc] 27)).alloc (Obj.cells #[.int .i64 y.k, .int .i64 y.c, .int .i64 y.s, .string y.st, y.iv, y.kv] 27)).alloc (Obj.cells #[.string a, .string b] 40)) [(w.heap.size, ⟨tx.k, c, s, st, .slice io l.length ic, .slice ko tx.keys.length kc⟩, tx), (w.heap.size + 1, y, ty)]) := Lib.hid (by
    have h0 : Bs w w [] := ⟨Below.refl _ _, fun p hp => by simp at hp, fun p hp => by simp at hp⟩
    have h1 := h0.push HX.out
    have h2 := (h1.push (VT.on (bA1 _ _) m HY.out)).on (bA1 _ (Obj.cells #[.string a, .string b] 40))
    refine Bs.sub h2 (fun p hp => ?_)
    simp only [List.mem_cons, List.not_mem_nil, or_false] at hp ⊢
    rcases hp with rfl | rfl
    · exact Or.inr rfl
    · left; simp)
  have hkb := heap_alloc_new ((w.alloc (Obj.cells #[.int .i64 tx.k, .int .i64 c, .int .i64 s, .string st, .slice io l.length ic, .slice ko tx.keys.length kc] 27)).alloc (Obj.cells #[.int .i64 y.k, .int .i64 y.c, .int .i64 y.s, .string y.st, y.iv, y.kv] 27)) (Obj.cells #[.string a, .string b] 40)
  have hk0 := cell_of_row _ _ 0 _ _ _ hkb
  have hk1 := cell_of_row _ _ 1 _ _ _ hkb
  have hsz : ((w.alloc (Obj.cells #[.int .i64 tx.k, .int .i64 c, .int .i64 s, .string st, .slice io l.length ic, .slice ko tx.keys.length kc] 27)).alloc (Obj.cells #[.int .i64 y.k, .int .i64 y.c, .int .i64 y.s, .string y.st, y.iv, y.kv] 27)).heap.size = w.heap.size + 1 + 1 := by simp
  rw [hsz] at hk0 hk1
  simp only [List.getElem?_toArray, List.getElem?_cons_succ, List.getElem?_cons_zero] at hk0 hk1
  obtain ⟨w0, hw0⟩ : ∃ w0, ((w.alloc (Obj.cells #[.int .i64 tx.k, .int .i64 c, .int .i64 s, .string st, .slice io l.length ic, .slice ko tx.keys.length kc] 27)).alloc (Obj.cells #[.int .i64 y.k, .int .i64 y.c, .int .i64 y.s, .string y.st, y.iv, y.kv] 27)).alloc (Obj.cells #[.string a, .string b] 40) = w0 := ⟨_, rfl⟩
  rw [hw0] at HB0 hk0 hk1 ⊢
  clear hw0 hkb hsz
  go_cut [7, 8] (fun p q wx => p = .string a ∧ q = .string b ∧ Hid (Bs w wx [(w.heap.size, ⟨tx.k, c, s, st, .slice io l.length ic, .slice ko tx.keys.length kc⟩, tx), (w.heap.size + 1, y, ty)]))
  case first =>
    go_quiet (fail)
    go_wp2
    go_meet
    exact ⟨rfl, rfl, Lib.hid (HB0.out.drewN _)⟩
  case rest =>
  clear HB0 hk0 hk1
  obtain ⟨rfl, rfl, HB⟩ := hcut
  have hLX : ∀ wr, Bs w wr [(w.heap.size, ⟨tx.k, c, s, st, .slice io l.length ic, .slice ko tx.keys.length kc⟩, tx), (w.heap.size + 1, y, ty)] → Calls Try.prog 8 #[.agg #[.int .i64 tx.k, .int .i64 c, .int .i64 s, .string st, .slice io l.length ic, .slice ko tx.keys.length kc], .int .i64 300] wr fun e w' => e = .returned (.bool (lightB 300 tx)) ∧ Below wr.heap.size wr w' := fun wr h => by
    obtain ⟨q, hq⟩ : ∃ q, VT wr q ⟨tx.k, c, s, st, .slice io l.length ic, .slice ko tx.keys.length kc⟩ tx := h.tree (w.heap.size, ⟨tx.k, c, s, st, .slice io l.length ic, .slice ko tx.keys.length kc⟩, tx) (by simp)
    have h1 := light_any q 300 ⟨tx.k, c, s, st, .slice io l.length ic, .slice ko tx.keys.length kc⟩ tx wr hq (by decide)
    unfold Six.val vV at h1
    exact h1
  have hLY : ∀ wr, Bs w wr [(w.heap.size, ⟨tx.k, c, s, st, .slice io l.length ic, .slice ko tx.keys.length kc⟩, tx), (w.heap.size + 1, y, ty)] → Calls Try.prog 8 #[.agg #[.int .i64 y.k, .int .i64 y.c, .int .i64 y.s, .string y.st, y.iv, y.kv], .int .i64 300] wr fun e w' => e = .returned (.bool (lightB 300 ty)) ∧ Below wr.heap.size wr w' := fun wr h => by
    obtain ⟨q, hq⟩ : ∃ q, VT wr q y ty := h.tree (w.heap.size + 1, y, ty) (by simp)
    have h1 := light_any q 300 y ty wr hq (by decide)
    unfold Six.val vV at h1
    exact h1
  obtain ⟨lx, hlx⟩ : ∃ lx, lightB 300 tx = lx := ⟨_, rfl⟩
  obtain ⟨ly, hly⟩ : ∃ lx, lightB 300 ty = lx := ⟨_, rfl⟩
  rw [hlx] at hLX
  rw [hly] at hLY
  have HLX := Lib.hid hLX
  have HLY := Lib.hid hLY
  clear hLX hLY
  obtain ⟨x0, x1, x2, x3, x4, x5⟩ := HB.out.cells (k := w.heap.size) (x := ⟨tx.k, c, s, st, .slice io l.length ic, .slice ko tx.keys.length kc⟩) (t := tx) (by simp)
  obtain ⟨y0, y1, y2, y3, y4, y5⟩ := HB.out.cells (k := w.heap.size + 1) (x := y) (t := ty) (by simp)
  simp only at x0 x1 x2 x3 x4 x5
  go_upto_region 2 with (fail)
  go_cut [37] (fun t wx => t = .bool (!(lx && ly)) ∧ Hid (Bs w wx [(w.heap.size, ⟨tx.k, c, s, st, .slice io l.length ic, .slice ko tx.keys.length kc⟩, tx), (w.heap.size + 1, y, ty)]))
  case first =>
    as_aux_lemma =>
    cases lx
    · go_wp2_with (go_at_call 8; refine (HLX.out _ HB.out).mono ?_; rintro e w1 ⟨rfl, b1⟩)
      go_meet
      exact ⟨rfl, Lib.hid (HB.out.on b1)⟩
    · go_wp2_with (first | (go_at_call 8; have _ := b1; refine (HLY.out _ HB1.out).mono ?_; rintro e w2 ⟨rfl, b2⟩) | (go_at_call 8; refine (HLX.out _ HB.out).mono ?_; rintro e w1 ⟨rfl, b1⟩; have HB1 := Lib.hid (HB.out.on b1); obtain ⟨q0, q1, q2, q3, q4, q5⟩ := HB1.out.cells (k := w.heap.size + 1) (x := y) (t := ty) (by simp)))
      go_meet
      exact ⟨by cases ly <;> rfl, Lib.hid (HB1.out.on b2)⟩
  case rest =>
  clear x0 x1 x2 x3 x4 x5 y0 y1 y2 y3 y4 y5 HLX HLY HB
  obtain ⟨rfl, HB⟩ := hcut
  by_cases hLL : (lx && ly) = true
  case neg =>
    have hL2 : (lx && ly) = false := by simpa using hLL
    rw [hL2]
    clear hLL hL2 hlx hly
    go_wp2_with (go_at_call 9; refine (lives_any _).mono ?_; rintro e w9 ⟨rfl, b9⟩)
    go_ret
    exact ⟨rfl, bT HB.out.bel b9⟩
  case pos =>
  have hcnt : tx.cnt ≤ 300 := by
    simp only [Bool.and_eq_true] at hLL
    rw [← hlx] at hLL
    unfold lightB at hLL
    simp only [Bool.and_eq_true, decide_eq_true_eq] at hLL
    exact hLL.1.1
  have hl3 : l.length ≤ 300 := by
    have h1 := cntL_len tx.items
    have h2 := cnt_is tx
    rw [HL.out] at h1 h2
    omega
  rw [hLL]
  clear hLL hlx hly hcnt
  obtain ⟨TP, hTP⟩ : ∃ TP, putT tx a ty = TP := ⟨_, rfl⟩
  have hPUT : ∀ wr, Bs w wr [(w.heap.size, ⟨tx.k, c, s, st, .slice io l.length ic, .slice ko tx.keys.length kc⟩, tx), (w.heap.size + 1, y, ty)] → Calls Try.prog 22 #[.agg #[.int .i64 tx.k, .int .i64 c, .int .i64 s, .string st, .slice io l.length ic, .slice ko tx.keys.length kc], .string a, .agg #[.int .i64 y.k, .int .i64 y.c, .int .i64 y.s, .string y.st, y.iv, y.kv]] wr fun e w' => ∃ zk zc zs zst zo zoc zp zpc q, e = .returned (.agg #[.int .i64 zk, .int .i64 zc, .int .i64 zs, .string zst, .slice zo TP.items.length zoc, .slice zp TP.keys.length zpc]) ∧ VT w' q ⟨zk, zc, zs, zst, .slice zo TP.items.length zoc, .slice zp TP.keys.length zpc⟩ TP ∧ Below wr.heap.size wr w' := fun wr h => by
    obtain ⟨q1, hq1⟩ : ∃ q, VT wr q ⟨tx.k, c, s, st, .slice io l.length ic, .slice ko tx.keys.length kc⟩ tx := h.tree (w.heap.size, ⟨tx.k, c, s, st, .slice io l.length ic, .slice ko tx.keys.length kc⟩, tx) (by simp)
    obtain ⟨q2, hq2⟩ : ∃ q, VT wr q y ty := h.tree (w.heap.size + 1, y, ty) (by simp)
    have h1 := put_anyT q1 q2 ⟨tx.k, c, s, st, .slice io l.length ic, .slice ko tx.keys.length kc⟩ y tx ty a wr hq1 hq2 (by rw [HL.out]; omega) HA.out
    unfold Six.val vV at h1
    refine h1.mono ?_
    rintro e w' ⟨z, rfl, hz, bz⟩
    rw [hTP] at hz
    obtain ⟨zp, zpc, zo, zoc, g1, g2, _⟩ := hz.parts
    obtain ⟨zk, zc, zs, zst, ziv, zkv⟩ := z
    simp only at g1 g2
    subst g1 g2
    exact ⟨_, _, _, _, _, _, _, _, _, rfl, hz, bz⟩
  have HPUT := Lib.hid hPUT
  have HTP := Lib.hid hTP
  clear hPUT hTP
  obtain ⟨x0, x1, x2, x3, x4, x5⟩ := HB.out.cells (k := w.heap.size) (x := ⟨tx.k, c, s, st, .slice io l.length ic, .slice ko tx.keys.length kc⟩) (t := tx) (by simp)
  obtain ⟨y0, y1, y2, y3, y4, y5⟩ := HB.out.cells (k := w.heap.size + 1) (x := y) (t := ty) (by simp)
  simp only at x0 x1 x2 x3 x4 x5
  go_upto_region 5 with (go_at_call 22; refine (HPUT.out _ HB.out).mono ?_; rintro e w1 ⟨zk, zc, zs, zst, zo, zoc, zp, zpc, q, rfl, hz, b1⟩)
  have HB1 := Lib.hid ((HB.out.on b1).push hz)
  have hz2 := VT.on (bA1 w1 (Obj.cells #[.int .i64 zk, .int .i64 zc, .int .i64 zs, .string zst, .slice zo TP.items.length zoc, .slice zp TP.keys.length zpc] 27)) q hz
  clear HB HPUT HX HY b1 hz x0 x1 x2 x3 x4 x5 y0 y1 y2 y3 y4 y5
  obtain ⟨kp, hkp⟩ : ∃ kp, w1.heap.size = kp := ⟨_, rfl⟩
  obtain ⟨w2, hw2⟩ : ∃ w2, w1.alloc (Obj.cells #[.int .i64 zk, .int .i64 zc, .int .i64 zs, .string zst, .slice zo TP.items.length zoc, .slice zp TP.keys.length zpc] 27) = w2 := ⟨_, rfl⟩
  have HB2 : Hid (Bs w w2 [(kp, ⟨zk, zc, zs, zst, .slice zo TP.items.length zoc, .slice zp TP.keys.length zpc⟩, TP), (w.heap.size, ⟨tx.k, c, s, st, .slice io l.length ic, .slice ko tx.keys.length kc⟩, tx), (w.heap.size + 1, y, ty)]) := Lib.hid (by rw [← hw2, ← hkp]; exact HB1.out)
  rw [hw2] at hz2 ⊢
  rw [hkp]
  clear hw2 hkp HB1
  obtain ⟨ob, hob⟩ : ∃ ob, decide (tx.k = 6 ∧ tx.keys.length = l.length) = ob := ⟨_, rfl⟩
  have HOB := Lib.hid hob
  clear hob
  obtain ⟨x0, x1, x2, x3, x4, x5⟩ := HB2.out.cells (k := w.heap.size) (x := ⟨tx.k, c, s, st, .slice io l.length ic, .slice ko tx.keys.length kc⟩) (t := tx) (by simp)
  simp only at x0 x1 x2 x3 x4 x5
  go_cut [54] (fun t wx => w2 = wx ∧ t = .bool (!ob))
  case first =>
    as_aux_lemma =>
    by_cases q6 : tx.k = 6
    · have e1 : (tx.k != 6) = false := by simp; omega
      have e1' : (tx.k == 6) = true := by simp; omega
      by_cases ql : tx.keys.length = l.length
      · have e2 : ((tx.keys.length : Int) != (l.length : Int)) = false := by simp; omega
        have e2' : ((tx.keys.length : Int) == (l.length : Int)) = true := by simp; omega
        have HV : Hid (ob = true) := Lib.hid (by rw [← HOB.out]; exact decide_eq_true ⟨q6, ql⟩)
        go_wp2
        go_meet
        exact ⟨rfl, by rw [HV.out]; rfl⟩
      · have e2 : ((tx.keys.length : Int) != (l.length : Int)) = true := by simp; omega
        have e2' : ((tx.keys.length : Int) == (l.length : Int)) = false := by simp; omega
        have HV : Hid (ob = false) := Lib.hid (by rw [← HOB.out]; exact decide_eq_false (fun h => ql h.2))
        go_wp2
        go_meet
        exact ⟨rfl, by rw [HV.out]; rfl⟩
    · have e1 : (tx.k != 6) = true := by simp; omega
      have e1' : (tx.k == 6) = false := by simp; omega
      have HV : Hid (ob = false) := Lib.hid (by rw [← HOB.out]; exact decide_eq_false (fun h => q6 h.1))
      go_wp2
      go_meet
      exact ⟨rfl, by rw [HV.out]; rfl⟩
  case rest =>
  obtain ⟨rfl, rfl⟩ := hcut
  cases ob
  case false =>
    as_aux_lemma =>
    have hno := of_decide_eq_false HOB.out
    have hg : gotT tx a = (jv0, false) := by unfold gotT; rw [HL.out, if_neg hno]
    have hTX : tx = TP := by rw [← HTP.out]; unfold putT; rw [HL.out, if_neg hno]
    subst hTX
    have hGET := get_cells ⟨tx.k, c, s, st, .slice io l.length ic, .slice ko tx.keys.length kc⟩ tx a w2 (HB2.out.tree (w.heap.size, ⟨tx.k, c, s, st, .slice io l.length ic, .slice ko tx.keys.length kc⟩, tx) (by simp))
    rw [hg] at hGET
    simp only at hGET
    have HGET := Lib.hid hGET
    clear hGET hno hg
    go_upto_region 7 with (go_at_call 23; refine HGET.out.mono ?_; rintro e w3 ⟨uk1, uc1, us1, ut1, ua1, un1, uo1, va1, vn1, vo1, rfl, hu, b3⟩)
    have b4 := bT b3 (bA1 w3 (Obj.cells #[.int .i64 uk1, .int .i64 uc1, .int .i64 us1, .string ut1, .slice ua1 un1 uo1, .slice va1 vn1 vo1] 27))
    have HB3 := Lib.hid (HB2.out.on b4)
    clear x0 x1 x2 x3 x4 x5
    have hSAME := same_cells ⟨zk, zc, zs, zst, .slice zo tx.items.length zoc, .slice zp tx.keys.length zpc⟩ ⟨tx.k, c, s, st, .slice io l.length ic, .slice ko tx.keys.length kc⟩ tx _ (HB3.out.tree (kp, ⟨zk, zc, zs, zst, .slice zo tx.items.length zoc, .slice zp tx.keys.length zpc⟩, tx) (by simp)) (HB3.out.tree (w.heap.size, ⟨tx.k, c, s, st, .slice io l.length ic, .slice ko tx.keys.length kc⟩, tx) (by simp))
    simp only at hSAME
    obtain ⟨x0, x1, x2, x3, x4, x5⟩ := HB3.out.cells (k := w.heap.size) (x := ⟨tx.k, c, s, st, .slice io l.length ic, .slice ko tx.keys.length kc⟩) (t := tx) (by simp)
    obtain ⟨z0, z1, z2, z3, z4, z5⟩ := HB3.out.cells (k := kp) (x := ⟨zk, zc, zs, zst, .slice zo tx.items.length zoc, .slice zp tx.keys.length zpc⟩) (t := tx) (by simp)
    simp only at x0 x1 x2 x3 x4 x5 z0 z1 z2 z3 z4 z5
    have HSAME := Lib.hid hSAME
    clear hSAME b4 b3 hu
    go_wp2_with (first | (go_at_call 9; refine (lives_any _).mono ?_; rintro e w6 ⟨rfl, b6⟩) | (go_at_call 13; refine HSAME.out.mono ?_; rintro e w5 ⟨rfl, b5⟩))
    go_ret
    exact ⟨rfl, bT (bT HB3.out.bel b5) b6⟩
  case true =>
  obtain ⟨hx6, hxl⟩ := of_decide_eq_true HOB.out
  have hxl1 : tx.keys.length ≤ l.length := Nat.le_of_eq hxl
  have hxl2 : l.length ≤ tx.keys.length := Nat.le_of_eq hxl.symm
  have HXL := Lib.hid hxl
  have HX6 := Lib.hid hx6
  clear HOB hxl hx6
  go_wp2
  go_loopw [12] (fun i wr => ∃ q : Nat, i = .int .i64 ((q : Nat) + 1) ∧ (q < l.length ∨ q = 0) ∧ Hid (Bs w wr [(kp, ⟨zk, zc, zs, zst, .slice zo TP.items.length zoc, .slice zp TP.keys.length zpc⟩, TP), (w.heap.size, ⟨tx.k, c, s, st, .slice io l.length ic, .slice ko tx.keys.length kc⟩, tx), (w.heap.size + 1, y, ty)]) ∧ Hid (∀ p u v, p < q → tx.keys[p]? = some u → tx.keys[p + 1]? = some v → leB v u = false)) (fun i _ => l.length - (intOf i).toNat)
  case atStart => exact ⟨0, rfl, Or.inr rfl, HB2, Lib.hid (fun p u v h => by omega)⟩
  case round =>
    clear HB2 x0 x1 x2 x3 x4 x5
    obtain ⟨q, rfl, hq, HB, HUP⟩ := hrel
    obtain ⟨x0, x1, x2, x3, x4, x5⟩ := HB.out.cells (k := w.heap.size) (x := ⟨tx.k, c, s, st, .slice io l.length ic, .slice ko tx.keys.length kc⟩) (t := tx) (by simp)
    simp only at x0 x1 x2 x3 x4 x5
    by_cases hlt : q + 1 < tx.keys.length
    · as_aux_lemma =>
      obtain ⟨s1, hs1⟩ : ∃ y, tx.keys[q + 1]? = some y := ⟨_, List.getElem?_eq_getElem hlt⟩
      obtain ⟨s0, hs0⟩ : ∃ y, tx.keys[q]? = some y := ⟨_, List.getElem?_eq_getElem (by omega)⟩
      obtain ⟨g, o, rfl, hg, hc⟩ := HKC.out (by omega)
      have c1 := (HB.out.bel.cell (p := ⟨g, o + (q + 1), none⟩) hg).trans (hc (q + 1) s1 hs1)
      have c0 := (HB.out.bel.cell (p := ⟨g, o + q, none⟩) hg).trans (hc q s0 hs0)
      have HS1 := Lib.hid hs1
      have HS0 := Lib.hid hs0
      have hle := fun w => run_leB s1 s0 w
      have i1 : ((q : Int) + 1) < (tx.keys.length : Int) := by omega
      have i2 : ((q : Int) + 1 - 1) = (q : Int) := by omega
      have i3 : ((q : Int) + 1).toNat = q + 1 := by omega
      have i4 : (q : Int) < (tx.keys.length : Int) := by omega
      clear hc hs1 hs0
      cases hb : leB s1 s0
      · rw [hb] at hle
        have HB' := hb
        have HUP' : Hid (∀ p u v, p < q + 1 → tx.keys[p]? = some u → tx.keys[p + 1]? = some v → leB v u = false) := Lib.hid (fun p u v hp hu hv => by
          by_cases e : p = q
          · subst e
            rw [HS0.out] at hu
            rw [HS1.out] at hv
            obtain rfl := Option.some.inj hu
            obtain rfl := Option.some.inj hv
            exact HB'
          · exact HUP.out p u v (by omega) hu hv)
        clear hb HB' HUP
        go_wp2
        go_quiet (fail)
        go_wp2
        go_roundw
        case rel => exact ⟨q + 1, by go_num, Or.inl (by omega), Lib.hid (HB.out.drewN _), HUP'⟩
        case measure => simp [intOf]; omega
      · rw [hb] at hle
        clear hb HUP
        go_wp2
        go_quiet (fail)
        go_wp2_with (go_at_call 9; refine (lives_any _).mono ?_; rintro e w6 ⟨rfl, b6⟩)
        go_ret
        exact ⟨rfl, bT (bN HB.out.bel _) b6⟩
    · have HUK : Hid (Up tx.keys) := Lib.hid (up_of (fun i u v hu hv => by
        have := (List.getElem?_eq_some_iff.1 hv).1
        exact HUP.out i u v (by omega) hu hv))
      clear HUP
      obtain ⟨hp6, hpu, hpl, hga, hgo, hgi, hgn⟩ := puts_facts (tx := tx) (ty := ty) (a := a) ⟨HX6.out, by rw [HL.out]; exact HXL.out⟩ HUK.out
      rw [HTP.out] at hp6 hpu hpl hga hgo hgi hgn
      rw [HL.out] at hgi
      have HPU := Lib.hid hpu
      have HGO := Lib.hid hgo
      have HGI := Lib.hid hgi
      have HGN := Lib.hid hgn
      have HGA := Lib.hid hga
      have HP6 := Lib.hid hp6
      have hpl1 : TP.keys.length ≤ TP.items.length := Nat.le_of_eq hpl
      have hpl3 : TP.items.length ≤ TP.keys.length := Nat.le_of_eq hpl.symm
      clear hpu hga hgo hgi hgn hpl hp6
      have hnl : ¬ ((q : Int) + 1 < (tx.keys.length : Int)) := by omega
      go_upto_region 13 with (fail)
      clear x0 x1 x2 x3 x4 x5 hnl
      obtain ⟨t2, q2, h2⟩ : ∃ t2 q2, gotT tx b = (t2, q2) := ⟨_, _, rfl⟩
      obtain ⟨t3, q3, h3⟩ : ∃ t3 q3, gotT TP b = (t3, q3) := ⟨_, _, rfl⟩
      obtain ⟨t4, q4, h4⟩ : ∃ t4 q4, gotT tx a = (t4, q4) := ⟨_, _, rfl⟩
      have H23 : Hid (b ≠ a → t3 = t2 ∧ q3 = q2) := Lib.hid (fun hne => by
        have := HGO.out b hne
        rw [h2, h3] at this
        exact Prod.mk.inj this)
      have HNQ : Hid (TP.keys.length = if q4 = true then tx.keys.length else tx.keys.length + 1) := Lib.hid (by have := HGN.out; rw [h4] at this; exact this)
      clear HGO HGN
      have hG1 : ∀ wr, (∃ n, VT wr n ⟨zk, zc, zs, zst, .slice zo TP.items.length zoc, .slice zp TP.keys.length zpc⟩ TP) → Calls Try.prog 23 #[.agg #[.int .i64 zk, .int .i64 zc, .int .i64 zs, .string zst, .slice zo TP.items.length zoc, .slice zp TP.keys.length zpc], .string a] wr fun e w' => ∃ uk0 uc0 us0 ut0 ua0 un0 uo0 va0 vn0 vo0, e = .returned (.tuple #[.agg #[.int .i64 uk0, .int .i64 uc0, .int .i64 us0, .string ut0, .slice ua0 un0 uo0, .slice va0 vn0 vo0], .bool true]) ∧ (∃ q, VT w' q ⟨uk0, uc0, us0, ut0, .slice ua0 un0 uo0, .slice va0 vn0 vo0⟩ ty) ∧ Below wr.heap.size wr w' := fun wr h => by
        have h1 := get_cells ⟨zk, zc, zs, zst, .slice zo TP.items.length zoc, .slice zp TP.keys.length zpc⟩ TP a wr h
        rw [HGA.out] at h1
        exact h1
      have HG1 := Lib.hid hG1
      clear hG1
      have hG2 : ∀ wr, (∃ n, VT wr n ⟨tx.k, c, s, st, .slice io l.length ic, .slice ko tx.keys.length kc⟩ tx) → Calls Try.prog 23 #[.agg #[.int .i64 tx.k, .int .i64 c, .int .i64 s, .string st, .slice io l.length ic, .slice ko tx.keys.length kc], .string b] wr fun e w' => ∃ uk0 uc0 us0 ut0 ua0 un0 uo0 va0 vn0 vo0, e = .returned (.tuple #[.agg #[.int .i64 uk0, .int .i64 uc0, .int .i64 us0, .string ut0, .slice ua0 un0 uo0, .slice va0 vn0 vo0], .bool q2]) ∧ (∃ q, VT w' q ⟨uk0, uc0, us0, ut0, .slice ua0 un0 uo0, .slice va0 vn0 vo0⟩ t2) ∧ Below wr.heap.size wr w' := fun wr h => by
        have h1 := get_cells ⟨tx.k, c, s, st, .slice io l.length ic, .slice ko tx.keys.length kc⟩ tx b wr h
        rw [h2] at h1
        exact h1
      have HG2 := Lib.hid hG2
      clear hG2
      have hG3 : ∀ wr, (∃ n, VT wr n ⟨zk, zc, zs, zst, .slice zo TP.items.length zoc, .slice zp TP.keys.length zpc⟩ TP) → Calls Try.prog 23 #[.agg #[.int .i64 zk, .int .i64 zc, .int .i64 zs, .string zst, .slice zo TP.items.length zoc, .slice zp TP.keys.length zpc], .string b] wr fun e w' => ∃ uk0 uc0 us0 ut0 ua0 un0 uo0 va0 vn0 vo0, e = .returned (.tuple #[.agg #[.int .i64 uk0, .int .i64 uc0, .int .i64 us0, .string ut0, .slice ua0 un0 uo0, .slice va0 vn0 vo0], .bool q3]) ∧ (∃ q, VT w' q ⟨uk0, uc0, us0, ut0, .slice ua0 un0 uo0, .slice va0 vn0 vo0⟩ t3) ∧ Below wr.heap.size wr w' := fun wr h => by
        have h1 := get_cells ⟨zk, zc, zs, zst, .slice zo TP.items.length zoc, .slice zp TP.keys.length zpc⟩ TP b wr h
        rw [h3] at h1
        exact h1
      have HG3 := Lib.hid hG3
      clear hG3
      have hG4 : ∀ wr, (∃ n, VT wr n ⟨tx.k, c, s, st, .slice io l.length ic, .slice ko tx.keys.length kc⟩ tx) → Calls Try.prog 23 #[.agg #[.int .i64 tx.k, .int .i64 c, .int .i64 s, .string st, .slice io l.length ic, .slice ko tx.keys.length kc], .string a] wr fun e w' => ∃ uk0 uc0 us0 ut0 ua0 un0 uo0 va0 vn0 vo0, e = .returned (.tuple #[.agg #[.int .i64 uk0, .int .i64 uc0, .int .i64 us0, .string ut0, .slice ua0 un0 uo0, .slice va0 vn0 vo0], .bool q4]) ∧ (∃ q, VT w' q ⟨uk0, uc0, us0, ut0, .slice ua0 un0 uo0, .slice va0 vn0 vo0⟩ t4) ∧ Below wr.heap.size wr w' := fun wr h => by
        have h1 := get_cells ⟨tx.k, c, s, st, .slice io l.length ic, .slice ko tx.keys.length kc⟩ tx a wr h
        rw [h4] at h1
        exact h1
      have HG4 := Lib.hid hG4
      clear hG4
      clear h2 h3 h4 HGA
      obtain ⟨z0, z1, z2, z3, z4, z5⟩ := HB.out.cells (k := kp) (x := ⟨zk, zc, zs, zst, .slice zo TP.items.length zoc, .slice zp TP.keys.length zpc⟩) (t := TP) (by simp)
      simp only at z0 z1 z2 z3 z4 z5
      go_upto_region 16 with (first
        | (go_at_call 23; have _ := b2; refine (HG3.out _ (HC2.out.tree (kp, ⟨zk, zc, zs, zst, .slice zo TP.items.length zoc, .slice zp TP.keys.length zpc⟩, TP) (by simp))).mono ?_; rintro e w5 ⟨uk3, uc3, us3, ut3, ua3, un3, uo3, va3, vn3, vo3, rfl, ⟨n3, hu3⟩, b3⟩)
        | (go_at_call 23; have _ := b1; (fail_if_success have _ := b2); refine (HG2.out _ (HC1.out.tree (w.heap.size, ⟨tx.k, c, s, st, .slice io l.length ic, .slice ko tx.keys.length kc⟩, tx) (by simp))).mono ?_; rintro e w4 ⟨uk2, uc2, us2, ut2, ua2, un2, uo2, va2, vn2, vo2, rfl, ⟨n2, hu2⟩, b2⟩; have HC2 : Hid (Bs w (w4.alloc (Obj.cells #[.int .i64 uk2, .int .i64 uc2, .int .i64 us2, .string ut2, .slice ua2 un2 uo2, .slice va2 vn2 vo2] 27)) ((w4.heap.size, ⟨uk2, uc2, us2, ut2, .slice ua2 un2 uo2, .slice va2 vn2 vo2⟩, t2) :: (w3.heap.size, ⟨uk1, uc1, us1, ut1, .slice ua1 un1 uo1, .slice va1 vn1 vo1⟩, ty) :: [(kp, ⟨zk, zc, zs, zst, .slice zo TP.items.length zoc, .slice zp TP.keys.length zpc⟩, TP), (w.heap.size, ⟨tx.k, c, s, st, .slice io l.length ic, .slice ko tx.keys.length kc⟩, tx), (w.heap.size + 1, y, ty)])) := Lib.hid ((HC1.out.on b2).push hu2); obtain ⟨g0, g1, g2, g3, g4, g5⟩ := HC2.out.cells (k := kp) (x := ⟨zk, zc, zs, zst, .slice zo TP.items.length zoc, .slice zp TP.keys.length zpc⟩) (t := TP) (by simp); simp only at g0 g1 g2 g3 g4 g5)
        | (go_at_call 23; (fail_if_success have _ := b1); refine (HG1.out _ (HB.out.tree (kp, ⟨zk, zc, zs, zst, .slice zo TP.items.length zoc, .slice zp TP.keys.length zpc⟩, TP) (by simp))).mono ?_; rintro e w3 ⟨uk1, uc1, us1, ut1, ua1, un1, uo1, va1, vn1, vo1, rfl, ⟨n1, hu1⟩, b1⟩; have HC1 : Hid (Bs w (w3.alloc (Obj.cells #[.int .i64 uk1, .int .i64 uc1, .int .i64 us1, .string ut1, .slice ua1 un1 uo1, .slice va1 vn1 vo1] 27)) ((w3.heap.size, ⟨uk1, uc1, us1, ut1, .slice ua1 un1 uo1, .slice va1 vn1 vo1⟩, ty) :: [(kp, ⟨zk, zc, zs, zst, .slice zo TP.items.length zoc, .slice zp TP.keys.length zpc⟩, TP), (w.heap.size, ⟨tx.k, c, s, st, .slice io l.length ic, .slice ko tx.keys.length kc⟩, tx), (w.heap.size + 1, y, ty)])) := Lib.hid ((HB.out.on b1).push hu1); obtain ⟨f0, f1, f2, f3, f4, f5⟩ := HC1.out.cells (k := w.heap.size) (x := ⟨tx.k, c, s, st, .slice io l.length ic, .slice ko tx.keys.length kc⟩) (t := tx) (by simp); simp only at f0 f1 f2 f3 f4 f5))
      have HC3 : Hid (Bs w (w5.alloc (Obj.cells #[.int .i64 uk3, .int .i64 uc3, .int .i64 us3, .string ut3, .slice ua3 un3 uo3, .slice va3 vn3 vo3] 27)) ((w5.heap.size, ⟨uk3, uc3, us3, ut3, .slice ua3 un3 uo3, .slice va3 vn3 vo3⟩, t3) :: (w4.heap.size, ⟨uk2, uc2, us2, ut2, .slice ua2 un2 uo2, .slice va2 vn2 vo2⟩, t2) :: (w3.heap.size, ⟨uk1, uc1, us1, ut1, .slice ua1 un1 uo1, .slice va1 vn1 vo1⟩, ty) :: [(kp, ⟨zk, zc, zs, zst, .slice zo TP.items.length zoc, .slice zp TP.keys.length zpc⟩, TP), (w.heap.size, ⟨tx.k, c, s, st, .slice io l.length ic, .slice ko tx.keys.length kc⟩, tx), (w.heap.size + 1, y, ty)])) := Lib.hid ((HC2.out.on b3).push hu3)
      clear z0 z1 z2 z3 z4 z5 f0 f1 f2 f3 f4 f5 g0 g1 g2 g3 g4 g5 hu1 hu2 hu3 b1 b2 b3 HC1 HC2 HG1 HG2 HG3 HB
      obtain ⟨k1, hk1⟩ : ∃ kp, w3.heap.size = kp := ⟨_, rfl⟩
      obtain ⟨k2, hk2⟩ : ∃ kp, w4.heap.size = kp := ⟨_, rfl⟩
      obtain ⟨k3, hk3⟩ : ∃ kp, w5.heap.size = kp := ⟨_, rfl⟩
      obtain ⟨wf, hwf⟩ : ∃ wf, w5.alloc (Obj.cells #[.int .i64 uk3, .int .i64 uc3, .int .i64 us3, .string ut3, .slice ua3 un3 uo3, .slice va3 vn3 vo3] 27) = wf := ⟨_, rfl⟩
      have HF : Hid (Bs w wf [(k3, ⟨uk3, uc3, us3, ut3, .slice ua3 un3 uo3, .slice va3 vn3 vo3⟩, t3), (k2, ⟨uk2, uc2, us2, ut2, .slice ua2 un2 uo2, .slice va2 vn2 vo2⟩, t2), (k1, ⟨uk1, uc1, us1, ut1, .slice ua1 un1 uo1, .slice va1 vn1 vo1⟩, ty), (kp, ⟨zk, zc, zs, zst, .slice zo TP.items.length zoc, .slice zp TP.keys.length zpc⟩, TP), (w.heap.size, ⟨tx.k, c, s, st, .slice io l.length ic, .slice ko tx.keys.length kc⟩, tx), (w.heap.size + 1, y, ty)]) := Lib.hid (by rw [← hwf, ← hk1, ← hk2, ← hk3]; exact HC3.out)
      rw [hwf, hk1, hk2, hk3]
      clear hwf hk1 hk2 hk3 HC3
      have hS1 := same_cells ⟨uk1, uc1, us1, ut1, .slice ua1 un1 uo1, .slice va1 vn1 vo1⟩ y ty wf (HF.out.tree (k1, ⟨uk1, uc1, us1, ut1, .slice ua1 un1 uo1, .slice va1 vn1 vo1⟩, ty) (by simp)) (HF.out.tree (w.heap.size + 1, y, ty) (by simp))
      simp only at hS1
      have HS1 := Lib.hid hS1
      clear hS1
      obtain ⟨f0, f1, f2, f3, f4, f5⟩ := HF.out.cells (k := k1) (x := ⟨uk1, uc1, us1, ut1, .slice ua1 un1 uo1, .slice va1 vn1 vo1⟩) (t := ty) (by simp)
      obtain ⟨g0, g1, g2, g3, g4, g5⟩ := HF.out.cells (k := w.heap.size + 1) (x := y) (t := ty) (by simp)
      simp only at f0 f1 f2 f3 f4 f5 g0 g1 g2 g3 g4 g5
      have e3 : ((TP.keys.length : Int) != (TP.items.length : Int)) = false := by simp; omega
      have e3' : ((TP.keys.length : Int) == (TP.items.length : Int)) = true := by simp; omega
      go_cut [141] (fun t wx => t = .bool false ∧ Hid (Bs w wx [(kp, ⟨zk, zc, zs, zst, .slice zo TP.items.length zoc, .slice zp TP.keys.length zpc⟩, TP), (w.heap.size, ⟨tx.k, c, s, st, .slice io l.length ic, .slice ko tx.keys.length kc⟩, tx), (w.heap.size + 1, y, ty)]))
      case first =>
        as_aux_lemma =>
        by_cases hba : b = a
        · subst hba
          have es := str_same b
          clear H23
          go_wp2_with (go_at_call 13; refine HS1.out.mono ?_; rintro e w6 ⟨rfl, b6⟩; have HF6 := Lib.hid (HF.out.on b6); obtain ⟨z0, z1, z2, z3, z4, z5⟩ := HF6.out.cells (k := kp) (x := ⟨zk, zc, zs, zst, .slice zo TP.items.length zoc, .slice zp TP.keys.length zpc⟩) (t := TP) (by simp); simp only at z0 z1 z2 z3 z4 z5)
          go_meet
          exact ⟨rfl, Lib.hid (HF6.out.sub (fun p hp => by simp only [List.mem_cons, List.not_mem_nil, or_false] at hp ⊢; exact Or.inr (Or.inr (Or.inr hp))))⟩
        · have es := str_ne hba
          obtain ⟨rfl, rfl⟩ := H23.out hba
          have eq2 : (q3 != q3) = false := by simp
          clear H23
          go_wp2_with (first | (go_at_call 13; have _ := b6; refine (same_cells ⟨uk2, uc2, us2, ut2, .slice ua2 un2 uo2, .slice va2 vn2 vo2⟩ ⟨uk3, uc3, us3, ut3, .slice ua3 un3 uo3, .slice va3 vn3 vo3⟩ t3 w6 (HF6.out.tree (k2, ⟨uk2, uc2, us2, ut2, .slice ua2 un2 uo2, .slice va2 vn2 vo2⟩, t3) (by simp)) (HF6.out.tree (k3, ⟨uk3, uc3, us3, ut3, .slice ua3 un3 uo3, .slice va3 vn3 vo3⟩, t3) (by simp))).mono ?_; rintro e w7 ⟨rfl, b7⟩; have HF7 := Lib.hid (HF6.out.on b7); obtain ⟨z0, z1, z2, z3, z4, z5⟩ := HF7.out.cells (k := kp) (x := ⟨zk, zc, zs, zst, .slice zo TP.items.length zoc, .slice zp TP.keys.length zpc⟩) (t := TP) (by simp); simp only at z0 z1 z2 z3 z4 z5) | (go_at_call 13; refine HS1.out.mono ?_; rintro e w6 ⟨rfl, b6⟩; have HF6 := Lib.hid (HF.out.on b6); obtain ⟨r0, r1, r2, r3, r4, r5⟩ := HF6.out.cells (k := k2) (x := ⟨uk2, uc2, us2, ut2, .slice ua2 un2 uo2, .slice va2 vn2 vo2⟩) (t := t3) (by simp); obtain ⟨s0, s1, s2, s3, s4, s5⟩ := HF6.out.cells (k := k3) (x := ⟨uk3, uc3, us3, ut3, .slice ua3 un3 uo3, .slice va3 vn3 vo3⟩) (t := t3) (by simp); simp only at r0 r1 r2 r3 r4 r5 s0 s1 s2 s3 s4 s5))
          go_meet
          exact ⟨rfl, Lib.hid (HF7.out.sub (fun p hp => by simp only [List.mem_cons, List.not_mem_nil, or_false] at hp ⊢; exact Or.inr (Or.inr (Or.inr hp))))⟩
      case rest =>
      clear f0 f1 f2 f3 f4 f5 g0 g1 g2 g3 g4 g5 e3 e3' HS1 HF H23
      obtain ⟨rfl, HB⟩ := hcut
      obtain ⟨x0, x1, x2, x3, x4, x5⟩ := HB.out.cells (k := w.heap.size) (x := ⟨tx.k, c, s, st, .slice io l.length ic, .slice ko tx.keys.length kc⟩) (t := tx) (by simp)
      simp only at x0 x1 x2 x3 x4 x5
      go_upto_region 19 with (go_at_call 23; refine (HG4.out _ (HB.out.tree (w.heap.size, ⟨tx.k, c, s, st, .slice io l.length ic, .slice ko tx.keys.length kc⟩, tx) (by simp))).mono ?_; rintro e w4 ⟨uk4, uc4, us4, ut4, ua4, un4, uo4, va4, vn4, vo4, rfl, _, b4⟩)
      have HB4 := Lib.hid (HB.out.on (bT b4 (bA1 w4 (Obj.cells #[.int .i64 uk4, .int .i64 uc4, .int .i64 us4, .string ut4, .slice ua4 un4 uo4, .slice va4 vn4 vo4] 27))))
      obtain ⟨w5, hw5⟩ : ∃ w5, w4.alloc (Obj.cells #[.int .i64 uk4, .int .i64 uc4, .int .i64 us4, .string ut4, .slice ua4 un4 uo4, .slice va4 vn4 vo4] 27) = w5 := ⟨_, rfl⟩
      rw [hw5] at HB4 ⊢
      clear x0 x1 x2 x3 x4 x5 HB b4 hw5 HG4
      obtain ⟨x0, x1, x2, x3, x4, x5⟩ := HB4.out.cells (k := w.heap.size) (x := ⟨tx.k, c, s, st, .slice io l.length ic, .slice ko tx.keys.length kc⟩) (t := tx) (by simp)
      simp only at x0 x1 x2 x3 x4 x5
      have hkl : tx.keys.length ≤ 300 := by omega
      go_upto_if 152 with (fail)
      go_cut [21] (fun t wx => w5 = wx ∧ t = .int .i64 (TP.keys.length : Nat))
      case first =>
        as_aux_lemma =>
        cases q4
        · have hn : (tx.keys.length : Int) + 1 = (TP.keys.length : Nat) := by have := HNQ.out; simp at this; omega
          have HN := Lib.hid hn
          clear hn
          go_wp2
          go_meet
          exact ⟨rfl, congrArg (Value.int .i64) HN.out⟩
        · have hn : (tx.keys.length : Int) = (TP.keys.length : Nat) := by have := HNQ.out; simp at this; omega
          have HN := Lib.hid hn
          clear hn
          go_wp2
          go_meet
          exact ⟨rfl, congrArg (Value.int .i64) (by have := HN.out; omega)⟩
      case rest =>
      obtain ⟨rfl, rfl⟩ := hcut
      have hpl2 : TP.keys.length ≤ 301 := by have := HNQ.out; split at this <;> omega
      clear x0 x1 x2 x3 x4 x5 HNQ
      go_wp2
      go_loopw [22] (fun i wr => ∃ q : Nat, i = .int .i64 ((q : Nat) + 1) ∧ (q < TP.keys.length ∨ q = 0) ∧ Hid (Bs w wr [(kp, ⟨zk, zc, zs, zst, .slice zo TP.items.length zoc, .slice zp TP.keys.length zpc⟩, TP), (w.heap.size, ⟨tx.k, c, s, st, .slice io l.length ic, .slice ko tx.keys.length kc⟩, tx), (w.heap.size + 1, y, ty)])) (fun i _ => TP.keys.length - (intOf i).toNat)
      case atStart => exact ⟨0, rfl, Or.inr rfl, HB4⟩
      case round =>
        clear HB4
        obtain ⟨q, rfl, hq, HB⟩ := hrel
        obtain ⟨z0, z1, z2, z3, z4, z5⟩ := HB.out.cells (k := kp) (x := ⟨zk, zc, zs, zst, .slice zo TP.items.length zoc, .slice zp TP.keys.length zpc⟩) (t := TP) (by simp)
        simp only at z0 z1 z2 z3 z4 z5
        by_cases hlt : q + 1 < TP.keys.length
        · as_aux_lemma =>
          obtain ⟨s1, hs1⟩ : ∃ y, TP.keys[q + 1]? = some y := ⟨_, List.getElem?_eq_getElem hlt⟩
          obtain ⟨s0, hs0⟩ : ∃ y, TP.keys[q]? = some y := ⟨_, List.getElem?_eq_getElem (by omega)⟩
          obtain ⟨nn, hv⟩ : ∃ nn, VT wr nn ⟨zk, zc, zs, zst, .slice zo TP.items.length zoc, .slice zp TP.keys.length zpc⟩ TP := HB.out.tree (kp, ⟨zk, zc, zs, zst, .slice zo TP.items.length zoc, .slice zp TP.keys.length zpc⟩, TP) (by simp)
          obtain ⟨_, _, _, _, g1, _, _, _, hkc, _⟩ := hv.parts
          injection g1 with g1 g2 g3
          subst g1
          obtain ⟨g, o, rfl, hg, hc⟩ := hkc (by omega)
          have c1 := hc (q + 1) s1 hs1
          have c0 := hc q s0 hs0
          have hle := fun w => run_leB s1 s0 w
          rw [up_next HPU.out hs0 hs1] at hle
          have i1 : ((q : Int) + 1) < (TP.keys.length : Int) := by omega
          have i2 : ((q : Int) + 1 - 1) = (q : Int) := by omega
          have i3 : ((q : Int) + 1).toNat = q + 1 := by omega
          have i4 : (q : Int) < (TP.keys.length : Int) := by omega
          clear hc hs1 hs0 hkc hv g2 g3
          go_wp2
          go_quiet (fail)
          go_wp2
          go_roundw
          case rel => exact ⟨q + 1, by go_num, Or.inl (by omega), Lib.hid (HB.out.drewN _)⟩
          case measure => simp [intOf]; omega
        · clear HPU
          have hnl : ¬ ((q : Int) + 1 < (TP.keys.length : Int)) := by omega
          go_upto_region 27 with (fail)
          clear z0 z1 z2 z3 z4 z5 hnl
          go_wp2
          go_loopw [23] (fun i wr => ∃ q : Nat, i = .int .i64 (q : Nat) ∧ q ≤ tx.keys.length ∧ Hid (Bs w wr [(kp, ⟨zk, zc, zs, zst, .slice zo TP.items.length zoc, .slice zp TP.keys.length zpc⟩, TP), (w.heap.size, ⟨tx.k, c, s, st, .slice io l.length ic, .slice ko tx.keys.length kc⟩, tx), (w.heap.size + 1, y, ty)])) (fun i _ => tx.keys.length - (intOf i).toNat)
          case atStart => exact ⟨0, rfl, by omega, HB⟩
          case round =>
            clear HB
            obtain ⟨q, rfl, hq, HB⟩ := hrel
            obtain ⟨x0, x1, x2, x3, x4, x5⟩ := HB.out.cells (k := w.heap.size) (x := ⟨tx.k, c, s, st, .slice io l.length ic, .slice ko tx.keys.length kc⟩) (t := tx) (by simp)
            simp only at x0 x1 x2 x3 x4 x5
            by_cases hlt : q < tx.keys.length
            · obtain ⟨sk, hsk⟩ : ∃ y, tx.keys[q]? = some y := ⟨_, List.getElem?_eq_getElem hlt⟩
              obtain ⟨it, hit⟩ : ∃ y, l[q]? = some y := ⟨_, List.getElem?_eq_getElem (by omega)⟩
              obtain ⟨g, o, rfl, hg, hc⟩ := HKC.out (by omega)
              obtain ⟨g2, o2, rfl, hg2, hc2⟩ := HIC.out (by omega)
              have hcK := (HB.out.bel.cell (p := ⟨g, o + q, none⟩) hg).trans (hc q sk hsk)
              obtain ⟨iy, im, hA6, hiv⟩ := hc2 q it hit
              have HCK : Hid (∀ wx, Below w.heap.size w wx → wx.cell? ⟨g, o + q, none⟩ = some (.string sk)) := Lib.hid (fun wx h => (h.cell (p := ⟨g, o + q, none⟩) hg).trans (hc q sk hsk))
              obtain ⟨⟨ia, ino, iic, g3⟩, iva, ivn, ivo, g4⟩ := hiv.one
              obtain ⟨iyk, iyc, iys, iyst, iyi, iyv⟩ := iy
              simp only at g3 g4
              subst g3 g4
              obtain ⟨hgi2, hgi1⟩ := HGI.out q sk it hsk hit
              obtain ⟨t5, q5, h5⟩ : ∃ t5 q5, gotT TP sk = (t5, q5) := ⟨_, _, rfl⟩
              rw [h5] at hgi2 hgi1
              obtain rfl : q5 = true := hgi2
              have H5 : Hid (sk ≠ a → t5 = it) := Lib.hid hgi1
              have hG5 : ∀ wx, Below wr.heap.size wr wx → Calls Try.prog 23 #[.agg #[.int .i64 zk, .int .i64 zc, .int .i64 zs, .string zst, .slice zo TP.items.length zoc, .slice zp TP.keys.length zpc], .string sk] wx fun e w' => ∃ uk0 uc0 us0 ut0 ua0 un0 uo0 va0 vn0 vo0, e = .returned (.tuple #[.agg #[.int .i64 uk0, .int .i64 uc0, .int .i64 us0, .string ut0, .slice ua0 un0 uo0, .slice va0 vn0 vo0], .bool true]) ∧ (∃ q, VT wr q ⟨uk0, uc0, us0, ut0, .slice ua0 un0 uo0, .slice va0 vn0 vo0⟩ t5) ∧ Below wx.heap.size wx w' := fun wx h => by
                have h1 := get_at ⟨zk, zc, zs, zst, .slice zo TP.items.length zoc, .slice zp TP.keys.length zpc⟩ TP sk wr wx (HB.out.tree (kp, ⟨zk, zc, zs, zst, .slice zo TP.items.length zoc, .slice zp TP.keys.length zpc⟩, TP) (by simp)) h
                rw [h5] at h1
                exact h1
              have HG5 := Lib.hid hG5
              have HIV := Lib.hid hiv
              have HA6 : Hid (∀ wx, Below w.heap.size w wx → At6 wx g2 (o2 + q * 6) ⟨iyk, iyc, iys, iyst, .slice ia ino iic, .slice iva ivn ivo⟩) := Lib.hid (fun wx h => hA6.on hg2 h)
              have hql : (q : Int) < (tx.keys.length : Int) := by omega
              have hql2 : (q : Int) < (l.length : Int) := by omega
              clear hG5 hgi1 h5 hsk hit hc hc2 hiv hA6
              go_upto_region 30 with (fail)
              go_cut [24, 25] (fun pv bv wx => ∃ kq uk5 uc5 us5 ut5 ua5 un5 uo5 va5 vn5 vo5, pv = .pointer (some ⟨kq, 0, none⟩) ∧ bv = .bool true ∧ Hid (Bs w wx ((kq, ⟨uk5, uc5, us5, ut5, .slice ua5 un5 uo5, .slice va5 vn5 vo5⟩, t5) :: [(kp, ⟨zk, zc, zs, zst, .slice zo TP.items.length zoc, .slice zp TP.keys.length zpc⟩, TP), (w.heap.size, ⟨tx.k, c, s, st, .slice (some ⟨g2, o2, none⟩) l.length ic, .slice (some ⟨g, o, none⟩) tx.keys.length kc⟩, tx), (w.heap.size + 1, y, ty)])))
              case first =>
                as_aux_lemma =>
                obtain ⟨z0, z1, z2, z3, z4, z5⟩ := HB.out.cells (k := kp) (x := ⟨zk, zc, zs, zst, .slice zo TP.items.length zoc, .slice zp TP.keys.length zpc⟩) (t := TP) (by simp)
                simp only at z0 z1 z2 z3 z4 z5
                have hS3 : Sx wr.heap.size wr [(⟨kp, 0, none⟩, (.int .i64 zk)), (⟨kp, 1, none⟩, (.int .i64 zc)), (⟨kp, 2, none⟩, (.int .i64 zs)), (⟨kp, 3, none⟩, (.string zst)), (⟨kp, 4, none⟩, (.slice zo TP.items.length zoc)), (⟨kp, 5, none⟩, (.slice zp TP.keys.length zpc)), (⟨w.heap.size, 5, none⟩, (.slice (some ⟨g, o, none⟩) tx.keys.length kc)), (⟨g, o + q, none⟩, (.string sk))] (wr) := by
                  refine ⟨Below.refl _ _, ?_⟩
                  intro t ht
                  simp only [List.mem_cons, List.not_mem_nil, or_false] at ht
                  rcases ht with rfl | rfl | rfl | rfl | rfl | rfl | rfl | rfl
                  · exact Sx.mk (z0)
                  · exact Sx.mk (z1)
                  · exact Sx.mk (z2)
                  · exact Sx.mk (z3)
                  · exact Sx.mk (z4)
                  · exact Sx.mk (z5)
                  · exact Sx.mk (x5)
                  · exact Sx.mk (hcK)
                obtain ⟨fx3, hfx3⟩ : ∃ fx : List (Addr × Value), [(⟨kp, 0, none⟩, (.int .i64 zk)), (⟨kp, 1, none⟩, (.int .i64 zc)), (⟨kp, 2, none⟩, (.int .i64 zs)), (⟨kp, 3, none⟩, (.string zst)), (⟨kp, 4, none⟩, (.slice zo TP.items.length zoc)), (⟨kp, 5, none⟩, (.slice zp TP.keys.length zpc)), (⟨w.heap.size, 5, none⟩, (.slice (some ⟨g, o, none⟩) tx.keys.length kc)), (⟨g, o + q, none⟩, (.string sk))] = fx := ⟨_, rfl⟩
                rw [hfx3] at hS3
                have u3_0 := Sx.get (B := wr.heap.size) (o := wr) (fx := fx3) (p := ⟨kp, 0, none⟩) (v := (.int .i64 zk)) (by subst hfx3; simp)
                have u3_1 := Sx.get (B := wr.heap.size) (o := wr) (fx := fx3) (p := ⟨kp, 1, none⟩) (v := (.int .i64 zc)) (by subst hfx3; simp)
                have u3_2 := Sx.get (B := wr.heap.size) (o := wr) (fx := fx3) (p := ⟨kp, 2, none⟩) (v := (.int .i64 zs)) (by subst hfx3; simp)
                have u3_3 := Sx.get (B := wr.heap.size) (o := wr) (fx := fx3) (p := ⟨kp, 3, none⟩) (v := (.string zst)) (by subst hfx3; simp)
                have u3_4 := Sx.get (B := wr.heap.size) (o := wr) (fx := fx3) (p := ⟨kp, 4, none⟩) (v := (.slice zo TP.items.length zoc)) (by subst hfx3; simp)
                have u3_5 := Sx.get (B := wr.heap.size) (o := wr) (fx := fx3) (p := ⟨kp, 5, none⟩) (v := (.slice zp TP.keys.length zpc)) (by subst hfx3; simp)
                have u3_6 := Sx.get (B := wr.heap.size) (o := wr) (fx := fx3) (p := ⟨w.heap.size, 5, none⟩) (v := (.slice (some ⟨g, o, none⟩) tx.keys.length kc)) (by subst hfx3; simp)
                have u3_7 := Sx.get (B := wr.heap.size) (o := wr) (fx := fx3) (p := ⟨g, o + q, none⟩) (v := (.string sk)) (by subst hfx3; simp)
                clear hfx3
                have HS3 := Lib.hid hS3
                clear hS3
                have hlt3 := fun t ht => (HS3.out.2 t ht).1
                clear z0 z1 z2 z3 z4 z5 x0 x1 x2 x3 x4 x5 hcK
                refine wp_region_held_drew (S := Sx wr.heap.size wr fx3) (by kernel_rfl) HS3.out.drew (fun hHeld => ?_)
                refine take_put (i := 0) (d := 182) (oi := _) (v := ?v0) rfl rfl (by kernel_rfl) (by kernel_rfl) (by kernel_rfl) (fun _ _ _ h => h) (Or.inl ⟨by rfl, ?y0⟩) hHeld ?r0
                case y0 => (intro w hSw; (try dsimp only at hSw); go_simp; try with_reducible rfl)
                simp only [Act.put, List.setIfInBounds_toArray, List.set_cons_zero, List.set_cons_succ]
                refine take_put (i := 1) (d := 183) (oi := _) (v := ?v1) rfl rfl (by kernel_rfl) (by kernel_rfl) (by kernel_rfl) (fun _ _ _ h => h) (Or.inl ⟨by rfl, ?y1⟩) hHeld ?r1
                case y1 => (intro w hSw; (try dsimp only at hSw); go_simp; try with_reducible rfl)
                simp only [Act.put, List.setIfInBounds_toArray, List.set_cons_zero, List.set_cons_succ]
                refine take_put (i := 2) (d := 184) (oi := _) (v := ?v2) rfl rfl (by kernel_rfl) (by kernel_rfl) (by kernel_rfl) (fun _ _ _ h => h) (Or.inl ⟨by rfl, ?y2⟩) hHeld ?r2
                case y2 => (intro w hSw; (try dsimp only at hSw); go_simp; try with_reducible rfl)
                simp only [Act.put, List.setIfInBounds_toArray, List.set_cons_zero, List.set_cons_succ]
                refine take_put (i := 3) (d := 185) (oi := _) (v := ?v3) rfl rfl (by kernel_rfl) (by kernel_rfl) (by kernel_rfl) (fun _ _ _ h => h) (Or.inl ⟨by rfl, ?y3⟩) hHeld ?r3
                case y3 => (intro w hSw; (try dsimp only at hSw); go_simp; try with_reducible rfl)
                simp only [Act.put, List.setIfInBounds_toArray, List.set_cons_zero, List.set_cons_succ]
                refine take_put (i := 4) (d := 186) (oi := _) (v := ?v4) rfl rfl (by kernel_rfl) (by kernel_rfl) (by kernel_rfl) (fun _ _ _ h => h) (Or.inl ⟨by rfl, ?y4⟩) hHeld ?r4
                case y4 => (intro w hSw; (try dsimp only at hSw); go_simp; try with_reducible rfl)
                simp only [Act.put, List.setIfInBounds_toArray, List.set_cons_zero, List.set_cons_succ]
                refine take_put (i := 5) (d := 187) (oi := _) (v := ?v5) rfl rfl (by kernel_rfl) (by kernel_rfl) (by kernel_rfl) (fun _ _ _ h => h) (Or.inl ⟨by rfl, ?y5⟩) hHeld ?r5
                case y5 => (intro w hSw; (try dsimp only at hSw); go_simp; try with_reducible rfl)
                simp only [Act.put, List.setIfInBounds_toArray, List.set_cons_zero, List.set_cons_succ]
                refine wpAnyH_ready (rs := [6, 10]) (by kernel_rfl) (by simp) (AllReadyH.cons (o := _) rfl (fun K hK => ?_) (AllReadyH.cons (o := _) rfl (fun K hK => ?_) AllReadyH.nil))
                · go_simp
                  refine (HG5.out _ hHeld.1).mono ?_
                  rintro e w6 ⟨uk5, uc5, us5, ut5, ua5, un5, uo5, va5, vn5, vo5, rfl, ⟨n5, hu⟩, bk⟩
                  have HU := Lib.hid hu
                  clear hu
                  (try dsimp only)
                  refine hK.out _ _ (hHeld.call bk (Nat.le_refl _)) (fun hHeld => ?_)
                  clear hK K
                  have hHeld0 := hHeld
                  refine take_put (i := 7) (d := 181) (oi := _) (v := ?v7) rfl rfl (by kernel_rfl) (by kernel_rfl) (by kernel_rfl) (fun _ _ _ h => h) (Or.inl ⟨by rfl, ?y7⟩) hHeld ?r7
                  case y7 => (intro w hSw; (try dsimp only at hSw); go_simp; try with_reducible rfl)
                  simp only [Act.put, List.setIfInBounds_toArray, List.set_cons_zero, List.set_cons_succ]
                  refine take_put (i := 8) (d := 189) (oi := _) (v := ?v8) rfl rfl (by kernel_rfl) (by kernel_rfl) (by kernel_rfl) (fun _ _ _ h => h) (Or.inl ⟨by rfl, ?y8⟩) hHeld ?r8
                  case y8 => (intro w hSw; (try dsimp only at hSw); go_simp; try with_reducible rfl)
                  simp only [Act.put, List.setIfInBounds_toArray, List.set_cons_zero, List.set_cons_succ]
                  refine take_put (i := 9) (d := 190) (oi := _) (v := ?v9) rfl rfl (by kernel_rfl) (by kernel_rfl) (by kernel_rfl) (fun _ _ _ h => h) (Or.inl ⟨by rfl, ?y9⟩) hHeld ?r9
                  case y9 => (intro w hSw; (try dsimp only at hSw); go_simp; try with_reducible rfl)
                  simp only [Act.put, List.setIfInBounds_toArray, List.set_cons_zero, List.set_cons_succ]
                  refine wpAnyH_ready (rs := [10]) (by kernel_rfl) (by simp) (AllReadyH.cons (o := _) rfl (fun K hK => ?_) AllReadyH.nil)
                  go_simp
                  (try dsimp only)
                  refine hK.out _ _ (hHeld.call (bA1 _ _) (Nat.le_refl _)) (fun hHeld => ?_)
                  clear hK K
                  have HBK := Lib.hid hHeld.1
                  refine wpAnyH_ready (rs := [11]) (by kernel_rfl) (by simp) (AllReadyH.cons (o := _) rfl (fun K hK => ?_) AllReadyH.nil)
                  go_simp
                  (try dsimp only)
                  refine hK.out _ _ (hHeld0.call (bA1 w6 (Obj.cells #[.int .i64 uk5, .int .i64 uc5, .int .i64 us5, .string ut5, .slice ua5 un5 uo5, .slice va5 vn5 vo5] 27)) (Nat.le_refl _)) (fun hHeld => ?_)
                  clear hK K
                  refine take_put (i := 12) (d := 25) (oi := _) (v := ?v12) rfl rfl (by kernel_rfl) (by kernel_rfl) (by kernel_rfl) (fun _ _ _ h => h) (Or.inl ⟨by rfl, ?y12⟩) hHeld ?r12
                  case y12 => (intro w hSw; (try dsimp only at hSw); go_simp; try with_reducible rfl)
                  simp only [Act.put, List.setIfInBounds_toArray, List.set_cons_zero, List.set_cons_succ]
                  refine wpAnyH_done (by kernel_rfl) ?_ _
                  have HF := Lib.hid hHeld.1
                  clear hHeld
                  go_wp2
                  go_meet
                  exact ⟨w6.heap.size, uk5, uc5, us5, ut5, ua5, un5, uo5, va5, vn5, vo5, rfl, rfl, Lib.hid (HB.out.new5 HF.out (Vb.new w6 _) HU.out)⟩
                · go_simp
                  (try dsimp only)
                  refine hK.out _ _ (hHeld.call (bA1 _ _) (Nat.le_refl _)) (fun hHeld => ?_)
                  clear hK K
                  have hz0 := Vb.new wr.drew #[.int .i64 0, .int .i64 0, .int .i64 0, .string ⟨#[]⟩, .slice none 0 0, .slice none 0 0]
                  refine wpAnyH_ready (rs := [6]) (by kernel_rfl) (by simp) (AllReadyH.cons (o := _) rfl (fun K hK => ?_) AllReadyH.nil)
                  go_simp
                  refine (HG5.out _ hHeld.1).mono ?_
                  rintro e w6 ⟨uk5, uc5, us5, ut5, ua5, un5, uo5, va5, vn5, vo5, rfl, ⟨n5, hu⟩, bk⟩
                  have HU := Lib.hid hu
                  clear hu
                  (try dsimp only)
                  refine hK.out _ _ (hHeld.call bk (Nat.le_refl _)) (fun hHeld => ?_)
                  clear hK K
                  have hzq : Vb w6 wr.heap.size #[.int .i64 0, .int .i64 0, .int .i64 0, .string ⟨#[]⟩, .slice none 0 0, .slice none 0 0] := hz0.on bk
                  refine take_put (i := 7) (d := 181) (oi := _) (v := ?vb7) rfl rfl (by kernel_rfl) (by kernel_rfl) (by kernel_rfl) (fun _ _ _ h => h) (Or.inl ⟨by rfl, ?yb7⟩) hHeld ?rb7
                  case yb7 => (intro w hSw; (try dsimp only at hSw); go_simp; try with_reducible rfl)
                  simp only [Act.put, List.setIfInBounds_toArray, List.set_cons_zero, List.set_cons_succ]
                  refine take_put (i := 8) (d := 189) (oi := _) (v := ?vb8) rfl rfl (by kernel_rfl) (by kernel_rfl) (by kernel_rfl) (fun _ _ _ h => h) (Or.inl ⟨by rfl, ?yb8⟩) hHeld ?rb8
                  case yb8 => (intro w hSw; (try dsimp only at hSw); go_simp; try with_reducible rfl)
                  simp only [Act.put, List.setIfInBounds_toArray, List.set_cons_zero, List.set_cons_succ]
                  refine take_put (i := 9) (d := 190) (oi := _) (v := ?vb9) rfl rfl (by kernel_rfl) (by kernel_rfl) (by kernel_rfl) (fun _ _ _ h => h) (Or.inl ⟨by rfl, ?yb9⟩) hHeld ?rb9
                  case yb9 => (intro w hSw; (try dsimp only at hSw); go_simp; try with_reducible rfl)
                  simp only [Act.put, List.setIfInBounds_toArray, List.set_cons_zero, List.set_cons_succ]
                  obtain ⟨q0, q1, q2, q3, q4, q5⟩ := hzq.six
                  have hfq := fun o => hzq.free o
                  refine wpAnyH_ready (rs := [11]) (by kernel_rfl) (by simp) (AllReadyH.cons (o := _) rfl (fun K hK => ?_) AllReadyH.nil)
                  go_simp
                  (try dsimp only)
                  refine hK.out _ _ (hHeld.set6 (Nat.le_refl _) hlt3 _ _ _ _ _ _) (fun hHeld => ?_)
                  clear hK K
                  refine take_put (i := 12) (d := 25) (oi := _) (v := ?vb12) rfl rfl (by kernel_rfl) (by kernel_rfl) (by kernel_rfl) (fun _ _ _ h => h) (Or.inl ⟨by rfl, ?yb12⟩) hHeld ?rb12
                  case yb12 => (intro w hSw; (try dsimp only at hSw); go_simp; try with_reducible rfl)
                  simp only [Act.put, List.setIfInBounds_toArray, List.set_cons_zero, List.set_cons_succ]
                  refine wpAnyH_done (by kernel_rfl) ?_ _
                  have HF := Lib.hid hHeld.1
                  have HZQ := Lib.hid hzq
                  clear hHeld q0 q1 q2 q3 q4 q5 hfq hzq
                  go_wp2
                  go_meet
                  exact ⟨_, uk5, uc5, us5, ut5, ua5, un5, uo5, va5, vn5, vo5, rfl, rfl, Lib.hid (HB.out.new5 HF.out (HZQ.out.put _ _ _ _ _ _) HU.out)⟩
              case rest =>
              clear x0 x1 x2 x3 x4 x5 hcK HB HG5 hlt
              obtain ⟨kq, uk5, uc5, us5, ut5, ua5, un5, uo5, va5, vn5, vo5, rfl, rfl, HQ⟩ := hcut
              go_upto_region 31 with (fail)
              go_cut [211] (fun t wx => t = .bool false ∧ Hid (Bs w wx [(kp, ⟨zk, zc, zs, zst, .slice zo TP.items.length zoc, .slice zp TP.keys.length zpc⟩, TP), (w.heap.size, ⟨tx.k, c, s, st, .slice (some ⟨g2, o2, none⟩) l.length ic, .slice (some ⟨g, o, none⟩) tx.keys.length kc⟩, tx), (w.heap.size + 1, y, ty)]))
              case first =>
                as_aux_lemma =>
                obtain ⟨r0, r1, r2, r3, r4, r5⟩ := HQ.out.cells (k := kq) (x := ⟨uk5, uc5, us5, ut5, .slice ua5 un5 uo5, .slice va5 vn5 vo5⟩) (t := t5) (by simp)
                obtain ⟨x0, x1, x2, x3, x4, x5⟩ := HQ.out.cells (k := w.heap.size) (x := ⟨tx.k, c, s, st, .slice (some ⟨g2, o2, none⟩) l.length ic, .slice (some ⟨g, o, none⟩) tx.keys.length kc⟩) (t := tx) (by simp)
                simp only at r0 r1 r2 r3 r4 r5 x0 x1 x2 x3 x4 x5
                obtain ⟨i0, i1, i2, i3, i4, i5⟩ := HA6.out wc HQ.out.bel
                simp only at i0 i1 i2 i3 i4 i5
                have hS4 : Sx wc.heap.size wc [(⟨kq, 0, none⟩, (.int .i64 uk5)), (⟨kq, 1, none⟩, (.int .i64 uc5)), (⟨kq, 2, none⟩, (.int .i64 us5)), (⟨kq, 3, none⟩, (.string ut5)), (⟨kq, 4, none⟩, (.slice ua5 un5 uo5)), (⟨kq, 5, none⟩, (.slice va5 vn5 vo5)), (⟨w.heap.size, 4, none⟩, (.slice (some ⟨g2, o2, none⟩) l.length ic)), (⟨w.heap.size, 5, none⟩, (.slice (some ⟨g, o, none⟩) tx.keys.length kc)), (⟨g, o + q, none⟩, (.string sk)), (⟨g2, o2 + q * 6, none⟩, (.int .i64 iyk)), (⟨g2, o2 + q * 6 + 1, none⟩, (.int .i64 iyc)), (⟨g2, o2 + q * 6 + 2, none⟩, (.int .i64 iys)), (⟨g2, o2 + q * 6 + 3, none⟩, (.string iyst)), (⟨g2, o2 + q * 6 + 4, none⟩, (.slice ia ino iic)), (⟨g2, o2 + q * 6 + 5, none⟩, (.slice iva ivn ivo))] (wc) := by
                  refine ⟨Below.refl _ _, ?_⟩
                  intro t ht
                  simp only [List.mem_cons, List.not_mem_nil, or_false] at ht
                  rcases ht with rfl | rfl | rfl | rfl | rfl | rfl | rfl | rfl | rfl | rfl | rfl | rfl | rfl | rfl | rfl
                  · exact Sx.mk (r0)
                  · exact Sx.mk (r1)
                  · exact Sx.mk (r2)
                  · exact Sx.mk (r3)
                  · exact Sx.mk (r4)
                  · exact Sx.mk (r5)
                  · exact Sx.mk (x4)
                  · exact Sx.mk (x5)
                  · exact Sx.mk (HCK.out wc HQ.out.bel)
                  · exact Sx.mk (i0)
                  · exact Sx.mk (i1)
                  · exact Sx.mk (i2)
                  · exact Sx.mk (i3)
                  · exact Sx.mk (i4)
                  · exact Sx.mk (i5)
                obtain ⟨fx4, hfx4⟩ : ∃ fx : List (Addr × Value), [(⟨kq, 0, none⟩, (.int .i64 uk5)), (⟨kq, 1, none⟩, (.int .i64 uc5)), (⟨kq, 2, none⟩, (.int .i64 us5)), (⟨kq, 3, none⟩, (.string ut5)), (⟨kq, 4, none⟩, (.slice ua5 un5 uo5)), (⟨kq, 5, none⟩, (.slice va5 vn5 vo5)), (⟨w.heap.size, 4, none⟩, (.slice (some ⟨g2, o2, none⟩) l.length ic)), (⟨w.heap.size, 5, none⟩, (.slice (some ⟨g, o, none⟩) tx.keys.length kc)), (⟨g, o + q, none⟩, (.string sk)), (⟨g2, o2 + q * 6, none⟩, (.int .i64 iyk)), (⟨g2, o2 + q * 6 + 1, none⟩, (.int .i64 iyc)), (⟨g2, o2 + q * 6 + 2, none⟩, (.int .i64 iys)), (⟨g2, o2 + q * 6 + 3, none⟩, (.string iyst)), (⟨g2, o2 + q * 6 + 4, none⟩, (.slice ia ino iic)), (⟨g2, o2 + q * 6 + 5, none⟩, (.slice iva ivn ivo))] = fx := ⟨_, rfl⟩
                rw [hfx4] at hS4
                have u4_0 := Sx.get (B := wc.heap.size) (o := wc) (fx := fx4) (p := ⟨kq, 0, none⟩) (v := (.int .i64 uk5)) (by subst hfx4; simp)
                have u4_1 := Sx.get (B := wc.heap.size) (o := wc) (fx := fx4) (p := ⟨kq, 1, none⟩) (v := (.int .i64 uc5)) (by subst hfx4; simp)
                have u4_2 := Sx.get (B := wc.heap.size) (o := wc) (fx := fx4) (p := ⟨kq, 2, none⟩) (v := (.int .i64 us5)) (by subst hfx4; simp)
                have u4_3 := Sx.get (B := wc.heap.size) (o := wc) (fx := fx4) (p := ⟨kq, 3, none⟩) (v := (.string ut5)) (by subst hfx4; simp)
                have u4_4 := Sx.get (B := wc.heap.size) (o := wc) (fx := fx4) (p := ⟨kq, 4, none⟩) (v := (.slice ua5 un5 uo5)) (by subst hfx4; simp)
                have u4_5 := Sx.get (B := wc.heap.size) (o := wc) (fx := fx4) (p := ⟨kq, 5, none⟩) (v := (.slice va5 vn5 vo5)) (by subst hfx4; simp)
                have u4_6 := Sx.get (B := wc.heap.size) (o := wc) (fx := fx4) (p := ⟨w.heap.size, 4, none⟩) (v := (.slice (some ⟨g2, o2, none⟩) l.length ic)) (by subst hfx4; simp)
                have u4_7 := Sx.get (B := wc.heap.size) (o := wc) (fx := fx4) (p := ⟨w.heap.size, 5, none⟩) (v := (.slice (some ⟨g, o, none⟩) tx.keys.length kc)) (by subst hfx4; simp)
                have u4_8 := Sx.get (B := wc.heap.size) (o := wc) (fx := fx4) (p := ⟨g, o + q, none⟩) (v := (.string sk)) (by subst hfx4; simp)
                have u4_9 := Sx.get (B := wc.heap.size) (o := wc) (fx := fx4) (p := ⟨g2, o2 + q * 6, none⟩) (v := (.int .i64 iyk)) (by subst hfx4; simp)
                have u4_10 := Sx.get (B := wc.heap.size) (o := wc) (fx := fx4) (p := ⟨g2, o2 + q * 6 + 1, none⟩) (v := (.int .i64 iyc)) (by subst hfx4; simp)
                have u4_11 := Sx.get (B := wc.heap.size) (o := wc) (fx := fx4) (p := ⟨g2, o2 + q * 6 + 2, none⟩) (v := (.int .i64 iys)) (by subst hfx4; simp)
                have u4_12 := Sx.get (B := wc.heap.size) (o := wc) (fx := fx4) (p := ⟨g2, o2 + q * 6 + 3, none⟩) (v := (.string iyst)) (by subst hfx4; simp)
                have u4_13 := Sx.get (B := wc.heap.size) (o := wc) (fx := fx4) (p := ⟨g2, o2 + q * 6 + 4, none⟩) (v := (.slice ia ino iic)) (by subst hfx4; simp)
                have u4_14 := Sx.get (B := wc.heap.size) (o := wc) (fx := fx4) (p := ⟨g2, o2 + q * 6 + 5, none⟩) (v := (.slice iva ivn ivo)) (by subst hfx4; simp)
                clear hfx4
                have HS4 := Lib.hid hS4
                clear hS4
                clear r0 r1 r2 r3 r4 r5 x0 x1 x2 x3 x4 x5 i0 i1 i2 i3 i4 i5
                by_cases hsa : sk = a
                · have es := str_same sk
                  subst hsa
                  refine wp_region_held_drew (S := Sx wc.heap.size wc fx4) (by kernel_rfl) HS4.out.drew (fun hHeld => ?_)
                  refine take_put (i := 0) (d := 191) (oi := _) (v := ?vc0) rfl rfl (by kernel_rfl) (by kernel_rfl) (by kernel_rfl) (fun _ _ _ h => h) (Or.inl ⟨by rfl, ?yc0⟩) hHeld ?rc0
                  case yc0 => (intro w hSw; (try dsimp only at hSw); go_simp; try with_reducible rfl)
                  simp only [Act.put, List.setIfInBounds_toArray, List.set_cons_zero, List.set_cons_succ]
                  refine take_put (i := 1) (d := 192) (oi := _) (v := ?vc1) rfl rfl (by kernel_rfl) (by kernel_rfl) (by kernel_rfl) (fun _ _ _ h => h) (Or.inl ⟨by rfl, ?yc1⟩) hHeld ?rc1
                  case yc1 => (intro w hSw; (try dsimp only at hSw); go_simp; try with_reducible rfl)
                  simp only [Act.put, List.setIfInBounds_toArray, List.set_cons_zero, List.set_cons_succ]
                  refine take_put (i := 2) (d := 193) (oi := _) (v := ?vc2) rfl rfl (by kernel_rfl) (by kernel_rfl) (by kernel_rfl) (fun _ _ _ h => h) (Or.inl ⟨by rfl, ?yc2⟩) hHeld ?rc2
                  case yc2 => (intro w hSw; (try dsimp only at hSw); go_simp; try with_reducible rfl)
                  simp only [Act.put, List.setIfInBounds_toArray, List.set_cons_zero, List.set_cons_succ]
                  refine take_put (i := 3) (d := 194) (oi := _) (v := ?vc3) rfl rfl (by kernel_rfl) (by kernel_rfl) (by kernel_rfl) (fun _ _ _ h => h) (Or.inl ⟨by rfl, ?yc3⟩) hHeld ?rc3
                  case yc3 => (intro w hSw; (try dsimp only at hSw); go_simp; try with_reducible rfl)
                  simp only [Act.put, List.setIfInBounds_toArray, List.set_cons_zero, List.set_cons_succ]
                  refine take_put (i := 4) (d := 195) (oi := _) (v := ?vc4) rfl rfl (by kernel_rfl) (by kernel_rfl) (by kernel_rfl) (fun _ _ _ h => h) (Or.inl ⟨by rfl, ?yc4⟩) hHeld ?rc4
                  case yc4 => (intro w hSw; (try dsimp only at hSw); go_simp; try with_reducible rfl)
                  simp only [Act.put, List.setIfInBounds_toArray, List.set_cons_zero, List.set_cons_succ]
                  refine take_put (i := 5) (d := 196) (oi := _) (v := ?vc5) rfl rfl (by kernel_rfl) (by kernel_rfl) (by kernel_rfl) (fun _ _ _ h => h) (Or.inl ⟨by rfl, ?yc5⟩) hHeld ?rc5
                  case yc5 => (intro w hSw; (try dsimp only at hSw); go_simp; try with_reducible rfl)
                  simp only [Act.put, List.setIfInBounds_toArray, List.set_cons_zero, List.set_cons_succ]
                  refine take_put (i := 6) (d := 197) (oi := _) (v := ?vc6) rfl rfl (by kernel_rfl) (by kernel_rfl) (by kernel_rfl) (fun _ _ _ h => h) (Or.inl ⟨by rfl, ?yc6⟩) hHeld ?rc6
                  case yc6 => (intro w hSw; (try dsimp only at hSw); go_simp; try with_reducible rfl)
                  simp only [Act.put, List.setIfInBounds_toArray, List.set_cons_zero, List.set_cons_succ]
                  refine take_put (i := 7) (d := 198) (oi := _) (v := ?vc7) rfl rfl (by kernel_rfl) (by kernel_rfl) (by kernel_rfl) (fun _ _ _ h => h) (Or.inl ⟨by rfl, ?yc7⟩) hHeld ?rc7
                  case yc7 => (intro w hSw; (try dsimp only at hSw); go_simp; try with_reducible rfl)
                  simp only [Act.put, List.setIfInBounds_toArray, List.set_cons_zero, List.set_cons_succ]
                  refine take_put (i := 8) (d := 199) (oi := _) (v := ?vc8) rfl rfl (by kernel_rfl) (by kernel_rfl) (by kernel_rfl) (fun _ _ _ h => h) (Or.inl ⟨by rfl, ?yc8⟩) hHeld ?rc8
                  case yc8 => (intro w hSw; (try dsimp only at hSw); go_simp; try with_reducible rfl)
                  simp only [Act.put, List.setIfInBounds_toArray, List.set_cons_zero, List.set_cons_succ]
                  refine take_put (i := 9) (d := 200) (oi := _) (v := ?vc9) rfl rfl (by kernel_rfl) (by kernel_rfl) (by kernel_rfl) (fun _ _ _ h => h) (Or.inl ⟨by rfl, ?yc9⟩) hHeld ?rc9
                  case yc9 => (intro w hSw; (try dsimp only at hSw); go_simp; try with_reducible rfl)
                  simp only [Act.put, List.setIfInBounds_toArray, List.set_cons_zero, List.set_cons_succ]
                  refine take_put (i := 10) (d := 201) (oi := _) (v := ?vc10) rfl rfl (by kernel_rfl) (by kernel_rfl) (by kernel_rfl) (fun _ _ _ h => h) (Or.inl ⟨by rfl, ?yc10⟩) hHeld ?rc10
                  case yc10 => (intro w hSw; (try dsimp only at hSw); go_simp; try with_reducible rfl)
                  simp only [Act.put, List.setIfInBounds_toArray, List.set_cons_zero, List.set_cons_succ]
                  refine take_put (i := 11) (d := 202) (oi := _) (v := undef) rfl rfl (by kernel_rfl) (by kernel_rfl) (by kernel_rfl) (fun _ _ _ h => h) (Or.inr ⟨by rfl, rfl⟩) hHeld ?rc11
                  simp only [Act.put, List.setIfInBounds_toArray, List.set_cons_zero, List.set_cons_succ]
                  refine take_put (i := 12) (d := 203) (oi := _) (v := undef) rfl rfl (by kernel_rfl) (by kernel_rfl) (by kernel_rfl) (fun _ _ _ h => h) (Or.inr ⟨by rfl, rfl⟩) hHeld ?rc12
                  simp only [Act.put, List.setIfInBounds_toArray, List.set_cons_zero, List.set_cons_succ]
                  refine take_put (i := 13) (d := 204) (oi := _) (v := undef) rfl rfl (by kernel_rfl) (by kernel_rfl) (by kernel_rfl) (fun _ _ _ h => h) (Or.inr ⟨by rfl, rfl⟩) hHeld ?rc13
                  simp only [Act.put, List.setIfInBounds_toArray, List.set_cons_zero, List.set_cons_succ]
                  refine take_put (i := 14) (d := 205) (oi := _) (v := undef) rfl rfl (by kernel_rfl) (by kernel_rfl) (by kernel_rfl) (fun _ _ _ h => h) (Or.inr ⟨by rfl, rfl⟩) hHeld ?rc14
                  simp only [Act.put, List.setIfInBounds_toArray, List.set_cons_zero, List.set_cons_succ]
                  refine take_put (i := 15) (d := 206) (oi := _) (v := undef) rfl rfl (by kernel_rfl) (by kernel_rfl) (by kernel_rfl) (fun _ _ _ h => h) (Or.inr ⟨by rfl, rfl⟩) hHeld ?rc15
                  simp only [Act.put, List.setIfInBounds_toArray, List.set_cons_zero, List.set_cons_succ]
                  refine take_put (i := 16) (d := 207) (oi := _) (v := undef) rfl rfl (by kernel_rfl) (by kernel_rfl) (by kernel_rfl) (fun _ _ _ h => h) (Or.inr ⟨by rfl, rfl⟩) hHeld ?rc16
                  simp only [Act.put, List.setIfInBounds_toArray, List.set_cons_zero, List.set_cons_succ]
                  refine take_put (i := 17) (d := 208) (oi := _) (v := undef) rfl rfl (by kernel_rfl) (by kernel_rfl) (by kernel_rfl) (fun _ _ _ h => h) (Or.inr ⟨by rfl, rfl⟩) hHeld ?rc17
                  simp only [Act.put, List.setIfInBounds_toArray, List.set_cons_zero, List.set_cons_succ]
                  refine take_put (i := 18) (d := 209) (oi := _) (v := undef) rfl rfl (by kernel_rfl) (by kernel_rfl) (by kernel_rfl) (fun _ _ _ h => h) (Or.inr ⟨by rfl, rfl⟩) hHeld ?rc18
                  simp only [Act.put, List.setIfInBounds_toArray, List.set_cons_zero, List.set_cons_succ]
                  refine take_put (i := 19) (d := 210) (oi := _) (v := ?vc19) rfl rfl (by kernel_rfl) (by kernel_rfl) (by kernel_rfl) (fun _ _ _ h => h) (Or.inl ⟨by rfl, ?yc19⟩) hHeld ?rc19
                  case yc19 => (intro w hSw; (try dsimp only at hSw); go_simp; try with_reducible rfl)
                  simp only [Act.put, List.setIfInBounds_toArray, List.set_cons_zero, List.set_cons_succ]
                  refine take_put (i := 20) (d := 211) (oi := _) (v := ?vc20) rfl rfl (by kernel_rfl) (by kernel_rfl) (by kernel_rfl) (fun _ _ _ h => h) (Or.inl ⟨by rfl, ?yc20⟩) hHeld ?rc20
                  case yc20 => (intro w hSw; (try dsimp only at hSw); go_simp; try with_reducible rfl)
                  simp only [Act.put, List.setIfInBounds_toArray, List.set_cons_zero, List.set_cons_succ]
                  refine wpAnyH_done (by kernel_rfl) ?_ _
                  have HF := Lib.hid hHeld.1
                  clear hHeld u4_0 u4_1 u4_2 u4_3 u4_4 u4_5 u4_6 u4_7 u4_8 u4_9 u4_10 u4_11 u4_12 u4_13 u4_14
                  go_wp2
                  go_meet
                  exact ⟨rfl, Lib.hid ((HQ.out.on HF.out).sub (fun p hp => List.mem_cons_of_mem _ hp))⟩
                · have es := str_ne hsa
                  have HTR : Hid ((∃ n, VT wc n ⟨uk5, uc5, us5, ut5, .slice ua5 un5 uo5, .slice va5 vn5 vo5⟩ it) ∧ ∃ n, VT wc n ⟨iyk, iyc, iys, iyst, .slice ia ino iic, .slice iva ivn ivo⟩ it) := Lib.hid (And.intro (by have := HQ.out.tree (kq, ⟨uk5, uc5, us5, ut5, .slice ua5 un5 uo5, .slice va5 vn5 vo5⟩, t5) (by simp); rw [← H5.out hsa]; exact this) ⟨_, VT.on HQ.out.bel im HIV.out⟩)
                  refine wp_region_held_drew (S := Sx wc.heap.size wc fx4) (by kernel_rfl) HS4.out.drew (fun hHeld => ?_)
                  refine take_put (i := 0) (d := 191) (oi := _) (v := ?vd0) rfl rfl (by kernel_rfl) (by kernel_rfl) (by kernel_rfl) (fun _ _ _ h => h) (Or.inl ⟨by rfl, ?yd0⟩) hHeld ?rd0
                  case yd0 => (intro w hSw; (try dsimp only at hSw); go_simp; try with_reducible rfl)
                  simp only [Act.put, List.setIfInBounds_toArray, List.set_cons_zero, List.set_cons_succ]
                  refine take_put (i := 1) (d := 192) (oi := _) (v := ?vd1) rfl rfl (by kernel_rfl) (by kernel_rfl) (by kernel_rfl) (fun _ _ _ h => h) (Or.inl ⟨by rfl, ?yd1⟩) hHeld ?rd1
                  case yd1 => (intro w hSw; (try dsimp only at hSw); go_simp; try with_reducible rfl)
                  simp only [Act.put, List.setIfInBounds_toArray, List.set_cons_zero, List.set_cons_succ]
                  refine take_put (i := 2) (d := 193) (oi := _) (v := ?vd2) rfl rfl (by kernel_rfl) (by kernel_rfl) (by kernel_rfl) (fun _ _ _ h => h) (Or.inl ⟨by rfl, ?yd2⟩) hHeld ?rd2
                  case yd2 => (intro w hSw; (try dsimp only at hSw); go_simp; try with_reducible rfl)
                  simp only [Act.put, List.setIfInBounds_toArray, List.set_cons_zero, List.set_cons_succ]
                  refine take_put (i := 3) (d := 194) (oi := _) (v := ?vd3) rfl rfl (by kernel_rfl) (by kernel_rfl) (by kernel_rfl) (fun _ _ _ h => h) (Or.inl ⟨by rfl, ?yd3⟩) hHeld ?rd3
                  case yd3 => (intro w hSw; (try dsimp only at hSw); go_simp; try with_reducible rfl)
                  simp only [Act.put, List.setIfInBounds_toArray, List.set_cons_zero, List.set_cons_succ]
                  refine take_put (i := 4) (d := 195) (oi := _) (v := ?vd4) rfl rfl (by kernel_rfl) (by kernel_rfl) (by kernel_rfl) (fun _ _ _ h => h) (Or.inl ⟨by rfl, ?yd4⟩) hHeld ?rd4
                  case yd4 => (intro w hSw; (try dsimp only at hSw); go_simp; try with_reducible rfl)
                  simp only [Act.put, List.setIfInBounds_toArray, List.set_cons_zero, List.set_cons_succ]
                  refine take_put (i := 5) (d := 196) (oi := _) (v := ?vd5) rfl rfl (by kernel_rfl) (by kernel_rfl) (by kernel_rfl) (fun _ _ _ h => h) (Or.inl ⟨by rfl, ?yd5⟩) hHeld ?rd5
                  case yd5 => (intro w hSw; (try dsimp only at hSw); go_simp; try with_reducible rfl)
                  simp only [Act.put, List.setIfInBounds_toArray, List.set_cons_zero, List.set_cons_succ]
                  refine take_put (i := 6) (d := 197) (oi := _) (v := ?vd6) rfl rfl (by kernel_rfl) (by kernel_rfl) (by kernel_rfl) (fun _ _ _ h => h) (Or.inl ⟨by rfl, ?yd6⟩) hHeld ?rd6
                  case yd6 => (intro w hSw; (try dsimp only at hSw); go_simp; try with_reducible rfl)
                  simp only [Act.put, List.setIfInBounds_toArray, List.set_cons_zero, List.set_cons_succ]
                  refine take_put (i := 7) (d := 198) (oi := _) (v := ?vd7) rfl rfl (by kernel_rfl) (by kernel_rfl) (by kernel_rfl) (fun _ _ _ h => h) (Or.inl ⟨by rfl, ?yd7⟩) hHeld ?rd7
                  case yd7 => (intro w hSw; (try dsimp only at hSw); go_simp; try with_reducible rfl)
                  simp only [Act.put, List.setIfInBounds_toArray, List.set_cons_zero, List.set_cons_succ]
                  refine take_put (i := 8) (d := 199) (oi := _) (v := ?vd8) rfl rfl (by kernel_rfl) (by kernel_rfl) (by kernel_rfl) (fun _ _ _ h => h) (Or.inl ⟨by rfl, ?yd8⟩) hHeld ?rd8
                  case yd8 => (intro w hSw; (try dsimp only at hSw); go_simp; try with_reducible rfl)
                  simp only [Act.put, List.setIfInBounds_toArray, List.set_cons_zero, List.set_cons_succ]
                  refine take_put (i := 9) (d := 200) (oi := _) (v := ?vd9) rfl rfl (by kernel_rfl) (by kernel_rfl) (by kernel_rfl) (fun _ _ _ h => h) (Or.inl ⟨by rfl, ?yd9⟩) hHeld ?rd9
                  case yd9 => (intro w hSw; (try dsimp only at hSw); go_simp; try with_reducible rfl)
                  simp only [Act.put, List.setIfInBounds_toArray, List.set_cons_zero, List.set_cons_succ]
                  refine take_put (i := 10) (d := 201) (oi := _) (v := ?vd10) rfl rfl (by kernel_rfl) (by kernel_rfl) (by kernel_rfl) (fun _ _ _ h => h) (Or.inl ⟨by rfl, ?yd10⟩) hHeld ?rd10
                  case yd10 => (intro w hSw; (try dsimp only at hSw); go_simp; try with_reducible rfl)
                  simp only [Act.put, List.setIfInBounds_toArray, List.set_cons_zero, List.set_cons_succ]
                  refine take_put (i := 11) (d := 202) (oi := _) (v := ?vd11) rfl rfl (by kernel_rfl) (by kernel_rfl) (by kernel_rfl) (fun _ _ _ h => h) (Or.inl ⟨by rfl, ?yd11⟩) hHeld ?rd11
                  case yd11 => (intro w hSw; (try dsimp only at hSw); go_simp; try with_reducible rfl)
                  simp only [Act.put, List.setIfInBounds_toArray, List.set_cons_zero, List.set_cons_succ]
                  refine take_put (i := 12) (d := 203) (oi := _) (v := ?vd12) rfl rfl (by kernel_rfl) (by kernel_rfl) (by kernel_rfl) (fun _ _ _ h => h) (Or.inl ⟨by rfl, ?yd12⟩) hHeld ?rd12
                  case yd12 => (intro w hSw; (try dsimp only at hSw); go_simp; try with_reducible rfl)
                  simp only [Act.put, List.setIfInBounds_toArray, List.set_cons_zero, List.set_cons_succ]
                  refine take_put (i := 13) (d := 204) (oi := _) (v := ?vd13) rfl rfl (by kernel_rfl) (by kernel_rfl) (by kernel_rfl) (fun _ _ _ h => h) (Or.inl ⟨by rfl, ?yd13⟩) hHeld ?rd13
                  case yd13 => (intro w hSw; (try dsimp only at hSw); go_simp; try with_reducible rfl)
                  simp only [Act.put, List.setIfInBounds_toArray, List.set_cons_zero, List.set_cons_succ]
                  refine take_put (i := 14) (d := 205) (oi := _) (v := ?vd14) rfl rfl (by kernel_rfl) (by kernel_rfl) (by kernel_rfl) (fun _ _ _ h => h) (Or.inl ⟨by rfl, ?yd14⟩) hHeld ?rd14
                  case yd14 => (intro w hSw; (try dsimp only at hSw); go_simp; try with_reducible rfl)
                  simp only [Act.put, List.setIfInBounds_toArray, List.set_cons_zero, List.set_cons_succ]
                  refine take_put (i := 15) (d := 206) (oi := _) (v := ?vd15) rfl rfl (by kernel_rfl) (by kernel_rfl) (by kernel_rfl) (fun _ _ _ h => h) (Or.inl ⟨by rfl, ?yd15⟩) hHeld ?rd15
                  case yd15 => (intro w hSw; (try dsimp only at hSw); go_simp; try with_reducible rfl)
                  simp only [Act.put, List.setIfInBounds_toArray, List.set_cons_zero, List.set_cons_succ]
                  refine take_put (i := 16) (d := 207) (oi := _) (v := ?vd16) rfl rfl (by kernel_rfl) (by kernel_rfl) (by kernel_rfl) (fun _ _ _ h => h) (Or.inl ⟨by rfl, ?yd16⟩) hHeld ?rd16
                  case yd16 => (intro w hSw; (try dsimp only at hSw); go_simp; try with_reducible rfl)
                  simp only [Act.put, List.setIfInBounds_toArray, List.set_cons_zero, List.set_cons_succ]
                  refine wpAnyH_ready (rs := [17]) (by kernel_rfl) (by simp) (AllReadyH.cons (o := _) rfl (fun K hK => ?_) AllReadyH.nil)
                  go_simp
                  refine (same_cells ⟨uk5, uc5, us5, ut5, .slice ua5 un5 uo5, .slice va5 vn5 vo5⟩ ⟨iyk, iyc, iys, iyst, .slice ia ino iic, .slice iva ivn ivo⟩ it _ (by obtain ⟨nq, hq⟩ := HTR.out.1; exact ⟨nq, VT.on hHeld.1 nq hq⟩) (by obtain ⟨nq, hq⟩ := HTR.out.2; exact ⟨nq, VT.on hHeld.1 nq hq⟩)).mono ?_
                  rintro e wq ⟨rfl, bk⟩
                  (try dsimp only)
                  refine hK.out _ _ (hHeld.call bk (Nat.le_refl _)) (fun hHeld => ?_)
                  clear hK K
                  refine take_put (i := 18) (d := 209) (oi := _) (v := ?vd18) rfl rfl (by kernel_rfl) (by kernel_rfl) (by kernel_rfl) (fun _ _ _ h => h) (Or.inl ⟨by rfl, ?yd18⟩) hHeld ?rd18
                  case yd18 => (intro w hSw; (try dsimp only at hSw); go_simp; try with_reducible rfl)
                  simp only [Act.put, List.setIfInBounds_toArray, List.set_cons_zero, List.set_cons_succ]
                  refine take_put (i := 19) (d := 210) (oi := _) (v := ?vd19) rfl rfl (by kernel_rfl) (by kernel_rfl) (by kernel_rfl) (fun _ _ _ h => h) (Or.inl ⟨by rfl, ?yd19⟩) hHeld ?rd19
                  case yd19 => (intro w hSw; (try dsimp only at hSw); go_simp; try with_reducible rfl)
                  simp only [Act.put, List.setIfInBounds_toArray, List.set_cons_zero, List.set_cons_succ]
                  refine take_put (i := 20) (d := 211) (oi := _) (v := ?vd20) rfl rfl (by kernel_rfl) (by kernel_rfl) (by kernel_rfl) (fun _ _ _ h => h) (Or.inl ⟨by rfl, ?yd20⟩) hHeld ?rd20
                  case yd20 => (intro w hSw; (try dsimp only at hSw); go_simp; try with_reducible rfl)
                  simp only [Act.put, List.setIfInBounds_toArray, List.set_cons_zero, List.set_cons_succ]
                  refine wpAnyH_done (by kernel_rfl) ?_ _
                  have HF := Lib.hid hHeld.1
                  clear hHeld u4_0 u4_1 u4_2 u4_3 u4_4 u4_5 u4_6 u4_7 u4_8 u4_9 u4_10 u4_11 u4_12 u4_13 u4_14
                  go_wp2
                  go_meet
                  exact ⟨rfl, Lib.hid ((HQ.out.on HF.out).sub (fun p hp => List.mem_cons_of_mem _ hp))⟩
              case rest =>
              clear HQ HCK HA6 HIV H5
              obtain ⟨rfl, HB⟩ := hcut
              go_wp2
              go_roundw
              case rel => exact ⟨q + 1, by go_num, by omega, HB⟩
              case measure => simp [intOf]; omega
            · have hnl : ¬ ((q : Int) < (tx.keys.length : Int)) := by omega
              go_upto_region 33 with (fail)
              have hzk : zk = 6 := by
                obtain ⟨nn, hv⟩ : ∃ nn, VT wr nn ⟨zk, zc, zs, zst, .slice zo TP.items.length zoc, .slice zp TP.keys.length zpc⟩ TP := HB.out.tree (kp, ⟨zk, zc, zs, zst, .slice zo TP.items.length zoc, .slice zp TP.keys.length zpc⟩, TP) (by simp)
                obtain ⟨_, _, _, _, _, _, _, _, _, _, g1, _⟩ := hv.parts
                exact g1.trans HP6.out
              clear x0 x1 x2 x3 x4 x5 hnl
              obtain ⟨z0, z1, z2, z3, z4, z5⟩ := HB.out.cells (k := kp) (x := ⟨zk, zc, zs, zst, .slice zo TP.items.length zoc, .slice zp TP.keys.length zpc⟩) (t := TP) (by simp)
              simp only at z0 z1 z2 z3 z4 z5
              rw [hzk] at z0
              clear hzk
              go_wp2_with (go_at_call 9; refine (lives_any _).mono ?_; rintro e w9 ⟨rfl, b9⟩)
              go_ret
              exact ⟨rfl, bT HB.out.bel b9⟩
end Jv
end Go.Proofs.Ytbfmgjgdpbffdaa
