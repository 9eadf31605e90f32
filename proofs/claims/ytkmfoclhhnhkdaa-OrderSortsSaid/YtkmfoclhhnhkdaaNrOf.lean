/- Whole numbers without bound: Of, Shift. -/
import Derived.Test.YtkmfoclhhnhkdaaNrPlus
namespace Go.Proofs.Ytkmfoclhhnhkdaa
open Go.RowKit
namespace Nm
/-- a block that holds a whole number without bound -/
def Lb (w : World) (k : Nat) (x y : Value) : Prop := w.heap[k]? = some (.cells #[x, y] 108 (0, 0))
section
variable {w a b : World} {k B : Nat} {x y v : Value} {l : List Nat}
theorem Lb.lt (h : Lb w k x y) : k < w.heap.size := (Array.getElem?_eq_some_iff.1 h).1
theorem Lb.bx (h : Lb w k x y) : Bx w k x y := by
  have h' : w.heap[k]? = some (.cells #[x, y] 108 (0, 0)) := h
  exact ⟨by rw [cell_of_row w k 0 _ _ _ h']; rfl, by rw [cell_of_row w k 1 _ _ _ h']; rfl, by simp [World.frozen?, h'], by simp [World.frozen?, h']⟩
theorem Lb.new (w : World) (x y : Value) : Lb (w.alloc (.cells #[x, y] 108)) w.heap.size x y := heap_alloc_new w _
theorem Lb.on (h : Lb a k x y) (hb : Below a.heap.size a b) : Lb b k x y := (hb.block k h.lt).trans h
theorem Lb.alloc (h : Lb a k x y) (o : Obj) : Lb (a.alloc o) k x y := h.on (bA1 a o)
theorem Lb.set1 (h : Lb a k x y) (u : Value) : Lb (a.setCell ⟨k, 1, none⟩ u) k x u := by
  unfold Lb at h ⊢
  simp [World.setCell, Array.getElem?_modify, h]
theorem Lb.set0 (h : Lb a k x y) (u : Value) : Lb (a.setCell ⟨k, 0, none⟩ u) k u y := by
  unfold Lb at h ⊢
  simp [World.setCell, Array.getElem?_modify, h]
theorem Lb.far (h : Lb a k x y) {p : Addr} (hp : p.block ≠ k) (u : Value) : Lb (a.setCell p u) k x y := (Below.heap_setCell a p u k (fun e => hp e.symm)).trans h
/-- a row of ints is in no such block -/
theorem Ow.ne (h : Ow B a v l) (hk : Lb a k x y) : v.ownBlock ≠ some k := by
  rcases h.2 with ⟨rfl, _⟩ | ⟨g, cap, cur, rfl, _, hg, _⟩
  · simp [Value.ownBlock]
  · intro e
    have e2 : g = k := by simpa [Value.ownBlock] using e
    subst e2
    have hk' : a.heap[g]? = some (.cells #[x, y] 108 (0, 0)) := hk
    rw [hk'] at hg
    simp at hg
theorem Lb.grown (h : Lb a k x y) (ho : Ow B a v l) (hg : a.grownBy b v.ownBlock) : Lb b k x y := (hg.block k h.lt (fun e => ho.ne h e.symm)).trans h
theorem Ow.set (h : Ow B a v l) (hk : Lb a k x y) (i : Nat) (u : Value) : Ow B (a.setCell ⟨k, i, none⟩ u) v l := by
  refine ⟨h.1, ?_⟩
  rcases h.2 with h0 | ⟨g, cap, cur, hv, hB, hg, rest⟩
  · exact .inl h0
  · refine .inr ⟨g, cap, cur, hv, hB, ?_, rest⟩
    have hne : g ≠ k := fun e => h.ne hk (by rw [hv, e]; rfl)
    exact (Below.heap_setCell a ⟨k, i, none⟩ u g hne).trans hg
theorem Ow.on (h : Ow B a v l) (hb : Below a.heap.size a b) : Ow B b v l := by
  refine ⟨h.1, ?_⟩
  rcases h.2 with h0 | ⟨g, cap, cur, hv, hB, hg, rest⟩
  · exact .inl h0
  · exact .inr ⟨g, cap, cur, hv, hB, (hb.block g (Array.getElem?_eq_some_iff.1 hg).1).trans hg, rest⟩
theorem Ow.sl (h : Ow B a v l) : ∃ ao cap, v = .slice ao l.length cap := by
  rcases h.2 with ⟨rfl, h0⟩ | ⟨g, cap, cur, rfl, _⟩
  · exact ⟨none, 0, by rw [h0]⟩
  · exact ⟨_, cap, rfl⟩
end
theorem dgs_next {n x : Nat} {out : List Nat} (h : dgs n = out ++ dgs x) (hx : x ≠ 0) : dgs n = (out ++ [x % 10]) ++ dgs (x / 10) := by
  rw [h, dgs_pos hx, List.append_assoc]; rfl
theorem dgs_short {n : Nat} (h : n < 10000000000000000000) : (dgs n).length ≤ 19 := dgs_len.2 h
set_option maxRecDepth 100000 in
set_option maxHeartbeats 4000000 in
theorem of_pos (c : Int) (w : World) (hc : 0 ≤ c) (_h0 : -9223372036854775808 ≤ c) (h1 : c < 9223372036854775808) :
    Calls Try.prog 92 #[.int .i64 c] w (IntIs c w) := by
  obtain ⟨i0, hi, hz0, hz1, hz2⟩ := info_parts info_i
  go_enter Try.func92, Try.ntmps92
  go_wp2
  go_loopw [0] (fun cx wr => ∃ (x : Int) (out : List Nat) (v : Value), cx = .int .i64 x ∧ 0 ≤ x ∧ (-9223372036854775808 ≤ x ∧ x < 9223372036854775808) ∧ Hid (dgs c.natAbs = out ++ dgs x.natAbs) ∧ Hid (Ow w.heap.size wr v out) ∧ Hid (Lb wr (w.heap.size + 1) (.bool false) v) ∧ Hid (Lb wr w.heap.size (.bool false) (.slice none 0 0)) ∧ Hid (Below w.heap.size w wr)) (fun cx _ => (intOf cx).natAbs)
  case atStart => exact ⟨c, [], .slice none 0 0, rfl, by omega, by omega, Lib.hid rfl, Lib.hid (World.ownsRow_nil _ _ _ _), Lib.hid (by
    have h := Lb.new (w.alloc (Obj.cells #[.bool false, .slice none 0 0] 108)) (.bool (decide (c < 0))) (.slice none 0 0)
    simp only [show decide (c < 0) = false from decide_eq_false (by omega)] at h ⊢
    simpa using h), Lib.hid ((Lb.new w _ _).alloc _), Lib.hid (bA2 _ _ _)⟩
  case round =>
    obtain ⟨x, out, v, rfl, hx, hxb, HD, HO, HL, HR, HBel⟩ := hrel
    obtain ⟨ao, ac, rfl⟩ := HO.out.sl
    obtain ⟨l0, l1, m0, m1⟩ := HL.out.bx
    obtain ⟨r0, r1, s0, s1⟩ := HR.out.bx
    by_cases x0 : x = 0
    · subst x0
      have HE : Hid (out = dgs c.natAbs) := Lib.hid (by rw [HD.out, show ((0 : Int)).natAbs = 0 from rfl, dgs_zero, List.append_nil])
      clear HD
      go_wp2
      obtain ⟨v0, v1, _, _⟩ := HR.out.bx.put (.bool false) (.slice ao out.length ac)
      simp [bodyPost, results, Try.results92, go_sem, v0, v1]
      refine ⟨_, by rw [decide_eq_false (by omega)], ?_, (HBel.out.setCell (by simp) _).setCell (by simp) _⟩
      rw [← HE.out]
      exact (Rw.of_own HO.out).box HR.out.bx
    · have hpx : 0 < x := by omega
      have hm : ¬ (x % 10 < 0) := by omega
      have HD' : Hid (dgs c.natAbs = (out ++ [x.natAbs % 10]) ++ dgs (x / 10).natAbs) := Lib.hid (by
        have := dgs_next HD.out (by omega : x.natAbs ≠ 0)
        rw [show (x / 10).natAbs = x.natAbs / 10 by omega]; exact this)
      have hon : out.length ≤ 19 := by
        have h1 := congrArg List.length HD.out
        have h2 := dgs_short (n := c.natAbs) (by omega)
        rw [List.length_append] at h1
        omega
      clear HD
      go_wp2_with (at_builtin; refine wpList_append_own _ rfl _ _ 48 rfl w.heap.size 3 i0 (.int .i64 0) 1 8 Try.underlying48 hi hz0 hz1 hz2 rfl (by decide) _ _ _ rfl (HO.out.alloc _) ⟨wr.heap.size, 0, none⟩ 1 1 [.int .i64 (x % 10)] rfl rfl (cells_new _ _ _) (one_int _) ?c3a ?c4a ?c5a ?c6a)
      case c3a => unfold maxLen; omega
      case c4a => omega
      case c5a => have := HBel.out.size; simp; omega
      case c6a =>
        intro v' w1 hown' hgrow _
        have HO' : Hid (Ow w.heap.size w1 v' (out ++ [x.natAbs % 10])) := Lib.hid (Ow.push (by omega) hown')
        have HB' : Hid (Below w.heap.size w w1) := Lib.hid (HO.out.bel (Nat.le_refl _) HBel.out (Nat.le_refl _) hgrow)
        have HL' := Lib.hid ((HL.out.alloc _).grown (HO.out.alloc _) hgrow)
        have HR' := Lib.hid ((HR.out.alloc _).grown (HO.out.alloc _) hgrow)
        clear hown' hgrow
        obtain ⟨ao', ac', rfl⟩ : ∃ ao cap, v' = .slice ao (out.length + 1) cap := by simpa using HO'.out.sl
        obtain ⟨e0, e1, f0, f1⟩ := HL'.out.bx
        go_wp2
        go_roundw
        case rel => exact ⟨x / 10, out ++ [x.natAbs % 10], _, by go_num, by omega, by omega, HD', Lib.hid (HO'.out.set HL'.out 1 _), Lib.hid (HL'.out.set1 _), Lib.hid (HR'.out.far (by simp) _), Lib.hid (HB'.out.setCell (by simp) _)⟩
        case measure => simp [intOf]; omega
set_option maxRecDepth 100000 in
set_option maxHeartbeats 4000000 in
theorem of_neg (c : Int) (w : World) (hc : c < 0) (h0 : -9223372036854775808 ≤ c) (_h1 : c < 9223372036854775808) :
    Calls Try.prog 92 #[.int .i64 c] w (IntIs c w) := by
  obtain ⟨i0, hi, hz0, hz1, hz2⟩ := info_parts info_i
  go_enter Try.func92, Try.ntmps92
  go_wp2
  go_loopw [0] (fun cx wr => ∃ (x : Int) (out : List Nat) (v : Value), cx = .int .i64 x ∧ x ≤ 0 ∧ (-9223372036854775808 ≤ x ∧ x < 9223372036854775808) ∧ Hid (dgs c.natAbs = out ++ dgs x.natAbs) ∧ Hid (Ow w.heap.size wr v out) ∧ Hid (Lb wr (w.heap.size + 1) (.bool true) v) ∧ Hid (Lb wr w.heap.size (.bool false) (.slice none 0 0)) ∧ Hid (Below w.heap.size w wr)) (fun cx _ => (intOf cx).natAbs)
  case atStart => exact ⟨c, [], .slice none 0 0, rfl, by omega, by omega, Lib.hid rfl, Lib.hid (World.ownsRow_nil _ _ _ _), Lib.hid (by
    have h := Lb.new (w.alloc (Obj.cells #[.bool false, .slice none 0 0] 108)) (.bool (decide (c < 0))) (.slice none 0 0)
    simp only [show decide (c < 0) = true from decide_eq_true (by omega)] at h ⊢
    simpa using h), Lib.hid ((Lb.new w _ _).alloc _), Lib.hid (bA2 _ _ _)⟩
  case round =>
    obtain ⟨x, out, v, rfl, hx, hxb, HD, HO, HL, HR, HBel⟩ := hrel
    obtain ⟨ao, ac, rfl⟩ := HO.out.sl
    obtain ⟨l0, l1, m0, m1⟩ := HL.out.bx
    obtain ⟨r0, r1, s0, s1⟩ := HR.out.bx
    by_cases x0 : x = 0
    · subst x0
      have HE : Hid (out = dgs c.natAbs) := Lib.hid (by rw [HD.out, show ((0 : Int)).natAbs = 0 from rfl, dgs_zero, List.append_nil])
      clear HD
      go_wp2
      obtain ⟨v0, v1, _, _⟩ := HR.out.bx.put (.bool true) (.slice ao out.length ac)
      simp [bodyPost, results, Try.results92, go_sem, v0, v1]
      refine ⟨_, by rw [decide_eq_true (by omega)], ?_, (HBel.out.setCell (by simp) _).setCell (by simp) _⟩
      rw [← HE.out]
      exact (Rw.of_own HO.out).box HR.out.bx
    · have hnx : x < 0 := by omega
      obtain ⟨q, hq⟩ : ∃ q, x.tdiv 10 = q := ⟨_, rfl⟩
      have hqb : (q : Int) = -((x.natAbs / 10 : Nat) : Int) := by
        have e1 := Int.neg_tdiv (a := x) (b := 10)
        rw [Int.tdiv_eq_ediv_of_nonneg (by omega), hq] at e1
        omega
      have hqx : x < q := by omega
      obtain ⟨t, ht⟩ : ∃ t, x.tmod 10 = t := ⟨_, rfl⟩
      have htb : (t : Int) = -((x.natAbs % 10 : Nat) : Int) := by
        have e1 := Int.neg_tmod (a := x) (b := 10)
        rw [Int.tmod_eq_emod_of_nonneg (by omega), ht] at e1
        omega
      have HQ := Lib.hid hqb
      have HT := Lib.hid htb
      have hq0 : q ≤ 0 := by omega
      have hq1 : -9223372036854775808 ≤ q := by omega
      have ht0 : t ≤ 0 := by omega
      have ht1 : -9 ≤ t := by omega
      clear hqb htb
      by_cases tz : t = 0
      · subst tz
        have HD' : Hid (dgs c.natAbs = (out ++ [x.natAbs % 10]) ++ dgs (q).natAbs) := Lib.hid (by
          have := dgs_next HD.out (by omega : x.natAbs ≠ 0)
          rw [show (q).natAbs = x.natAbs / 10 by have := HQ.out; omega]; exact this)
        have hon : out.length ≤ 19 := by
          have h1 := congrArg List.length HD.out
          have h2 := dgs_short (n := c.natAbs) (by omega)
          rw [List.length_append] at h1
          omega
        clear HD
        go_wp2_with (at_builtin; refine wpList_append_own _ rfl _ _ 48 rfl w.heap.size 3 i0 (.int .i64 0) 1 8 Try.underlying48 hi hz0 hz1 hz2 rfl (by decide) _ _ _ rfl (HO.out.alloc _) ⟨wr.heap.size, 0, none⟩ 1 1 [.int .i64 ((0 : Int))] rfl rfl (cells_new _ _ _) (one_int _) ?c3a ?c4a ?c5a ?c6a)
        case c3a => unfold maxLen; omega
        case c4a => omega
        case c5a => have := HBel.out.size; simp; omega
        case c6a =>
          intro v' w1 hown' hgrow _
          have HO' : Hid (Ow w.heap.size w1 v' (out ++ [x.natAbs % 10])) := Lib.hid (Ow.push (by have := HT.out; omega) hown')
          have HB' : Hid (Below w.heap.size w w1) := Lib.hid (HO.out.bel (Nat.le_refl _) HBel.out (Nat.le_refl _) hgrow)
          have HL' := Lib.hid ((HL.out.alloc _).grown (HO.out.alloc _) hgrow)
          have HR' := Lib.hid ((HR.out.alloc _).grown (HO.out.alloc _) hgrow)
          clear hown' hgrow
          obtain ⟨ao', ac', rfl⟩ : ∃ ao cap, v' = .slice ao (out.length + 1) cap := by simpa using HO'.out.sl
          obtain ⟨e0, e1, f0, f1⟩ := HL'.out.bx
          go_wp2
          go_roundw
          case rel => exact ⟨q, out ++ [x.natAbs % 10], _, by go_num, by omega, by omega, HD', Lib.hid (HO'.out.set HL'.out 1 _), Lib.hid (HL'.out.set1 _), Lib.hid (HR'.out.far (by simp) _), Lib.hid (HB'.out.setCell (by simp) _)⟩
          case measure => simp [intOf]; omega
      · have tn : t < 0 := by omega
        have HD' : Hid (dgs c.natAbs = (out ++ [x.natAbs % 10]) ++ dgs (q).natAbs) := Lib.hid (by
          have := dgs_next HD.out (by omega : x.natAbs ≠ 0)
          rw [show (q).natAbs = x.natAbs / 10 by have := HQ.out; omega]; exact this)
        have hon : out.length ≤ 19 := by
          have h1 := congrArg List.length HD.out
          have h2 := dgs_short (n := c.natAbs) (by omega)
          rw [List.length_append] at h1
          omega
        clear HD
        go_wp2_with (at_builtin; refine wpList_append_own _ rfl _ _ 48 rfl w.heap.size 3 i0 (.int .i64 0) 1 8 Try.underlying48 hi hz0 hz1 hz2 rfl (by decide) _ _ _ rfl (HO.out.alloc _) ⟨wr.heap.size, 0, none⟩ 1 1 [.int .i64 (-t)] rfl rfl (cells_new _ _ _) (one_int _) ?c3b ?c4b ?c5b ?c6b)
        case c3b => unfold maxLen; omega
        case c4b => omega
        case c5b => have := HBel.out.size; simp; omega
        case c6b =>
          intro v' w1 hown' hgrow _
          have HO' : Hid (Ow w.heap.size w1 v' (out ++ [x.natAbs % 10])) := Lib.hid (Ow.push (by have := HT.out; omega) hown')
          have HB' : Hid (Below w.heap.size w w1) := Lib.hid (HO.out.bel (Nat.le_refl _) HBel.out (Nat.le_refl _) hgrow)
          have HL' := Lib.hid ((HL.out.alloc _).grown (HO.out.alloc _) hgrow)
          have HR' := Lib.hid ((HR.out.alloc _).grown (HO.out.alloc _) hgrow)
          clear hown' hgrow
          obtain ⟨ao', ac', rfl⟩ : ∃ ao cap, v' = .slice ao (out.length + 1) cap := by simpa using HO'.out.sl
          obtain ⟨e0, e1, f0, f1⟩ := HL'.out.bx
          go_wp2
          go_roundw
          case rel => exact ⟨q, out ++ [x.natAbs % 10], _, by go_num, by omega, by omega, HD', Lib.hid (HO'.out.set HL'.out 1 _), Lib.hid (HL'.out.set1 _), Lib.hid (HR'.out.far (by simp) _), Lib.hid (HB'.out.setCell (by simp) _)⟩
          case measure => simp [intOf]; omega
theorem of_any (c : Int) (w : World) (h0 : -9223372036854775808 ≤ c) (h1 : c < 9223372036854775808) :
    Calls Try.prog 92 #[.int .i64 c] w (IntIs c w) := by
  by_cases hc : c < 0
  · exact of_neg c w hc h0 h1
  · exact of_pos c w (by omega) h0 h1
end Nm
end Go.Proofs.Ytkmfoclhhnhkdaa
