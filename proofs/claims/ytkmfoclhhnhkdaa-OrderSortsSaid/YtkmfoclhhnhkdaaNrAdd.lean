/- The document's Add, Sub, Cmp. -/
import Derived.Test.YtkmfoclhhnhkdaaNrLine
import Derived.Test.YtkmfoclhhnhkdaaNmCmp
import Derived.Test.YtkmfoclhhnhkdaaNmDiv
namespace Go.Proofs.Ytkmfoclhhnhkdaa
open Go.RowKit
namespace Nm
theorem sg_not {y : Int} : sg (!decide (y < 0)) y.natAbs = -y := by
  unfold sg
  by_cases h : y < 0
  · rw [decide_eq_true h]; simp; omega
  · rw [decide_eq_false h]; simp; omega
theorem line_c (ca sa cb sb : Int) (ia : isB ca sa = true) (ib : isB cb sb = true) (p q : Bool) (hp : decide (up ca sa (mx sa sb) < 0) = p) (hq : decide (up cb sb (mx sa sb) < 0) = q) (w : World) :
    Calls Try.prog 76 #[.agg #[.int .i64 ca, .int .i64 sa], .agg #[.int .i64 cb, .int .i64 sb]] w fun e w' =>
      ∃ a1 n1 c1 a2 n2 c2, e = .returned (.tuple #[.agg #[.bool p, .slice a1 n1 c1], .agg #[.bool q, .slice a2 n2 c2], .int .i64 (mx sa sb : Int)]) ∧ Hid (Rw w' (.slice a1 n1 c1) (dgs (up ca sa (mx sa sb)).natAbs)) ∧ Hid (Rw w' (.slice a2 n2 c2) (dgs (up cb sb (mx sa sb)).natAbs)) ∧ Below w.heap.size w w' := by
  refine (line_any ca sa cb sb w ia ib).mono ?_
  rintro e w' ⟨v1, v2, rfl, h1, h2, h3⟩
  obtain ⟨a1, n1, c1, rfl⟩ := h1.sl
  obtain ⟨a2, n2, c2, rfl⟩ := h2.sl
  exact ⟨a1, n1, c1, a2, n2, c2, by rw [hp, hq], Lib.hid h1, Lib.hid h2, h3⟩
theorem plus_c (p q r : Bool) (x y z : Int) (v1 v2 : Value) (w : World) (h1 : Hid (Rw w v1 (dgs x.natAbs))) (h2 : Hid (Rw w v2 (dgs y.natAbs))) (b1 : -1000000000000000000000000 < x ∧ x < 1000000000000000000000000) (b2 : -1000000000000000000000000 < y ∧ y < 1000000000000000000000000)
    (hz : sg p x.natAbs + sg q y.natAbs = z) (hr : decide (z < 0) = r) :
    Calls Try.prog 77 #[.agg #[.bool p, v1], .agg #[.bool q, v2]] w fun e w' => ∃ a n c, e = .returned (.agg #[.bool r, .slice a n c]) ∧ n = (dgs z.natAbs).length ∧ Hid (Rw w' (.slice a n c) (dgs z.natAbs)) ∧ Below w.heap.size w w' := by
  have l1 := dgs_24 b1.1 b1.2
  have l2 := dgs_24 b2.1 b2.2
  refine (plus_any p q v1 v2 x.natAbs y.natAbs w h1.out h2.out (by omega) (by omega)).mono ?_
  rintro e w' ⟨v, rfl, g1, g2⟩
  rw [hz] at g1 ⊢
  rw [hr]
  obtain ⟨a, n, c, rfl⟩ := g1.sl
  exact ⟨a, n, c, rfl, g1.len, Lib.hid g1, g2⟩
set_option maxRecDepth 100000 in
set_option maxHeartbeats 8000000 in
theorem refCmp_any (ca sa cb sb : Int) (w : World) (ia : isB ca sa = true) (ib : isB cb sb = true) :
    Calls Try.prog 57 #[nv ca sa, nv cb sb] w fun e w' => e = .returned (.int .i64 (cmpI (up ca sa (mx sa sb)) (up cb sb (mx sa sb)))) ∧ Below w.heap.size w w' := by
  unfold nv
  have ha := isB_iff.1 ia
  have hb := isB_iff.1 ib
  have hline := line_c ca sa cb sb ia ib _ _ rfl rfl
  obtain ⟨m, hm⟩ : ∃ m, mx sa sb = m := ⟨_, rfl⟩
  have hm9 : m ≤ 9 := by rw [← hm]; unfold mx; omega
  rw [hm] at hline ⊢
  have bX := up_le (c := ca) (s := sa) hm9 (by omega) (by omega)
  have bY := up_le (c := cb) (s := sb) hm9 (by omega) (by omega)
  obtain ⟨X, hX⟩ : ∃ X, up ca sa m = X := ⟨_, rfl⟩
  obtain ⟨Y, hY⟩ : ∃ Y, up cb sb m = Y := ⟨_, rfl⟩
  rw [hX] at bX
  rw [hY] at bY
  rw [hX, hY] at hline ⊢
  obtain ⟨Z, hZ⟩ : ∃ Z, X - Y = Z := ⟨_, rfl⟩
  obtain ⟨p, hp⟩ : ∃ p, decide (X < 0) = p := ⟨_, rfl⟩
  obtain ⟨q, hq⟩ : ∃ q, decide (Y < 0) = q := ⟨_, rfl⟩
  obtain ⟨r, hr⟩ : ∃ r, decide (Z < 0) = r := ⟨_, rfl⟩
  have hplus : ∀ v1 v2 w', Hid (Rw w' v1 (dgs X.natAbs)) → Hid (Rw w' v2 (dgs Y.natAbs)) → Calls Try.prog 77 #[.agg #[.bool p, v1], .agg #[.bool (!q), v2]] w' fun e w'' => ∃ a n c, e = .returned (.agg #[.bool r, .slice a n c]) ∧ n = (dgs Z.natAbs).length ∧ Hid (Rw w'' (.slice a n c) (dgs Z.natAbs)) ∧ Below w'.heap.size w' w'' := fun v1 v2 w' h1 h2 =>
    plus_c p (!q) r X Y Z v1 v2 w' h1 h2 bX bY (by rw [← hp, ← hq, sg_of, sg_not]; omega) hr
  rw [hp, hq] at hline
  have HZ := Lib.hid hZ
  unfold cmpI
  rcases Int.lt_trichotomy Z 0 with hz | hz | hz
  · rw [if_neg (by omega), if_pos (by omega)]
    have HZ0 : Hid (Z.natAbs ≠ 0) := Lib.hid (by omega)
    obtain rfl : r = true := by rw [← hr]; exact decide_eq_true hz
    clear hX hY hZ hp hq hr hm bX bY ha hb ia ib hz
    go_enter Try.func57, Try.ntmps57
    go_wp2_with (first | (go_at_call 76; refine (hline _).mono ?_; rintro e w1 ⟨a1, n1, c1, a2, n2, c2, rfl, HR1, HR2, b1⟩; have HB1 := Lib.hid (bT (bA2 _ _ _) b1); have HQ1 := Lib.hid ((HR1.out.on (bA1 _ (Obj.cells #[.bool p, .slice a1 n1 c1] 108))).on (bA1 _ (Obj.cells #[.bool q, .slice a2 n2 c2] 108))); have HQ2 := Lib.hid ((HR2.out.on (bA1 _ (Obj.cells #[.bool p, .slice a1 n1 c1] 108))).on (bA1 _ (Obj.cells #[.bool q, .slice a2 n2 c2] 108))); clear b1) | (go_at_call 77; refine (hplus _ _ _ HQ1 HQ2).mono ?_; rintro e w2 ⟨a3, n3, c3, rfl, hn3, HR3, b2⟩; have HB2 := Lib.hid (bT ((HB1.out.alloc HB1.out.size _).alloc (Nat.le_trans HB1.out.size (by simp)) _) b2); have HN3 := Lib.hid hn3; clear b2 hn3; have h0n : 0 < n3 := by rw [HN3.out]; exact dgs_ne HZ0.out))
    go_ret
    exact ⟨rfl, HB2.out.alloc HB2.out.size _⟩
  · rw [if_pos (by omega)]
    obtain rfl : r = false := by rw [← hr]; exact decide_eq_false (by omega)
    have HZ0 : Hid (Z.natAbs = 0) := Lib.hid (by omega)
    clear hX hY hZ hp hq hr hm bX bY ha hb ia ib hz
    go_enter Try.func57, Try.ntmps57
    go_wp2_with (first | (go_at_call 76; refine (hline _).mono ?_; rintro e w1 ⟨a1, n1, c1, a2, n2, c2, rfl, HR1, HR2, b1⟩; have HB1 := Lib.hid (bT (bA2 _ _ _) b1); have HQ1 := Lib.hid ((HR1.out.on (bA1 _ (Obj.cells #[.bool p, .slice a1 n1 c1] 108))).on (bA1 _ (Obj.cells #[.bool q, .slice a2 n2 c2] 108))); have HQ2 := Lib.hid ((HR2.out.on (bA1 _ (Obj.cells #[.bool p, .slice a1 n1 c1] 108))).on (bA1 _ (Obj.cells #[.bool q, .slice a2 n2 c2] 108))); clear b1) | (go_at_call 77; refine (hplus _ _ _ HQ1 HQ2).mono ?_; rintro e w2 ⟨a3, n3, c3, rfl, hn3, HR3, b2⟩; have HB2 := Lib.hid (bT ((HB1.out.alloc HB1.out.size _).alloc (Nat.le_trans HB1.out.size (by simp)) _) b2); have HN3 := Lib.hid hn3; clear b2 hn3; obtain rfl : n3 = 0 := by rw [HN3.out, HZ0.out, dgs_zero]; rfl))
    go_ret
    exact ⟨rfl, HB2.out.alloc HB2.out.size _⟩
  · rw [if_neg (by omega), if_neg (by omega)]
    have HZ0 : Hid (Z.natAbs ≠ 0) := Lib.hid (by omega)
    obtain rfl : r = false := by rw [← hr]; exact decide_eq_false (by omega)
    clear hX hY hZ hp hq hr hm bX bY ha hb ia ib hz
    go_enter Try.func57, Try.ntmps57
    go_wp2_with (first | (go_at_call 76; refine (hline _).mono ?_; rintro e w1 ⟨a1, n1, c1, a2, n2, c2, rfl, HR1, HR2, b1⟩; have HB1 := Lib.hid (bT (bA2 _ _ _) b1); have HQ1 := Lib.hid ((HR1.out.on (bA1 _ (Obj.cells #[.bool p, .slice a1 n1 c1] 108))).on (bA1 _ (Obj.cells #[.bool q, .slice a2 n2 c2] 108))); have HQ2 := Lib.hid ((HR2.out.on (bA1 _ (Obj.cells #[.bool p, .slice a1 n1 c1] 108))).on (bA1 _ (Obj.cells #[.bool q, .slice a2 n2 c2] 108))); clear b1) | (go_at_call 77; refine (hplus _ _ _ HQ1 HQ2).mono ?_; rintro e w2 ⟨a3, n3, c3, rfl, hn3, HR3, b2⟩; have HB2 := Lib.hid (bT ((HB1.out.alloc HB1.out.size _).alloc (Nat.le_trans HB1.out.size (by simp)) _) b2); have HN3 := Lib.hid hn3; clear b2 hn3; have h0n : 0 < n3 := by rw [HN3.out]; exact dgs_ne HZ0.out))
    go_ret
    exact ⟨rfl, HB2.out.alloc HB2.out.size _⟩
end Nm
end Go.Proofs.Ytkmfoclhhnhkdaa
