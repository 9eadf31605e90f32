/- Whole numbers without bound: Told, Line. -/
import Derived.Test.YtkmfoclhhnhkdaaNrNum
import Derived.Test.YtkmfoclhhnhkdaaNmArith
namespace Go.Proofs.Ytkmfoclhhnhkdaa
open Go.RowKit
namespace Nm
theorem ans_split (o : Option (Int × Nat)) : (∃ c s, o = some (c, s) ∧ numA o = .tuple #[.agg #[.int .i64 c, .int .i64 (s : Int)], .bool true] ∧ ans o = .tuple #[.agg #[.int .i64 c, .int .i64 (s : Int)], .int .i64 0]) ∨ (numA o = .tuple #[.agg #[.int .i64 0, .int .i64 0], .bool false] ∧ ans o = .tuple #[.agg #[.int .i64 0, .int .i64 0], .int .i64 8]) := by
  rcases o with _ | ⟨c, s⟩
  · exact Or.inr ⟨rfl, rfl⟩
  · exact Or.inl ⟨c, s, rfl, rfl, rfl⟩
theorem sg_of (c : Int) : sg (decide (c < 0)) c.natAbs = c := by
  unfold sg
  by_cases h : c < 0
  · rw [decide_eq_true h, if_pos rfl]; omega
  · rw [decide_eq_false h, if_neg (by simp)]; omega
/-- what Line answers -/
def LineIs (x y : Int) (m : Nat) (w : World) (e : Ending) (w' : World) : Prop := ∃ v1 v2, e = .returned (.tuple #[.agg #[.bool (decide (x < 0)), v1], .agg #[.bool (decide (y < 0)), v2], .int .i64 (m : Int)]) ∧ Rw w' v1 (dgs x.natAbs) ∧ Rw w' v2 (dgs y.natAbs) ∧ Below w.heap.size w w'
theorem sg_ng (b : Bool) (n : Nat) (z : Int) (h : sg b n = z) : ng b n = decide (z < 0) ∧ n = z.natAbs := by
  subst h
  exact ⟨ng_sg b n, (abs_sg b n).symm⟩
theorem dgs_24 {z : Int} (h0 : -1000000000000000000000000 < z) (h1 : z < 1000000000000000000000000) : (dgs z.natAbs).length ≤ 24 := dgs_len.2 (by omega)
set_option maxRecDepth 100000 in
set_option maxHeartbeats 16000000 in
theorem line_le (ca sa cb sb : Int) (w : World) (ia : isB ca sa = true) (ib : isB cb sb = true) (hc : sb ≤ sa) :
    Calls Try.prog 76 #[.agg #[.int .i64 ca, .int .i64 sa], .agg #[.int .i64 cb, .int .i64 sb]] w (LineIs (up ca sa (mx sa sb)) (up cb sb (mx sa sb)) (mx sa sb) w) := by
  have ha := isB_iff.1 ia
  have hb := isB_iff.1 ib
  obtain ⟨m, hm⟩ : ∃ m, mx sa sb = m := ⟨_, rfl⟩
  have hms : (m : Int) = sa := by rw [← hm]; unfold mx; omega
  have hsa : sa ≤ (m : Int) := by omega
  have hsb : sb ≤ (m : Int) := by omega
  rw [hm]
  obtain ⟨XA, hXA⟩ : ∃ X, up ca sa m = X := ⟨_, rfl⟩
  obtain ⟨XB, hXB⟩ : ∃ X, up cb sb m = X := ⟨_, rfl⟩
  rw [hXA, hXB]
  obtain ⟨dA, hdA⟩ : ∃ d : Int, IntKind.i64.wrap (0) = d := ⟨_, rfl⟩
  obtain ⟨dB, hdB⟩ : ∃ d : Int, IntKind.i64.wrap (sa - sb) = d := ⟨_, rfl⟩
  have hofA : ∀ w', Calls Try.prog 92 #[.int .i64 ca] w' (fun e w'' => ∃ ao n cap, e = .returned (.agg #[.bool (decide (ca < 0)), .slice ao n cap]) ∧ Hid (Rw w'' (.slice ao n cap) (dgs (ca).natAbs)) ∧ Below w'.heap.size w' w'') := fun w' => by
    refine (of_any ca w' (by omega) (by omega)).mono ?_
    rintro e w'' ⟨v', rfl, h1, h2⟩
    obtain ⟨ao, n, cap, rfl⟩ := h1.sl
    exact ⟨ao, n, cap, rfl, Lib.hid h1, h2⟩
  have hshA : ∀ v w', Hid (Rw w' v (dgs (ca).natAbs)) → Calls Try.prog 91 #[.agg #[.bool (decide (ca < 0)), v], .int .i64 dA] w' (fun e w'' => ∃ ao n cap, e = .returned (.agg #[.bool (decide (XA < 0)), .slice ao n cap]) ∧ Hid (Rw w'' (.slice ao n cap) (dgs XA.natAbs)) ∧ Below w'.heap.size w' w'') := fun v w' h => by
    have hl := dgs_short (n := (ca).natAbs) (by omega)
    refine (refShift_any (decide (ca < 0)) v (ca).natAbs (m - (sa).toNat) dA w' h.out (by omega) (by omega) (by rw [← hdA, wrapS _ (by omega) (by omega)]; omega)).mono ?_
    rintro e w'' ⟨v', rfl, h1, h2⟩
    obtain ⟨g1, g2⟩ := sg_ng (decide (ca < 0)) ((ca).natAbs * 10 ^ (m - (sa).toNat)) XA (by
      rw [← hXA]
      have e := sg_of (ca)
      unfold up
      conv => rhs; rw [← e]
      unfold sg
      split
      · rw [Int.neg_mul, Int.natCast_mul]
      · rw [Int.natCast_mul])
    rw [g1]
    rw [g2] at h1
    obtain ⟨ao, n, cap, rfl⟩ := h1.sl
    exact ⟨ao, n, cap, rfl, Lib.hid h1, h2⟩
  have hofB : ∀ w', Calls Try.prog 92 #[.int .i64 cb] w' (fun e w'' => ∃ ao n cap, e = .returned (.agg #[.bool (decide (cb < 0)), .slice ao n cap]) ∧ Hid (Rw w'' (.slice ao n cap) (dgs (cb).natAbs)) ∧ Below w'.heap.size w' w'') := fun w' => by
    refine (of_any cb w' (by omega) (by omega)).mono ?_
    rintro e w'' ⟨v', rfl, h1, h2⟩
    obtain ⟨ao, n, cap, rfl⟩ := h1.sl
    exact ⟨ao, n, cap, rfl, Lib.hid h1, h2⟩
  have hshB : ∀ v w', Hid (Rw w' v (dgs (cb).natAbs)) → Calls Try.prog 91 #[.agg #[.bool (decide (cb < 0)), v], .int .i64 dB] w' (fun e w'' => ∃ ao n cap, e = .returned (.agg #[.bool (decide (XB < 0)), .slice ao n cap]) ∧ Hid (Rw w'' (.slice ao n cap) (dgs XB.natAbs)) ∧ Below w'.heap.size w' w'') := fun v w' h => by
    have hl := dgs_short (n := (cb).natAbs) (by omega)
    refine (refShift_any (decide (cb < 0)) v (cb).natAbs (m - (sb).toNat) dB w' h.out (by omega) (by omega) (by rw [← hdB, wrapS _ (by omega) (by omega)]; omega)).mono ?_
    rintro e w'' ⟨v', rfl, h1, h2⟩
    obtain ⟨g1, g2⟩ := sg_ng (decide (cb < 0)) ((cb).natAbs * 10 ^ (m - (sb).toNat)) XB (by
      rw [← hXB]
      have e := sg_of (cb)
      unfold up
      conv => rhs; rw [← e]
      unfold sg
      split
      · rw [Int.neg_mul, Int.natCast_mul]
      · rw [Int.natCast_mul])
    rw [g1]
    rw [g2] at h1
    obtain ⟨ao, n, cap, rfl⟩ := h1.sl
    exact ⟨ao, n, cap, rfl, Lib.hid h1, h2⟩
  obtain ⟨gA, hgA⟩ : ∃ g, decide (ca < 0) = g := ⟨_, rfl⟩
  obtain ⟨gB, hgB⟩ : ∃ g, decide (cb < 0) = g := ⟨_, rfl⟩
  obtain ⟨tA, htA⟩ : ∃ g, decide (XA < 0) = g := ⟨_, rfl⟩
  obtain ⟨tB, htB⟩ : ∃ g, decide (XB < 0) = g := ⟨_, rfl⟩
  rw [hgA] at hofA hshA
  rw [hgB] at hofB hshB
  rw [htA] at hshA
  rw [htB] at hshB
  have HTA := Lib.hid htA
  have HTB := Lib.hid htB
  have HMS := Lib.hid hms
  clear hm hms hXA hXB ha hb ia ib hgA hgB htA htB hsa hsb
  go_enter Try.func76, Try.ntmps76
  go_upto_region 4 with (fail)
  have hS1 : Sr w.heap.size w [(w.heap.size, .int .i64 ca, .int .i64 sa), (w.heap.size + 1, .int .i64 cb, .int .i64 sb)] [w.heap.size + 1 + 1, w.heap.size + 1 + 1 + 1] (((((w.alloc (Obj.cells #[.int .i64 ca, .int .i64 sa] 23)).alloc (Obj.cells #[.int .i64 cb, .int .i64 sb] 23)).alloc (Obj.cells #[.bool false, .slice none 0 0] 108)).alloc (Obj.cells #[.bool false, .slice none 0 0] 108))) := by
    refine ⟨bA4 _ _ _ _ _, ?_, ?_⟩
    · intro t ht
      simp only [List.mem_cons, List.not_mem_nil, or_false] at ht
      rcases ht with rfl | rfl
      · exact ⟨by simp [go_sem], by simp [go_sem], by simp [go_sem], by simp [go_sem]⟩
      · exact ⟨by simp [go_sem], by simp [go_sem], by simp [go_sem], by simp [go_sem]⟩
    · intro t ht
      simp only [List.mem_cons, List.not_mem_nil, or_false] at ht
      rcases ht with rfl | rfl
      · exact ⟨false, none, 0, 0, ⟨by simp [go_sem], by simp [go_sem], by simp [go_sem], by simp [go_sem]⟩⟩
      · exact ⟨false, none, 0, 0, ⟨by simp [go_sem], by simp [go_sem], by simp [go_sem], by simp [go_sem]⟩⟩
  obtain ⟨fx1, hfx1⟩ : ∃ fx : List (Nat × Value × Value), [(w.heap.size, .int .i64 ca, .int .i64 sa), (w.heap.size + 1, .int .i64 cb, .int .i64 sb)] = fx := ⟨_, rfl⟩
  obtain ⟨op1, hop1⟩ : ∃ op : List Nat, [w.heap.size + 1 + 1, w.heap.size + 1 + 1 + 1] = op := ⟨_, rfl⟩
  rw [hfx1, hop1] at hS1
  have u1_0_0 := Sr.fix0 (B := w.heap.size) (o := w) (fx := fx1) (op := op1) (k := w.heap.size) (x := .int .i64 ca) (y := .int .i64 sa) (by subst hfx1; simp)
  have u1_0_1 := Sr.fix1 (B := w.heap.size) (o := w) (fx := fx1) (op := op1) (k := w.heap.size) (x := .int .i64 ca) (y := .int .i64 sa) (by subst hfx1; simp)
  have u1_1_0 := Sr.fix0 (B := w.heap.size) (o := w) (fx := fx1) (op := op1) (k := w.heap.size + 1) (x := .int .i64 cb) (y := .int .i64 sb) (by subst hfx1; simp)
  have u1_1_1 := Sr.fix1 (B := w.heap.size) (o := w) (fx := fx1) (op := op1) (k := w.heap.size + 1) (x := .int .i64 cb) (y := .int .i64 sb) (by subst hfx1; simp)
  obtain ⟨G1_0, H1_0, g1_0_0, g1_0_1, g1_0_2, g1_0_3⟩ := Sr.get (B := w.heap.size) (o := w) (fx := fx1) (op := op1) (k := w.heap.size + 1 + 1) (by subst hop1; simp)
  have n1_0 : ∀ t ∈ fx1, w.heap.size + 1 + 1 ≠ t.1 := by
    subst hfx1; intro t ht; simp only [List.mem_cons, List.not_mem_nil, or_false] at ht
    rcases ht with rfl | rfl <;> simp <;> omega
  have o1_0 : w.heap.size + 1 + 1 ∈ op1 := by subst hop1; simp
  obtain ⟨G1_1, H1_1, g1_1_0, g1_1_1, g1_1_2, g1_1_3⟩ := Sr.get (B := w.heap.size) (o := w) (fx := fx1) (op := op1) (k := w.heap.size + 1 + 1 + 1) (by subst hop1; simp)
  have n1_1 : ∀ t ∈ fx1, w.heap.size + 1 + 1 + 1 ≠ t.1 := by
    subst hfx1; intro t ht; simp only [List.mem_cons, List.not_mem_nil, or_false] at ht
    rcases ht with rfl | rfl <;> simp <;> omega
  have o1_1 : w.heap.size + 1 + 1 + 1 ∈ op1 := by subst hop1; simp
  clear hfx1 hop1
  have HS1 := Lib.hid hS1
  clear hS1
  go_region_held3 (Sr w.heap.size w fx1 op1) (first | assumption | exact HS1.out.drew | exact Sr.call (by assumption) (by assumption) (Nat.le_refl _) | exact Sr.put (by assumption) (by omega) n1_0 _ _ _ _ | exact Sr.put (by assumption) (by omega) n1_1 _ _ _ _)
    (first
      | (go_at_call 92; first | ((with_reducible refine (hofA _).mono ?_); rintro e wA1 ⟨aA1, nA1, cA1, rfl, HRA1, bA1⟩) | ((with_reducible refine (hofB _).mono ?_); rintro e wB1 ⟨aB1, nB1, cB1, rfl, HRB1, bB1⟩))
      | (go_at_call 91; first | ((with_reducible refine (hshA _ _ HRA1).mono ?_); rintro e wA2 ⟨aA2, nA2, cA2, rfl, HRA2, bA2⟩) | ((with_reducible refine (hshB _ _ HRB1).mono ?_); rintro e wB2 ⟨aB2, nB2, cB2, rfl, HRB2, bB2⟩)))
  go_wp2
  have hS4 := (((HS1.out.drew.call bA1 (Nat.le_refl _)).call bA2 (Nat.le_refl _)).call bB1 (Nat.le_refl _)).call bB2 (Nat.le_refl _)
  clear u1_0_0 u1_0_1 u1_1_0 u1_1_1 g1_0_0 g1_0_1 g1_0_2 g1_0_3 g1_1_0 g1_1_1 g1_1_2 g1_1_3
  have hS5 := hS4.put (k := w.heap.size + 1 + 1) (by omega) n1_0 tA aA2 nA2 cA2
  have r1 := (HRA2.out.on bB1).on bB2
  have r1' := hS5.row (x := .bool tB) (y := .slice aB2 nB2 cB2) o1_1 (hS4.row (x := .bool tA) (y := .slice aA2 nA2 cA2) o1_0 r1)
  have r2' := hS5.row (x := .bool tB) (y := .slice aB2 nB2 cB2) o1_1 (hS4.row (x := .bool tA) (y := .slice aA2 nA2 cA2) o1_0 HRB2.out)
  have x1 := ((hS4.is (x := .bool tA) (y := .slice aA2 nA2 cA2) o1_0).far (p := ⟨w.heap.size + 1 + 1 + 1, 0, none⟩) (by simp) (.bool tB)).far (p := ⟨w.heap.size + 1 + 1 + 1, 1, none⟩) (by simp) (.slice aB2 nB2 cB2)
  have x2 := hS5.is (x := .bool tB) (y := .slice aB2 nB2 cB2) o1_1
  have bb := (hS5.put (k := w.heap.size + 1 + 1 + 1) (by omega) n1_1 tB aB2 nB2 cB2).1
  obtain ⟨y0, y1, _, _⟩ := x1
  obtain ⟨y2, y3, _, _⟩ := x2
  simp [bodyPost, results, Try.results76, go_sem, y0, y1, y2, y3]
  exact ⟨_, _, by rw [HTA.out, HTB.out, HMS.out], r1', r2', bb⟩
set_option maxRecDepth 100000 in
set_option maxHeartbeats 16000000 in
theorem line_gt (ca sa cb sb : Int) (w : World) (ia : isB ca sa = true) (ib : isB cb sb = true) (hc : sa < sb) :
    Calls Try.prog 76 #[.agg #[.int .i64 ca, .int .i64 sa], .agg #[.int .i64 cb, .int .i64 sb]] w (LineIs (up ca sa (mx sa sb)) (up cb sb (mx sa sb)) (mx sa sb) w) := by
  have ha := isB_iff.1 ia
  have hb := isB_iff.1 ib
  obtain ⟨m, hm⟩ : ∃ m, mx sa sb = m := ⟨_, rfl⟩
  have hms : (m : Int) = sb := by rw [← hm]; unfold mx; omega
  have hsa : sa ≤ (m : Int) := by omega
  have hsb : sb ≤ (m : Int) := by omega
  rw [hm]
  obtain ⟨XA, hXA⟩ : ∃ X, up ca sa m = X := ⟨_, rfl⟩
  obtain ⟨XB, hXB⟩ : ∃ X, up cb sb m = X := ⟨_, rfl⟩
  rw [hXA, hXB]
  obtain ⟨dA, hdA⟩ : ∃ d : Int, IntKind.i64.wrap (sb - sa) = d := ⟨_, rfl⟩
  obtain ⟨dB, hdB⟩ : ∃ d : Int, IntKind.i64.wrap (0) = d := ⟨_, rfl⟩
  have hofA : ∀ w', Calls Try.prog 92 #[.int .i64 ca] w' (fun e w'' => ∃ ao n cap, e = .returned (.agg #[.bool (decide (ca < 0)), .slice ao n cap]) ∧ Hid (Rw w'' (.slice ao n cap) (dgs (ca).natAbs)) ∧ Below w'.heap.size w' w'') := fun w' => by
    refine (of_any ca w' (by omega) (by omega)).mono ?_
    rintro e w'' ⟨v', rfl, h1, h2⟩
    obtain ⟨ao, n, cap, rfl⟩ := h1.sl
    exact ⟨ao, n, cap, rfl, Lib.hid h1, h2⟩
  have hshA : ∀ v w', Hid (Rw w' v (dgs (ca).natAbs)) → Calls Try.prog 91 #[.agg #[.bool (decide (ca < 0)), v], .int .i64 dA] w' (fun e w'' => ∃ ao n cap, e = .returned (.agg #[.bool (decide (XA < 0)), .slice ao n cap]) ∧ Hid (Rw w'' (.slice ao n cap) (dgs XA.natAbs)) ∧ Below w'.heap.size w' w'') := fun v w' h => by
    have hl := dgs_short (n := (ca).natAbs) (by omega)
    refine (refShift_any (decide (ca < 0)) v (ca).natAbs (m - (sa).toNat) dA w' h.out (by omega) (by omega) (by rw [← hdA, wrapS _ (by omega) (by omega)]; omega)).mono ?_
    rintro e w'' ⟨v', rfl, h1, h2⟩
    obtain ⟨g1, g2⟩ := sg_ng (decide (ca < 0)) ((ca).natAbs * 10 ^ (m - (sa).toNat)) XA (by
      rw [← hXA]
      have e := sg_of (ca)
      unfold up
      conv => rhs; rw [← e]
      unfold sg
      split
      · rw [Int.neg_mul, Int.natCast_mul]
      · rw [Int.natCast_mul])
    rw [g1]
    rw [g2] at h1
    obtain ⟨ao, n, cap, rfl⟩ := h1.sl
    exact ⟨ao, n, cap, rfl, Lib.hid h1, h2⟩
  have hofB : ∀ w', Calls Try.prog 92 #[.int .i64 cb] w' (fun e w'' => ∃ ao n cap, e = .returned (.agg #[.bool (decide (cb < 0)), .slice ao n cap]) ∧ Hid (Rw w'' (.slice ao n cap) (dgs (cb).natAbs)) ∧ Below w'.heap.size w' w'') := fun w' => by
    refine (of_any cb w' (by omega) (by omega)).mono ?_
    rintro e w'' ⟨v', rfl, h1, h2⟩
    obtain ⟨ao, n, cap, rfl⟩ := h1.sl
    exact ⟨ao, n, cap, rfl, Lib.hid h1, h2⟩
  have hshB : ∀ v w', Hid (Rw w' v (dgs (cb).natAbs)) → Calls Try.prog 91 #[.agg #[.bool (decide (cb < 0)), v], .int .i64 dB] w' (fun e w'' => ∃ ao n cap, e = .returned (.agg #[.bool (decide (XB < 0)), .slice ao n cap]) ∧ Hid (Rw w'' (.slice ao n cap) (dgs XB.natAbs)) ∧ Below w'.heap.size w' w'') := fun v w' h => by
    have hl := dgs_short (n := (cb).natAbs) (by omega)
    refine (refShift_any (decide (cb < 0)) v (cb).natAbs (m - (sb).toNat) dB w' h.out (by omega) (by omega) (by rw [← hdB, wrapS _ (by omega) (by omega)]; omega)).mono ?_
    rintro e w'' ⟨v', rfl, h1, h2⟩
    obtain ⟨g1, g2⟩ := sg_ng (decide (cb < 0)) ((cb).natAbs * 10 ^ (m - (sb).toNat)) XB (by
      rw [← hXB]
      have e := sg_of (cb)
      unfold up
      conv => rhs; rw [← e]
      unfold sg
      split
      · rw [Int.neg_mul, Int.natCast_mul]
      · rw [Int.natCast_mul])
    rw [g1]
    rw [g2] at h1
    obtain ⟨ao, n, cap, rfl⟩ := h1.sl
    exact ⟨ao, n, cap, rfl, Lib.hid h1, h2⟩
  obtain ⟨gA, hgA⟩ : ∃ g, decide (ca < 0) = g := ⟨_, rfl⟩
  obtain ⟨gB, hgB⟩ : ∃ g, decide (cb < 0) = g := ⟨_, rfl⟩
  obtain ⟨tA, htA⟩ : ∃ g, decide (XA < 0) = g := ⟨_, rfl⟩
  obtain ⟨tB, htB⟩ : ∃ g, decide (XB < 0) = g := ⟨_, rfl⟩
  rw [hgA] at hofA hshA
  rw [hgB] at hofB hshB
  rw [htA] at hshA
  rw [htB] at hshB
  have HTA := Lib.hid htA
  have HTB := Lib.hid htB
  have HMS := Lib.hid hms
  clear hm hms hXA hXB ha hb ia ib hgA hgB htA htB hsa hsb
  go_enter Try.func76, Try.ntmps76
  go_upto_region 4 with (fail)
  have hS1 : Sr w.heap.size w [(w.heap.size, .int .i64 ca, .int .i64 sa), (w.heap.size + 1, .int .i64 cb, .int .i64 sb)] [w.heap.size + 1 + 1, w.heap.size + 1 + 1 + 1] (((((w.alloc (Obj.cells #[.int .i64 ca, .int .i64 sa] 23)).alloc (Obj.cells #[.int .i64 cb, .int .i64 sb] 23)).alloc (Obj.cells #[.bool false, .slice none 0 0] 108)).alloc (Obj.cells #[.bool false, .slice none 0 0] 108))) := by
    refine ⟨bA4 _ _ _ _ _, ?_, ?_⟩
    · intro t ht
      simp only [List.mem_cons, List.not_mem_nil, or_false] at ht
      rcases ht with rfl | rfl
      · exact ⟨by simp [go_sem], by simp [go_sem], by simp [go_sem], by simp [go_sem]⟩
      · exact ⟨by simp [go_sem], by simp [go_sem], by simp [go_sem], by simp [go_sem]⟩
    · intro t ht
      simp only [List.mem_cons, List.not_mem_nil, or_false] at ht
      rcases ht with rfl | rfl
      · exact ⟨false, none, 0, 0, ⟨by simp [go_sem], by simp [go_sem], by simp [go_sem], by simp [go_sem]⟩⟩
      · exact ⟨false, none, 0, 0, ⟨by simp [go_sem], by simp [go_sem], by simp [go_sem], by simp [go_sem]⟩⟩
  obtain ⟨fx1, hfx1⟩ : ∃ fx : List (Nat × Value × Value), [(w.heap.size, .int .i64 ca, .int .i64 sa), (w.heap.size + 1, .int .i64 cb, .int .i64 sb)] = fx := ⟨_, rfl⟩
  obtain ⟨op1, hop1⟩ : ∃ op : List Nat, [w.heap.size + 1 + 1, w.heap.size + 1 + 1 + 1] = op := ⟨_, rfl⟩
  rw [hfx1, hop1] at hS1
  have u1_0_0 := Sr.fix0 (B := w.heap.size) (o := w) (fx := fx1) (op := op1) (k := w.heap.size) (x := .int .i64 ca) (y := .int .i64 sa) (by subst hfx1; simp)
  have u1_0_1 := Sr.fix1 (B := w.heap.size) (o := w) (fx := fx1) (op := op1) (k := w.heap.size) (x := .int .i64 ca) (y := .int .i64 sa) (by subst hfx1; simp)
  have u1_1_0 := Sr.fix0 (B := w.heap.size) (o := w) (fx := fx1) (op := op1) (k := w.heap.size + 1) (x := .int .i64 cb) (y := .int .i64 sb) (by subst hfx1; simp)
  have u1_1_1 := Sr.fix1 (B := w.heap.size) (o := w) (fx := fx1) (op := op1) (k := w.heap.size + 1) (x := .int .i64 cb) (y := .int .i64 sb) (by subst hfx1; simp)
  obtain ⟨G1_0, H1_0, g1_0_0, g1_0_1, g1_0_2, g1_0_3⟩ := Sr.get (B := w.heap.size) (o := w) (fx := fx1) (op := op1) (k := w.heap.size + 1 + 1) (by subst hop1; simp)
  have n1_0 : ∀ t ∈ fx1, w.heap.size + 1 + 1 ≠ t.1 := by
    subst hfx1; intro t ht; simp only [List.mem_cons, List.not_mem_nil, or_false] at ht
    rcases ht with rfl | rfl <;> simp <;> omega
  have o1_0 : w.heap.size + 1 + 1 ∈ op1 := by subst hop1; simp
  obtain ⟨G1_1, H1_1, g1_1_0, g1_1_1, g1_1_2, g1_1_3⟩ := Sr.get (B := w.heap.size) (o := w) (fx := fx1) (op := op1) (k := w.heap.size + 1 + 1 + 1) (by subst hop1; simp)
  have n1_1 : ∀ t ∈ fx1, w.heap.size + 1 + 1 + 1 ≠ t.1 := by
    subst hfx1; intro t ht; simp only [List.mem_cons, List.not_mem_nil, or_false] at ht
    rcases ht with rfl | rfl <;> simp <;> omega
  have o1_1 : w.heap.size + 1 + 1 + 1 ∈ op1 := by subst hop1; simp
  clear hfx1 hop1
  have HS1 := Lib.hid hS1
  clear hS1
  go_region_held3 (Sr w.heap.size w fx1 op1) (first | assumption | exact HS1.out.drew | exact Sr.call (by assumption) (by assumption) (Nat.le_refl _) | exact Sr.put (by assumption) (by omega) n1_0 _ _ _ _ | exact Sr.put (by assumption) (by omega) n1_1 _ _ _ _)
    (first
      | (go_at_call 92; first | ((with_reducible refine (hofA _).mono ?_); rintro e wA1 ⟨aA1, nA1, cA1, rfl, HRA1, bA1⟩) | ((with_reducible refine (hofB _).mono ?_); rintro e wB1 ⟨aB1, nB1, cB1, rfl, HRB1, bB1⟩))
      | (go_at_call 91; first | ((with_reducible refine (hshA _ _ HRA1).mono ?_); rintro e wA2 ⟨aA2, nA2, cA2, rfl, HRA2, bA2⟩) | ((with_reducible refine (hshB _ _ HRB1).mono ?_); rintro e wB2 ⟨aB2, nB2, cB2, rfl, HRB2, bB2⟩)))
  go_wp2
  have hS4 := (((HS1.out.drew.call bA1 (Nat.le_refl _)).call bA2 (Nat.le_refl _)).call bB1 (Nat.le_refl _)).call bB2 (Nat.le_refl _)
  clear u1_0_0 u1_0_1 u1_1_0 u1_1_1 g1_0_0 g1_0_1 g1_0_2 g1_0_3 g1_1_0 g1_1_1 g1_1_2 g1_1_3
  have hS5 := hS4.put (k := w.heap.size + 1 + 1) (by omega) n1_0 tA aA2 nA2 cA2
  have r1 := (HRA2.out.on bB1).on bB2
  have r1' := hS5.row (x := .bool tB) (y := .slice aB2 nB2 cB2) o1_1 (hS4.row (x := .bool tA) (y := .slice aA2 nA2 cA2) o1_0 r1)
  have r2' := hS5.row (x := .bool tB) (y := .slice aB2 nB2 cB2) o1_1 (hS4.row (x := .bool tA) (y := .slice aA2 nA2 cA2) o1_0 HRB2.out)
  have x1 := ((hS4.is (x := .bool tA) (y := .slice aA2 nA2 cA2) o1_0).far (p := ⟨w.heap.size + 1 + 1 + 1, 0, none⟩) (by simp) (.bool tB)).far (p := ⟨w.heap.size + 1 + 1 + 1, 1, none⟩) (by simp) (.slice aB2 nB2 cB2)
  have x2 := hS5.is (x := .bool tB) (y := .slice aB2 nB2 cB2) o1_1
  have bb := (hS5.put (k := w.heap.size + 1 + 1 + 1) (by omega) n1_1 tB aB2 nB2 cB2).1
  obtain ⟨y0, y1, _, _⟩ := x1
  obtain ⟨y2, y3, _, _⟩ := x2
  simp [bodyPost, results, Try.results76, go_sem, y0, y1, y2, y3]
  exact ⟨_, _, by rw [HTA.out, HTB.out, HMS.out], r1', r2', bb⟩
theorem line_any (ca sa cb sb : Int) (w : World) (ia : isB ca sa = true) (ib : isB cb sb = true) :
    Calls Try.prog 76 #[.agg #[.int .i64 ca, .int .i64 sa], .agg #[.int .i64 cb, .int .i64 sb]] w (LineIs (up ca sa (mx sa sb)) (up cb sb (mx sa sb)) (mx sa sb) w) := by
  by_cases h : sb ≤ sa
  · exact line_le ca sa cb sb w ia ib h
  · exact line_gt ca sa cb sb w ia ib (by omega)
end Nm
end Go.Proofs.Ytkmfoclhhnhkdaa
