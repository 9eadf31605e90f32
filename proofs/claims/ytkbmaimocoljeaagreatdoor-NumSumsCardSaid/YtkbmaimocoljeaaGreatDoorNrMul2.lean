/- The document's Mul. -/
import Derived.Test.YtkbmaimocoljeaaGreatDoorNrMul
namespace Go.Proofs.YtkbmaimocoljeaaGreatDoor
open Go.RowKit
namespace Nm
theorem sg_mul (a b : Int) : sg (decide (a < 0) != decide (b < 0)) (a.natAbs * b.natAbs) = a * b := by
  have h : ((a.natAbs * b.natAbs : Nat) : Int) = ((a * b).natAbs : Int) := by rw [Int.natAbs_mul]
  unfold sg
  rw [h]
  by_cases ha : a < 0 <;> by_cases hb : b < 0
  · have := Int.mul_pos_of_neg_of_neg ha hb
    rw [decide_eq_true ha, decide_eq_true hb, if_neg (by simp)]; omega
  · have := Int.mul_nonpos_of_nonpos_of_nonneg (Int.le_of_lt ha) (show 0 ≤ b by omega)
    rw [decide_eq_true ha, decide_eq_false hb, if_pos (by simp)]; omega
  · have := Int.mul_nonpos_of_nonneg_of_nonpos (show 0 ≤ a by omega) (Int.le_of_lt hb)
    rw [decide_eq_false ha, decide_eq_true hb, if_pos (by simp)]; omega
  · have := Int.mul_nonneg (show 0 ≤ a by omega) (show 0 ≤ b by omega)
    rw [decide_eq_false ha, decide_eq_false hb, if_neg (by simp)]; omega
theorem mul_b (x y : Nat) (hx : x < 1000000000000000) (hy : y < 1000000000000000) : x * y < 1000000000000000000000000000000 := by
  have := Nat.mul_lt_mul'' hx hy
  omega
theorem of_c (c : Int) (g : Bool) (w : World) (h0 : -9223372036854775808 ≤ c) (h1 : c < 9223372036854775808) (hg : decide (c < 0) = g) :
    Calls Tryz.prog 33 #[.int .i64 c] w fun e w' => ∃ ao n cap, e = .returned (.agg #[.bool g, .slice ao n cap]) ∧ Hid (Rw w' (.slice ao n cap) (dgs c.natAbs)) ∧ Below w.heap.size w w' := by
  refine (of_any c w h0 h1).mono ?_
  rintro e w' ⟨v', rfl, h1, h2⟩
  rw [hg]
  obtain ⟨ao, n, cap, rfl⟩ := h1.sl
  exact ⟨ao, n, cap, rfl, Lib.hid h1, h2⟩
set_option maxRecDepth 100000 in
set_option maxHeartbeats 8000000 in
theorem refMul_any (ca sa cb sb : Int) (w : World) (ia : isB ca sa = true) (ib : isB cb sb = true) :
    Calls Tryz.prog 14 #[nv ca sa, nv cb sb] w fun e w' => e = .returned (ans (hold (ca * cb) (sa + sb).toNat)) ∧ Below w.heap.size w w' := by
  unfold nv
  have ha := isB_iff.1 ia
  have hb := isB_iff.1 ib
  obtain ⟨gA, hgA⟩ : ∃ g, decide (ca < 0) = g := ⟨_, rfl⟩
  obtain ⟨gB, hgB⟩ : ∃ g, decide (cb < 0) = g := ⟨_, rfl⟩
  obtain ⟨Z, hZ⟩ : ∃ Z, ca * cb = Z := ⟨_, rfl⟩
  obtain ⟨r, hr⟩ : ∃ r, decide (Z < 0) = r := ⟨_, rfl⟩
  have hofA := fun w => of_c ca gA w (by omega) (by omega) hgA
  have hofB := fun w => of_c cb gB w (by omega) (by omega) hgB
  have hZb := mul_b ca.natAbs cb.natAbs (by omega) (by omega)
  have hZn : ca.natAbs * cb.natAbs = Z.natAbs := by rw [← hZ, Int.natAbs_mul]
  have htimes : ∀ v1 v2 w', Hid (Rw w' v1 (dgs ca.natAbs)) → Hid (Rw w' v2 (dgs cb.natAbs)) → Calls Tryz.prog 32 #[.agg #[.bool gA, v1], .agg #[.bool gB, v2]] w' fun e w'' => ∃ ao n cap, e = .returned (.agg #[.bool r, .slice ao n cap]) ∧ Hid (Rw w'' (.slice ao n cap) (dgs Z.natAbs)) ∧ Below w'.heap.size w' w'' := fun v1 v2 w' h1 h2 => by
    have l1 := dgs_short (n := ca.natAbs) (by omega)
    have l2 := dgs_short (n := cb.natAbs) (by omega)
    refine (times_any gA gB (gA != gB) v1 v2 ca.natAbs cb.natAbs w' h1.out h2.out (by omega) (by omega) rfl).mono ?_
    rintro e w'' ⟨v', rfl, h1, h2⟩
    have hs := sg_mul ca cb
    rw [hgA, hgB, hZ] at hs
    rw [ng_sg, hs, hr]
    rw [hZn] at h1
    obtain ⟨ao, n, cap, rfl⟩ := h1.sl
    exact ⟨ao, n, cap, rfl, Lib.hid h1, h2⟩
  obtain ⟨n, hn⟩ : ∃ n, (sa + sb).toNat = n := ⟨_, rfl⟩
  have hwn : IntKind.i64.wrap (sa + sb) = (n : Int) := by rw [wrapS _ (by omega) (by omega)]; omega
  rw [hZ, hn]
  obtain ⟨o, ho⟩ : ∃ o, ans (hold Z n) = o := ⟨_, rfl⟩
  have htold : ∀ v w', Hid (Rw w' v (dgs Z.natAbs)) → Calls Tryz.prog 30 #[.agg #[.bool r, v], .int .i64 (n : Int)] w' fun e w'' => e = .returned o ∧ Below w'.heap.size w' w'' := fun v w' h =>
    told_c r Z v n o w' h (by omega) (by omega) hr ho
  rcases ans_split (hold Z n) with ⟨x, y, _, _, e2⟩ | ⟨_, e2⟩
  · rw [ho] at e2 ⊢
    subst e2
    clear hZ hZn hZb hgA hgB hr hn ho ha hb ia ib
    go_enter Tryz.func14, Tryz.ntmps14
    go_upto_region 1 with (fail)
    have hS1 : Sv w.heap.size w [(w.heap.size, .int .i64 ca, .int .i64 sa), (w.heap.size + 1, .int .i64 cb, .int .i64 sb)] [w.heap.size + 1 + 1] ((((w.alloc (Obj.cells #[.int .i64 ca, .int .i64 sa] 23)).alloc (Obj.cells #[.int .i64 cb, .int .i64 sb] 23)).alloc (Obj.cells #[.int .i64 0, .int .i64 0] 23))) := by
      refine ⟨bA3 _ _ _ _, ?_, ?_⟩
      · intro t ht
        simp only [List.mem_cons, List.not_mem_nil, or_false] at ht
        rcases ht with rfl | rfl
        · exact ⟨by simp [go_sem], by simp [go_sem], by simp [go_sem], by simp [go_sem]⟩
        · exact ⟨by simp [go_sem], by simp [go_sem], by simp [go_sem], by simp [go_sem]⟩
      · intro t ht
        simp only [List.mem_cons, List.not_mem_nil, or_false] at ht
        subst ht
        exact ⟨.int .i64 0, .int .i64 0, ⟨by simp [go_sem], by simp [go_sem], by simp [go_sem], by simp [go_sem]⟩⟩
    obtain ⟨fx1, hfx1⟩ : ∃ fx : List (Nat × Value × Value), [(w.heap.size, .int .i64 ca, .int .i64 sa), (w.heap.size + 1, .int .i64 cb, .int .i64 sb)] = fx := ⟨_, rfl⟩
    obtain ⟨op1, hop1⟩ : ∃ op : List Nat, [w.heap.size + 1 + 1] = op := ⟨_, rfl⟩
    rw [hfx1, hop1] at hS1
    have u1_0_0 := Sv.fix0 (B := w.heap.size) (o := w) (fx := fx1) (op := op1) (k := w.heap.size) (x := .int .i64 ca) (y := .int .i64 sa) (by subst hfx1; simp)
    have u1_0_1 := Sv.fix1 (B := w.heap.size) (o := w) (fx := fx1) (op := op1) (k := w.heap.size) (x := .int .i64 ca) (y := .int .i64 sa) (by subst hfx1; simp)
    have u1_1_0 := Sv.fix0 (B := w.heap.size) (o := w) (fx := fx1) (op := op1) (k := w.heap.size + 1) (x := .int .i64 cb) (y := .int .i64 sb) (by subst hfx1; simp)
    have u1_1_1 := Sv.fix1 (B := w.heap.size) (o := w) (fx := fx1) (op := op1) (k := w.heap.size + 1) (x := .int .i64 cb) (y := .int .i64 sb) (by subst hfx1; simp)
    obtain ⟨G1_0, H1_0, g1_0_0, g1_0_1, g1_0_2, g1_0_3⟩ := Sv.get (B := w.heap.size) (o := w) (fx := fx1) (op := op1) (k := w.heap.size + 1 + 1) (by subst hop1; simp)
    have n1_0 : ∀ t ∈ fx1, w.heap.size + 1 + 1 ≠ t.1 := by
      subst hfx1; intro t ht; simp only [List.mem_cons, List.not_mem_nil, or_false] at ht
      rcases ht with rfl | rfl <;> simp <;> omega
    have o1_0 : w.heap.size + 1 + 1 ∈ op1 := by subst hop1; simp
    clear hfx1 hop1
    have HS1 := Lib.hid hS1
    clear hS1
    go_region_held3 (Sv w.heap.size w fx1 op1) (first | assumption | exact HS1.out.drew | exact Sv.call (by assumption) (by assumption) (Nat.le_refl _) | exact Sv.set1 (Sv.set0 (by assumption) (by omega) n1_0 _) (by omega) n1_0 _)
      (first
        | (go_at_call 33; first | ((with_reducible refine (hofA _).mono ?_); rintro e wA1 ⟨aA1, nA1, cA1, rfl, HRA1, bkA⟩) | ((with_reducible refine (hofB _).mono ?_); rintro e wB1 ⟨aB1, nB1, cB1, rfl, HRB1, bkB⟩; have HRA2 := Lib.hid (HRA1.out.on bkB)))
        | (go_at_call 32; (with_reducible refine (htimes _ _ _ HRA2 HRB1).mono ?_); rintro e wT ⟨aT, nT, cT, rfl, HRT, bkT⟩)
        | (go_at_call 30; (with_reducible refine (htold _ _ HRT).mono ?_); rintro e wU ⟨rfl, bkU⟩))
    go_wp2
    rename_i HF
    obtain ⟨_, _, mm⟩ := HF.2.2 _ o1_0
    obtain ⟨z0, z1, _, _⟩ := mm.was
    clear u1_0_0 u1_0_1 u1_1_0 u1_1_1 g1_0_0 g1_0_1 g1_0_2 g1_0_3
    simp [bodyPost, results, Tryz.results14, go_sem, z0, z1]
    exact HF.1
  · rw [ho] at e2 ⊢
    subst e2
    clear hZ hZn hZb hgA hgB hr hn ho ha hb ia ib
    go_enter Tryz.func14, Tryz.ntmps14
    go_upto_region 1 with (fail)
    have hS1 : Sv w.heap.size w [(w.heap.size, .int .i64 ca, .int .i64 sa), (w.heap.size + 1, .int .i64 cb, .int .i64 sb)] [w.heap.size + 1 + 1] ((((w.alloc (Obj.cells #[.int .i64 ca, .int .i64 sa] 23)).alloc (Obj.cells #[.int .i64 cb, .int .i64 sb] 23)).alloc (Obj.cells #[.int .i64 0, .int .i64 0] 23))) := by
      refine ⟨bA3 _ _ _ _, ?_, ?_⟩
      · intro t ht
        simp only [List.mem_cons, List.not_mem_nil, or_false] at ht
        rcases ht with rfl | rfl
        · exact ⟨by simp [go_sem], by simp [go_sem], by simp [go_sem], by simp [go_sem]⟩
        · exact ⟨by simp [go_sem], by simp [go_sem], by simp [go_sem], by simp [go_sem]⟩
      · intro t ht
        simp only [List.mem_cons, List.not_mem_nil, or_false] at ht
        subst ht
        exact ⟨.int .i64 0, .int .i64 0, ⟨by simp [go_sem], by simp [go_sem], by simp [go_sem], by simp [go_sem]⟩⟩
    obtain ⟨fx1, hfx1⟩ : ∃ fx : List (Nat × Value × Value), [(w.heap.size, .int .i64 ca, .int .i64 sa), (w.heap.size + 1, .int .i64 cb, .int .i64 sb)] = fx := ⟨_, rfl⟩
    obtain ⟨op1, hop1⟩ : ∃ op : List Nat, [w.heap.size + 1 + 1] = op := ⟨_, rfl⟩
    rw [hfx1, hop1] at hS1
    have u1_0_0 := Sv.fix0 (B := w.heap.size) (o := w) (fx := fx1) (op := op1) (k := w.heap.size) (x := .int .i64 ca) (y := .int .i64 sa) (by subst hfx1; simp)
    have u1_0_1 := Sv.fix1 (B := w.heap.size) (o := w) (fx := fx1) (op := op1) (k := w.heap.size) (x := .int .i64 ca) (y := .int .i64 sa) (by subst hfx1; simp)
    have u1_1_0 := Sv.fix0 (B := w.heap.size) (o := w) (fx := fx1) (op := op1) (k := w.heap.size + 1) (x := .int .i64 cb) (y := .int .i64 sb) (by subst hfx1; simp)
    have u1_1_1 := Sv.fix1 (B := w.heap.size) (o := w) (fx := fx1) (op := op1) (k := w.heap.size + 1) (x := .int .i64 cb) (y := .int .i64 sb) (by subst hfx1; simp)
    obtain ⟨G1_0, H1_0, g1_0_0, g1_0_1, g1_0_2, g1_0_3⟩ := Sv.get (B := w.heap.size) (o := w) (fx := fx1) (op := op1) (k := w.heap.size + 1 + 1) (by subst hop1; simp)
    have n1_0 : ∀ t ∈ fx1, w.heap.size + 1 + 1 ≠ t.1 := by
      subst hfx1; intro t ht; simp only [List.mem_cons, List.not_mem_nil, or_false] at ht
      rcases ht with rfl | rfl <;> simp <;> omega
    have o1_0 : w.heap.size + 1 + 1 ∈ op1 := by subst hop1; simp
    clear hfx1 hop1
    have HS1 := Lib.hid hS1
    clear hS1
    go_region_held3 (Sv w.heap.size w fx1 op1) (first | assumption | exact HS1.out.drew | exact Sv.call (by assumption) (by assumption) (Nat.le_refl _) | exact Sv.set1 (Sv.set0 (by assumption) (by omega) n1_0 _) (by omega) n1_0 _)
      (first
        | (go_at_call 33; first | ((with_reducible refine (hofA _).mono ?_); rintro e wA1 ⟨aA1, nA1, cA1, rfl, HRA1, bkA⟩) | ((with_reducible refine (hofB _).mono ?_); rintro e wB1 ⟨aB1, nB1, cB1, rfl, HRB1, bkB⟩; have HRA2 := Lib.hid (HRA1.out.on bkB)))
        | (go_at_call 32; (with_reducible refine (htimes _ _ _ HRA2 HRB1).mono ?_); rintro e wT ⟨aT, nT, cT, rfl, HRT, bkT⟩)
        | (go_at_call 30; (with_reducible refine (htold _ _ HRT).mono ?_); rintro e wU ⟨rfl, bkU⟩))
    go_wp2
    rename_i HF
    obtain ⟨_, _, mm⟩ := HF.2.2 _ o1_0
    obtain ⟨z0, z1, _, _⟩ := mm.was
    clear u1_0_0 u1_0_1 u1_1_0 u1_1_1 g1_0_0 g1_0_1 g1_0_2 g1_0_3
    simp [bodyPost, results, Tryz.results14, go_sem, z0, z1]
    exact HF.1
end Nm
end Go.Proofs.YtkbmaimocoljeaaGreatDoor
