/- Cmp, of any two numbers. -/
import Derived.Test.YtkmfoclhhnhkdaaNmArith
namespace Go.Proofs.Ytkmfoclhhnhkdaa
open Go.RowKit
namespace Nm
theorem run_items {P : Program} (d : Nat) (e : TypeId) (c : Nat) (xs ys : Array Value) (w : World) (q : Nat → Bool) : ∀ (is : List Nat),
    (∀ i, i ∈ is → ∃ a b, (part e xs (i * c)).run P w = .ok a w ∧ (part e ys (i * c)).run P w = .ok b w ∧ (Op.equalIn d e a b).run P w = .ok (q i) w) →
    (Op.eqItems d e c xs ys is).run P w = .ok (is.all q) w
  | [], _ => by simp [Op.eqItems]
  | i :: is, h => by
    obtain ⟨a, b, h1, h2, h3⟩ := h i (by simp)
    have ih := run_items d e c xs ys w q is (fun j hj => h j (by simp [hj]))
    simp only [Op.eqItems, Sem.run_bind, h1, h2, h3, Result.andThen_ok]
    cases hq : q i
    · simp [hq]
    · simp [hq, ih]
theorem cellsU : Try.prog.cellsOf 113 = 1 := by kernel_rfl
set_option maxRecDepth 100000 in
theorem run_eqW (a b c d : Int) (w : World) : (Op.equalIn 10000 115 (.agg #[.int .u64 a, .int .u64 b]) (.agg #[.int .u64 c, .int .u64 d])).run Try.prog w = .ok (a == c && b == d) w := by
  rw [show (10000 : Nat) = 9999 + 1 from rfl, run_equalIn_array w 9999 _ _ Try.underlying115 Try.type113, cellsU]
  refine (run_items _ _ _ _ _ _ (fun i => if i = 0 then a == c else b == d) _ fun i hi => ?_).trans (by simp [List.range_succ])
  simp only [List.mem_range] at hi
  have : i = 0 ∨ i = 1 := by omega
  rcases this with rfl | rfl
  · exact ⟨.int .u64 a, .int .u64 c, by simp [part, Try.isAgg113], by simp [part, Try.isAgg113], by rw [run_equalIn_int w _ _ _ _ _ _ Try.underlying113]; simp⟩
  · exact ⟨.int .u64 b, .int .u64 d, by simp [part, Try.isAgg113], by simp [part, Try.isAgg113], by rw [run_equalIn_int w _ _ _ _ _ _ Try.underlying113]; simp⟩
/-- which of two is greater -/
def cmpI (x y : Int) : Int := if x = y then 0 else if x < y then -1 else 1
set_option maxRecDepth 100000 in
set_option maxHeartbeats 4000000 in
theorem cmp_any (ca sa cb sb : Int) (w : World) :
    Calls Try.prog 63 #[nv ca sa, nv cb sb] w fun e w' => e = .returned (.int .i64 (if isB ca sa = true ∧ isB cb sb = true then cmpI (up ca sa (mx sa sb)) (up cb sb (mx sa sb)) else 0)) ∧ Below w.heap.size w w' := by
  unfold nv
  by_cases ia : isB ca sa = true
  case neg =>
    rw [if_neg (fun h => ia h.1)]
    have ia : isB ca sa = false := by simpa using ia
    go_enter Try.func63, Try.ntmps63
    go_wp2_with (go_at_call 71; refine (is_c ia _).mono ?_; rintro e wk ⟨rfl, bk⟩; obtain ⟨q0, q1, q2, q3⟩ := boxed bk (w.heap.size + 1) (.int .i64 cb) (.int .i64 sb) (by simp [go_sem]) (by simp [go_sem]) (by simp [go_sem]) (by simp [go_sem]); have bel1 := bT (bA2 _ _ _) bk)
    go_ret
    exact ⟨rfl, bel1⟩
  by_cases ib : isB cb sb = true
  case neg =>
    rw [if_neg (fun h => ib h.2)]
    have ib : isB cb sb = false := by simpa using ib
    go_enter Try.func63, Try.ntmps63
    go_wp2_with (go_at_call 71; refine (is_c (by first | exact ia | exact ib) _).mono ?_; rintro e wk ⟨rfl, bk⟩; first | (obtain ⟨p0', p1', p2', p3'⟩ := boxed bk _ _ _ p0 p1 p2 p3; obtain ⟨q0', q1', q2', q3'⟩ := boxed bk _ _ _ q0 q1 q2 q3; have bel2 := bT bel1 bk) | (obtain ⟨p0, p1, p2, p3⟩ := boxed bk w.heap.size (.int .i64 ca) (.int .i64 sa) (by simp [go_sem]) (by simp [go_sem]) (by simp [go_sem]) (by simp [go_sem]); obtain ⟨q0, q1, q2, q3⟩ := boxed bk (w.heap.size + 1) (.int .i64 cb) (.int .i64 sb) (by simp [go_sem]) (by simp [go_sem]) (by simp [go_sem]) (by simp [go_sem]); have bel1 := bT (bA2 _ _ _) bk))
    go_ret
    exact ⟨rfl, bel2⟩
  rw [if_pos ⟨ia, ib⟩]
  have hal := fun w => aligned_c ca sa cb sb ia ib w
  have hua := isB_iff.1 ia
  have hub := isB_iff.1 ib
  have hm9 : mx sa sb ≤ 9 := by unfold mx; omega
  have hx := up_le (c := ca) (s := sa) hm9 hua.2.1.1 hua.2.1.2
  have hy := up_le (c := cb) (s := sb) hm9 hub.2.1.1 hub.2.1.2
  have hng := fun w => negated_wd (up cb sb (mx sa sb)) w
  have hpl := fun w => plus_wd (up ca sa (mx sa sb)) (-up cb sb (mx sa sb)) w
  rw [← Int.sub_eq_add_neg] at hpl
  have hneg := fun w => negative_wd (up ca sa (mx sa sb) - up cb sb (mx sa sb)) w (by omega) (by omega)
  obtain ⟨X, hXX⟩ : ∃ X, up ca sa (mx sa sb) = X := ⟨_, rfl⟩
  obtain ⟨Y, hYY⟩ : ∃ Y, up cb sb (mx sa sb) = Y := ⟨_, rfl⟩
  rw [hXX] at hal hpl hneg hx ⊢
  rw [hYY] at hal hpl hneg hng hy ⊢
  have hdec : decide (X - Y < 0) = decide (X < Y) := by rw [Bool.eq_iff_iff]; simp only [decide_eq_true_eq]; omega
  rw [hdec] at hneg
  obtain ⟨x1, x2, hX⟩ := wd_form X
  obtain ⟨y1, y2, hY⟩ := wd_form Y
  obtain ⟨m1, m2, hM⟩ := wd_form (-Y)
  obtain ⟨z1, z2, hZ⟩ := wd_form (X - Y)
  have heq : (x1 = y1 ∧ x2 = y2) ↔ X = Y := by
    constructor
    · intro h
      have h2 : wd X = wd Y := by rw [hX, hY, h.1, h.2]
      unfold wd at h2
      simp only [Value.agg.injEq, Array.mk.injEq, List.cons.injEq, Value.int.injEq, true_and, and_true] at h2
      omega
    · intro h
      rw [h, hY] at hX
      simp only [Value.agg.injEq, Array.mk.injEq, List.cons.injEq, Value.int.injEq, true_and, and_true] at hX
      exact ⟨hX.1.symm, hX.2.symm⟩
  rw [hX, hY] at hal
  rw [hY, hM] at hng
  rw [hX, hM, hZ] at hpl
  rw [hZ] at hneg
  have HQ := Lib.hid heq
  clear hX hY hZ hM hx hy hua hub hXX hYY hdec heq
  unfold cmpI
  by_cases hxy : X = Y
  · rw [if_pos hxy]
    obtain ⟨rfl, rfl⟩ := HQ.out.2 hxy
    have heqw := fun w => run_eqW x1 x2 x1 x2 w
    rw [show (x1 == x1 && x2 == x2) = true by simp] at heqw
    clear HQ hpl hneg hng hxy
    go_enter Try.func63, Try.ntmps63
    go_wp2_with (first | (go_at_call 71; refine (is_c (by first | exact ia | exact ib) _).mono ?_; rintro e wk ⟨rfl, bk⟩; first | (obtain ⟨p0', p1', p2', p3'⟩ := boxed bk _ _ _ p0 p1 p2 p3; obtain ⟨q0', q1', q2', q3'⟩ := boxed bk _ _ _ q0 q1 q2 q3; have bel2 := bT bel1 bk) | (obtain ⟨p0, p1, p2, p3⟩ := boxed bk w.heap.size (.int .i64 ca) (.int .i64 sa) (by simp [go_sem]) (by simp [go_sem]) (by simp [go_sem]) (by simp [go_sem]); obtain ⟨q0, q1, q2, q3⟩ := boxed bk (w.heap.size + 1) (.int .i64 cb) (.int .i64 sb) (by simp [go_sem]) (by simp [go_sem]) (by simp [go_sem]) (by simp [go_sem]); have bel1 := bT (bA2 _ _ _) bk)) | (go_at_call 79; refine (hal _).mono ?_; rintro e w3 ⟨rfl, b3⟩; have bel3 := bT bel2 b3))
    go_ret
    exact ⟨rfl, (bel3.alloc bel3.size _).alloc (by have := bel3.size; simp; omega) _⟩
  rw [if_neg hxy]
  have heqw := fun w => run_eqW x1 x2 y1 y2 w
  rw [show (x1 == y1 && x2 == y2) = false by rw [Bool.and_eq_false_iff]; simp only [beq_eq_false_iff_ne, ne_eq]; have := HQ.out; omega] at heqw
  clear HQ
  by_cases hlt : X < Y
  · rw [decide_eq_true hlt] at hneg
    rw [if_pos hlt]
    clear hlt hxy
    go_enter Try.func63, Try.ntmps63
    go_upto_region 6 with (first | (go_at_call 71; refine (is_c (by first | exact ia | exact ib) _).mono ?_; rintro e wk ⟨rfl, bk⟩; first | (obtain ⟨p0', p1', p2', p3'⟩ := boxed bk _ _ _ p0 p1 p2 p3; obtain ⟨q0', q1', q2', q3'⟩ := boxed bk _ _ _ q0 q1 q2 q3; have bel2 := bT bel1 bk) | (obtain ⟨p0, p1, p2, p3⟩ := boxed bk w.heap.size (.int .i64 ca) (.int .i64 sa) (by simp [go_sem]) (by simp [go_sem]) (by simp [go_sem]) (by simp [go_sem]); obtain ⟨q0, q1, q2, q3⟩ := boxed bk (w.heap.size + 1) (.int .i64 cb) (.int .i64 sb) (by simp [go_sem]) (by simp [go_sem]) (by simp [go_sem]) (by simp [go_sem]); have bel1 := bT (bA2 _ _ _) bk)) | (go_at_call 79; refine (hal _).mono ?_; rintro e w3 ⟨rfl, b3⟩; have bel3 := bT bel2 b3))
    have hS1 := ((Sv.nil (B := w.heap.size) (o := w) (a := (w3.alloc (Obj.cells #[Value.int .u64 x1, Value.int .u64 x2] 115)).alloc (Obj.cells #[Value.int .u64 y1, Value.int .u64 y2] 115)) ((bel3.alloc bel3.size _).alloc (by have := bel3.size; simp; omega) _)).addf (k := (w3.heap.size + 1)) (x := .int .u64 y1) (y := .int .u64 y2) (⟨by simp [go_sem], by simp [go_sem], by simp [go_sem], by simp [go_sem]⟩)).addf (k := w3.heap.size) (x := .int .u64 x1) (y := .int .u64 x2) (⟨by simp [go_sem], by simp [go_sem], by simp [go_sem], by simp [go_sem]⟩)
    obtain ⟨fx1, hfx1⟩ : ∃ fx : List (Nat × Value × Value), [(w3.heap.size, .int .u64 x1, .int .u64 x2), ((w3.heap.size + 1), .int .u64 y1, .int .u64 y2)] = fx := ⟨_, rfl⟩
    obtain ⟨op1, hop1⟩ : ∃ op : List Nat, [] = op := ⟨_, rfl⟩
    rw [hfx1, hop1] at hS1
    have u1_0_0 := Sv.fix0 (B := w.heap.size) (o := w) (fx := fx1) (op := op1) (k := w3.heap.size) (x := .int .u64 x1) (y := .int .u64 x2) (by subst hfx1; simp)
    have u1_0_1 := Sv.fix1 (B := w.heap.size) (o := w) (fx := fx1) (op := op1) (k := w3.heap.size) (x := .int .u64 x1) (y := .int .u64 x2) (by subst hfx1; simp)
    have u1_1_0 := Sv.fix0 (B := w.heap.size) (o := w) (fx := fx1) (op := op1) (k := (w3.heap.size + 1)) (x := .int .u64 y1) (y := .int .u64 y2) (by subst hfx1; simp)
    have u1_1_1 := Sv.fix1 (B := w.heap.size) (o := w) (fx := fx1) (op := op1) (k := (w3.heap.size + 1)) (x := .int .u64 y1) (y := .int .u64 y2) (by subst hfx1; simp)
    have mf1_0 : (w3.heap.size, .int .u64 x1, .int .u64 x2) ∈ fx1 := by subst hfx1; simp
    have mf1_1 : ((w3.heap.size + 1), .int .u64 y1, .int .u64 y2) ∈ fx1 := by subst hfx1; simp
    clear hfx1 hop1
    have HS1 := Lib.hid hS1
    clear hS1
    clear p0 p1 p2 p3 q0 q1 q2 q3 p0' p1' p2' p3' q0' q1' q2' q3'
    go_region_held3 (Sv w.heap.size w fx1 op1) (first | assumption | exact HS1.out.drew | exact Sv.call (by assumption) (by assumption) (Nat.le_refl _))
      (first
        | (go_at_call 81; refine (hng _).mono ?_; rintro e w' ⟨rfl, bk⟩)
        | (go_at_call 80; refine (hpl _).mono ?_; rintro e w' ⟨rfl, bk⟩)
        | (go_at_call 82; refine (hneg _).mono ?_; rintro e w' ⟨rfl, bk⟩))
    rename_i HF
    have HF' := Lib.hid HF
    clear HF
    go_wp2
    go_ret
    exact ⟨rfl, HF'.out.1⟩
  · rw [decide_eq_false hlt] at hneg
    rw [if_neg hlt]
    clear hlt hxy
    go_enter Try.func63, Try.ntmps63
    go_upto_region 6 with (first | (go_at_call 71; refine (is_c (by first | exact ia | exact ib) _).mono ?_; rintro e wk ⟨rfl, bk⟩; first | (obtain ⟨p0', p1', p2', p3'⟩ := boxed bk _ _ _ p0 p1 p2 p3; obtain ⟨q0', q1', q2', q3'⟩ := boxed bk _ _ _ q0 q1 q2 q3; have bel2 := bT bel1 bk) | (obtain ⟨p0, p1, p2, p3⟩ := boxed bk w.heap.size (.int .i64 ca) (.int .i64 sa) (by simp [go_sem]) (by simp [go_sem]) (by simp [go_sem]) (by simp [go_sem]); obtain ⟨q0, q1, q2, q3⟩ := boxed bk (w.heap.size + 1) (.int .i64 cb) (.int .i64 sb) (by simp [go_sem]) (by simp [go_sem]) (by simp [go_sem]) (by simp [go_sem]); have bel1 := bT (bA2 _ _ _) bk)) | (go_at_call 79; refine (hal _).mono ?_; rintro e w3 ⟨rfl, b3⟩; have bel3 := bT bel2 b3))
    have hS1 := ((Sv.nil (B := w.heap.size) (o := w) (a := (w3.alloc (Obj.cells #[Value.int .u64 x1, Value.int .u64 x2] 115)).alloc (Obj.cells #[Value.int .u64 y1, Value.int .u64 y2] 115)) ((bel3.alloc bel3.size _).alloc (by have := bel3.size; simp; omega) _)).addf (k := (w3.heap.size + 1)) (x := .int .u64 y1) (y := .int .u64 y2) (⟨by simp [go_sem], by simp [go_sem], by simp [go_sem], by simp [go_sem]⟩)).addf (k := w3.heap.size) (x := .int .u64 x1) (y := .int .u64 x2) (⟨by simp [go_sem], by simp [go_sem], by simp [go_sem], by simp [go_sem]⟩)
    obtain ⟨fx1, hfx1⟩ : ∃ fx : List (Nat × Value × Value), [(w3.heap.size, .int .u64 x1, .int .u64 x2), ((w3.heap.size + 1), .int .u64 y1, .int .u64 y2)] = fx := ⟨_, rfl⟩
    obtain ⟨op1, hop1⟩ : ∃ op : List Nat, [] = op := ⟨_, rfl⟩
    rw [hfx1, hop1] at hS1
    have u1_0_0 := Sv.fix0 (B := w.heap.size) (o := w) (fx := fx1) (op := op1) (k := w3.heap.size) (x := .int .u64 x1) (y := .int .u64 x2) (by subst hfx1; simp)
    have u1_0_1 := Sv.fix1 (B := w.heap.size) (o := w) (fx := fx1) (op := op1) (k := w3.heap.size) (x := .int .u64 x1) (y := .int .u64 x2) (by subst hfx1; simp)
    have u1_1_0 := Sv.fix0 (B := w.heap.size) (o := w) (fx := fx1) (op := op1) (k := (w3.heap.size + 1)) (x := .int .u64 y1) (y := .int .u64 y2) (by subst hfx1; simp)
    have u1_1_1 := Sv.fix1 (B := w.heap.size) (o := w) (fx := fx1) (op := op1) (k := (w3.heap.size + 1)) (x := .int .u64 y1) (y := .int .u64 y2) (by subst hfx1; simp)
    have mf1_0 : (w3.heap.size, .int .u64 x1, .int .u64 x2) ∈ fx1 := by subst hfx1; simp
    have mf1_1 : ((w3.heap.size + 1), .int .u64 y1, .int .u64 y2) ∈ fx1 := by subst hfx1; simp
    clear hfx1 hop1
    have HS1 := Lib.hid hS1
    clear hS1
    clear p0 p1 p2 p3 q0 q1 q2 q3 p0' p1' p2' p3' q0' q1' q2' q3'
    go_region_held3 (Sv w.heap.size w fx1 op1) (first | assumption | exact HS1.out.drew | exact Sv.call (by assumption) (by assumption) (Nat.le_refl _))
      (first
        | (go_at_call 81; refine (hng _).mono ?_; rintro e w' ⟨rfl, bk⟩)
        | (go_at_call 80; refine (hpl _).mono ?_; rintro e w' ⟨rfl, bk⟩)
        | (go_at_call 82; refine (hneg _).mono ?_; rintro e w' ⟨rfl, bk⟩))
    rename_i HF
    have HF' := Lib.hid HF
    clear HF
    go_wp2
    go_ret
    exact ⟨rfl, HF'.out.1⟩
end Nm
end Go.Proofs.Ytkmfoclhhnhkdaa
