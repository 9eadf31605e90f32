/- Add, Sub, Mul and Cmp, of any two numbers. -/
import Derived.Test.YtkbmaimocoljeaaGreatDoorNmSv
namespace Go.Proofs.YtkbmaimocoljeaaGreatDoor
open Go.RowKit
namespace Nm
theorem is_c {c s : Int} {b : Bool} (h : isB c s = b) (w : World) : Calls Tryz.prog 16 #[.agg #[.int .i64 c, .int .i64 s]] w fun e w' => e = .returned (.bool b) ∧ Below w.heap.size w w' := by
  rw [← h]; exact is_any c s w
theorem isB_iff {c s : Int} : isB c s = true ↔ (0 ≤ s ∧ s ≤ 9) ∧ (-1000000000000000 < c ∧ c < 1000000000000000) ∧ (s = 0 ∨ c.tmod 10 ≠ 0) := by unfold isB; exact decide_eq_true_iff
theorem Sv.nil {B : Nat} {o a : World} (h : Below B o a) : Sv B o [] [] a := ⟨h, fun t ht => by simp at ht, fun t ht => by simp at ht⟩
theorem Sv.addf {B : Nat} {o a : World} {fx : List (Nat × Value × Value)} {op : List Nat} (h : Sv B o fx op a) {k : Nat} {x y : Value} (hb : Bx a k x y) : Sv B o ((k, x, y) :: fx) op a :=
  ⟨h.1, fun t ht => by
    rcases List.mem_cons.1 ht with rfl | ht
    · exact hb
    · exact h.2.1 t ht, h.2.2⟩
theorem Sv.addo {B : Nat} {o a : World} {fx : List (Nat × Value × Value)} {op : List Nat} (h : Sv B o fx op a) {k : Nat} {x y : Value} (hb : Bx a k x y) : Sv B o fx (k :: op) a :=
  ⟨h.1, h.2.1, fun t ht => by
    rcases List.mem_cons.1 ht with rfl | ht
    · exact ⟨x, y, hb⟩
    · exact h.2.2 t ht⟩
/-- what may not be -/
def bad : Value := .tuple #[nv 0 0, .int .i64 1]
/-- both scales' greater one -/
def mx (sa sb : Int) : Nat := (max sa sb).toNat
/-- a number at a greater scale -/
def up (c s : Int) (m : Nat) : Int := c * ((10 ^ (m - s.toNat) : Nat) : Int)
theorem up_le {c s : Int} {m : Nat} (hm : m ≤ 9) (c0 : -1000000000000000 < c) (c1 : c < 1000000000000000) : -1000000000000000000000000 < up c s m ∧ up c s m < 1000000000000000000000000 := by
  unfold up
  have a : 10 ^ (m - s.toNat) ≤ 10 ^ 9 := Nat.pow_le_pow_right (by decide) (by omega)
  have b : 0 < 10 ^ (m - s.toNat) := Nat.pow_pos (by decide)
  generalize 10 ^ (m - s.toNat) = t at *
  have e1 : c * (t : Int) ≤ 999999999999999 * (t : Int) := mul_le_of _ _ _ (by omega) (by omega)
  have e2 : -999999999999999 * (t : Int) ≤ c * (t : Int) := mul_le_of _ _ _ (by omega) (by omega)
  omega
theorem aligned_c (ca sa cb sb : Int) (ia : isB ca sa = true) (ib : isB cb sb = true) (w : World) :
    Calls Tryz.prog 17 #[.agg #[.int .i64 ca, .int .i64 sa], .agg #[.int .i64 cb, .int .i64 sb]] w fun e w' => e = .returned (.tuple #[wd (up ca sa (mx sa sb)), wd (up cb sb (mx sa sb)), .int .i64 (mx sa sb : Int)]) ∧ Below w.heap.size w w' := by
  rw [isB_iff] at ia ib
  exact aligned_any ca sa cb sb w (mx sa sb) (by unfold mx; omega) (by omega) (by omega) (by unfold mx; omega) (by omega) (by omega) (by omega) (by omega)
set_option maxRecDepth 100000 in
set_option maxHeartbeats 4000000 in
theorem add_any (ca sa cb sb : Int) (w : World) :
    Calls Tryz.prog 4 #[nv ca sa, nv cb sb] w fun e w' => e = .returned (if isB ca sa = true ∧ isB cb sb = true then ans (hold (up ca sa (mx sa sb) + up cb sb (mx sa sb)) (mx sa sb)) else bad) ∧ Below w.heap.size w w' := by
  unfold nv
  by_cases ia : isB ca sa = true
  case neg =>
    rw [if_neg (fun h => ia h.1)]
    have ia : isB ca sa = false := by simpa using ia
    go_enter Tryz.func4, Tryz.ntmps4
    go_wp2_with (go_at_call 16; refine (is_c ia _).mono ?_; rintro e wk ⟨rfl, bk⟩; obtain ⟨r0, r1, r2, r3⟩ := boxed bk (w.heap.size + 1 + 1) (.int .i64 0) (.int .i64 0) (by simp [go_sem]) (by simp [go_sem]) (by simp [go_sem]) (by simp [go_sem]); obtain ⟨q0, q1, q2, q3⟩ := boxed bk (w.heap.size + 1) (.int .i64 cb) (.int .i64 sb) (by simp [go_sem]) (by simp [go_sem]) (by simp [go_sem]) (by simp [go_sem]); have bel1 := bT (bA3 _ _ _ _) bk)
    simp [bodyPost, results, Tryz.results4, go_sem, r0, r1]
    exact ⟨rfl, ((bel1).setCell (by simp; omega) _).setCell (by simp; omega) _⟩
  by_cases ib : isB cb sb = true
  case neg =>
    rw [if_neg (fun h => ib h.2)]
    have ib : isB cb sb = false := by simpa using ib
    go_enter Tryz.func4, Tryz.ntmps4
    go_wp2_with (go_at_call 16; refine (is_c (by first | exact ia | exact ib) _).mono ?_; rintro e wk ⟨rfl, bk⟩; first | (obtain ⟨p0', p1', p2', p3'⟩ := boxed bk _ _ _ p0 p1 p2 p3; obtain ⟨q0', q1', q2', q3'⟩ := boxed bk _ _ _ q0 q1 q2 q3; obtain ⟨r0', r1', r2', r3'⟩ := boxed bk _ _ _ r0 r1 r2 r3; have bel2 := bT bel1 bk) | (obtain ⟨p0, p1, p2, p3⟩ := boxed bk w.heap.size (.int .i64 ca) (.int .i64 sa) (by simp [go_sem]) (by simp [go_sem]) (by simp [go_sem]) (by simp [go_sem]); obtain ⟨q0, q1, q2, q3⟩ := boxed bk (w.heap.size + 1) (.int .i64 cb) (.int .i64 sb) (by simp [go_sem]) (by simp [go_sem]) (by simp [go_sem]) (by simp [go_sem]); obtain ⟨r0, r1, r2, r3⟩ := boxed bk (w.heap.size + 1 + 1) (.int .i64 0) (.int .i64 0) (by simp [go_sem]) (by simp [go_sem]) (by simp [go_sem]) (by simp [go_sem]); have bel1 := bT (bA3 _ _ _ _) bk))
    simp [bodyPost, results, Tryz.results4, go_sem, r0', r1']
    exact ⟨rfl, ((bel2).setCell (by simp; omega) _).setCell (by simp; omega) _⟩
  rw [if_pos ⟨ia, ib⟩]
  have hal := fun w => aligned_c ca sa cb sb ia ib w
  have hua := isB_iff.1 ia
  have hub := isB_iff.1 ib
  have hm9 : mx sa sb ≤ 9 := by unfold mx; omega
  have hx := up_le (c := ca) (s := sa) hm9 hua.2.1.1 hua.2.1.2
  have hy := up_le (c := cb) (s := sb) hm9 hub.2.1.1 hub.2.1.2
  have hpl := fun w => plus_wd (up ca sa (mx sa sb)) (up cb sb (mx sa sb)) w
  have hh := fun w => held_any (up ca sa (mx sa sb) + up cb sb (mx sa sb)) (mx sa sb) w (by omega) (by omega) (by omega)
  obtain ⟨x, y, z, hz⟩ := ans_ex (hold (up ca sa (mx sa sb) + up cb sb (mx sa sb)) (mx sa sb))
  rw [hz] at hh ⊢
  clear hz
  obtain ⟨x1, x2, hX⟩ := wd_form (up ca sa (mx sa sb))
  obtain ⟨y1, y2, hY⟩ := wd_form (up cb sb (mx sa sb))
  obtain ⟨z1, z2, hZ⟩ := wd_form (up ca sa (mx sa sb) + up cb sb (mx sa sb))
  rw [hX, hY] at hal
  rw [hX, hY, hZ] at hpl
  rw [hZ] at hh
  clear hX hY hZ hx hy hua hub
  go_enter Tryz.func4, Tryz.ntmps4
  go_wp2_with (first | (go_at_call 16; refine (is_c (by first | exact ia | exact ib) _).mono ?_; rintro e wk ⟨rfl, bk⟩; first | (obtain ⟨p0', p1', p2', p3'⟩ := boxed bk _ _ _ p0 p1 p2 p3; obtain ⟨q0', q1', q2', q3'⟩ := boxed bk _ _ _ q0 q1 q2 q3; obtain ⟨r0', r1', r2', r3'⟩ := boxed bk _ _ _ r0 r1 r2 r3; have bel2 := bT bel1 bk) | (obtain ⟨p0, p1, p2, p3⟩ := boxed bk w.heap.size (.int .i64 ca) (.int .i64 sa) (by simp [go_sem]) (by simp [go_sem]) (by simp [go_sem]) (by simp [go_sem]); obtain ⟨q0, q1, q2, q3⟩ := boxed bk (w.heap.size + 1) (.int .i64 cb) (.int .i64 sb) (by simp [go_sem]) (by simp [go_sem]) (by simp [go_sem]) (by simp [go_sem]); obtain ⟨r0, r1, r2, r3⟩ := boxed bk (w.heap.size + 1 + 1) (.int .i64 0) (.int .i64 0) (by simp [go_sem]) (by simp [go_sem]) (by simp [go_sem]) (by simp [go_sem]); have bel1 := bT (bA3 _ _ _ _) bk)) | (go_at_call 17; refine (hal _).mono ?_; rintro e w3 ⟨rfl, b3⟩; obtain ⟨s0, s1, s2, s3⟩ := boxed b3 _ _ _ r0' r1' r2' r3'; have bel3 := bT bel2 b3) | (go_at_call 19; refine (hpl _).mono ?_; rintro e w4 ⟨rfl, b4⟩; obtain ⟨t0, t1, t2, t3⟩ := (Bx.on (Bx.alloc (Bx.alloc ⟨s0, s1, s2, s3⟩ _) _) b4); have bel4 := bT ((bel3.alloc bel3.size _).alloc (by have := bel3.size; simp; omega) _) b4) | (go_at_call 18; refine (hh _).mono ?_; rintro e w5 ⟨rfl, b5⟩; obtain ⟨v0, v1, v2, v3⟩ := boxed b5 _ _ _ t0 t1 t2 t3; have bel5 := bT bel4 b5))
  simp [bodyPost, results, Tryz.results4, go_sem, v0, v1]
  exact (bel5.setCell (by simp; omega) _).setCell (by simp; omega) _
set_option maxRecDepth 100000 in
set_option maxHeartbeats 4000000 in
theorem sub_any (ca sa cb sb : Int) (w : World) :
    Calls Tryz.prog 5 #[nv ca sa, nv cb sb] w fun e w' => e = .returned (if isB ca sa = true ∧ isB cb sb = true then ans (hold (up ca sa (mx sa sb) - up cb sb (mx sa sb)) (mx sa sb)) else bad) ∧ Below w.heap.size w w' := by
  unfold nv
  by_cases ia : isB ca sa = true
  case neg =>
    rw [if_neg (fun h => ia h.1)]
    have ia : isB ca sa = false := by simpa using ia
    go_enter Tryz.func5, Tryz.ntmps5
    go_wp2_with (go_at_call 16; refine (is_c ia _).mono ?_; rintro e wk ⟨rfl, bk⟩; obtain ⟨r0, r1, r2, r3⟩ := boxed bk (w.heap.size + 1 + 1) (.int .i64 0) (.int .i64 0) (by simp [go_sem]) (by simp [go_sem]) (by simp [go_sem]) (by simp [go_sem]); obtain ⟨q0, q1, q2, q3⟩ := boxed bk (w.heap.size + 1) (.int .i64 cb) (.int .i64 sb) (by simp [go_sem]) (by simp [go_sem]) (by simp [go_sem]) (by simp [go_sem]); have bel1 := bT (bA3 _ _ _ _) bk)
    simp [bodyPost, results, Tryz.results5, go_sem, r0, r1]
    exact ⟨rfl, ((bel1).setCell (by simp; omega) _).setCell (by simp; omega) _⟩
  by_cases ib : isB cb sb = true
  case neg =>
    rw [if_neg (fun h => ib h.2)]
    have ib : isB cb sb = false := by simpa using ib
    go_enter Tryz.func5, Tryz.ntmps5
    go_wp2_with (go_at_call 16; refine (is_c (by first | exact ia | exact ib) _).mono ?_; rintro e wk ⟨rfl, bk⟩; first | (obtain ⟨p0', p1', p2', p3'⟩ := boxed bk _ _ _ p0 p1 p2 p3; obtain ⟨q0', q1', q2', q3'⟩ := boxed bk _ _ _ q0 q1 q2 q3; obtain ⟨r0', r1', r2', r3'⟩ := boxed bk _ _ _ r0 r1 r2 r3; have bel2 := bT bel1 bk) | (obtain ⟨p0, p1, p2, p3⟩ := boxed bk w.heap.size (.int .i64 ca) (.int .i64 sa) (by simp [go_sem]) (by simp [go_sem]) (by simp [go_sem]) (by simp [go_sem]); obtain ⟨q0, q1, q2, q3⟩ := boxed bk (w.heap.size + 1) (.int .i64 cb) (.int .i64 sb) (by simp [go_sem]) (by simp [go_sem]) (by simp [go_sem]) (by simp [go_sem]); obtain ⟨r0, r1, r2, r3⟩ := boxed bk (w.heap.size + 1 + 1) (.int .i64 0) (.int .i64 0) (by simp [go_sem]) (by simp [go_sem]) (by simp [go_sem]) (by simp [go_sem]); have bel1 := bT (bA3 _ _ _ _) bk))
    simp [bodyPost, results, Tryz.results5, go_sem, r0', r1']
    exact ⟨rfl, ((bel2).setCell (by simp; omega) _).setCell (by simp; omega) _⟩
  rw [if_pos ⟨ia, ib⟩]
  have hal := fun w => aligned_c ca sa cb sb ia ib w
  have hua := isB_iff.1 ia
  have hub := isB_iff.1 ib
  have hm9 : mx sa sb ≤ 9 := by unfold mx; omega
  have hx := up_le (c := ca) (s := sa) hm9 hua.2.1.1 hua.2.1.2
  have hy := up_le (c := cb) (s := sb) hm9 hub.2.1.1 hub.2.1.2
  have hng := fun w => negated_wd (up cb sb (mx sa sb)) w
  have hpl := fun w => plus_wd (up ca sa (mx sa sb)) (-up cb sb (mx sa sb)) w
  rw [← Int.sub_eq_add_neg] at hpl
  have hh := fun w => held_any (up ca sa (mx sa sb) - up cb sb (mx sa sb)) (mx sa sb) w (by omega) (by omega) (by omega)
  obtain ⟨x, y, z, hz⟩ := ans_ex (hold (up ca sa (mx sa sb) - up cb sb (mx sa sb)) (mx sa sb))
  rw [hz] at hh ⊢
  clear hz
  obtain ⟨x1, x2, hX⟩ := wd_form (up ca sa (mx sa sb))
  obtain ⟨y1, y2, hY⟩ := wd_form (up cb sb (mx sa sb))
  obtain ⟨m1, m2, hM⟩ := wd_form (-up cb sb (mx sa sb))
  obtain ⟨z1, z2, hZ⟩ := wd_form (up ca sa (mx sa sb) - up cb sb (mx sa sb))
  rw [hX, hY] at hal
  rw [hY, hM] at hng
  rw [hX, hM, hZ] at hpl
  rw [hZ] at hh
  clear hX hY hZ hM hx hy hua hub
  go_enter Tryz.func5, Tryz.ntmps5
  go_wp2_with (first | (go_at_call 16; refine (is_c (by first | exact ia | exact ib) _).mono ?_; rintro e wk ⟨rfl, bk⟩; first | (obtain ⟨p0', p1', p2', p3'⟩ := boxed bk _ _ _ p0 p1 p2 p3; obtain ⟨q0', q1', q2', q3'⟩ := boxed bk _ _ _ q0 q1 q2 q3; obtain ⟨r0', r1', r2', r3'⟩ := boxed bk _ _ _ r0 r1 r2 r3; have bel2 := bT bel1 bk) | (obtain ⟨p0, p1, p2, p3⟩ := boxed bk w.heap.size (.int .i64 ca) (.int .i64 sa) (by simp [go_sem]) (by simp [go_sem]) (by simp [go_sem]) (by simp [go_sem]); obtain ⟨q0, q1, q2, q3⟩ := boxed bk (w.heap.size + 1) (.int .i64 cb) (.int .i64 sb) (by simp [go_sem]) (by simp [go_sem]) (by simp [go_sem]) (by simp [go_sem]); obtain ⟨r0, r1, r2, r3⟩ := boxed bk (w.heap.size + 1 + 1) (.int .i64 0) (.int .i64 0) (by simp [go_sem]) (by simp [go_sem]) (by simp [go_sem]) (by simp [go_sem]); have bel1 := bT (bA3 _ _ _ _) bk)) | (go_at_call 17; refine (hal _).mono ?_; rintro e w3 ⟨rfl, b3⟩; obtain ⟨s0, s1, s2, s3⟩ := boxed b3 _ _ _ r0' r1' r2' r3'; have bel3 := bT bel2 b3))
  have hlt := kl s0
  simp only at hlt
  have hS1 := (((Sv.nil (B := w.heap.size) (o := w) (a := (w3.alloc (Obj.cells #[Value.int .u64 x1, Value.int .u64 x2] 33)).alloc (Obj.cells #[Value.int .u64 y1, Value.int .u64 y2] 33)) ((bel3.alloc bel3.size _).alloc (by have := bel3.size; simp; omega) _)).addf (k := (w3.heap.size + 1)) (x := .int .u64 y1) (y := .int .u64 y2) (⟨by simp [go_sem], by simp [go_sem], by simp [go_sem], by simp [go_sem]⟩)).addf (k := w3.heap.size) (x := .int .u64 x1) (y := .int .u64 x2) (⟨by simp [go_sem], by simp [go_sem], by simp [go_sem], by simp [go_sem]⟩)).addo (k := (w.heap.size + 1 + 1)) (Bx.alloc (Bx.alloc ⟨s0, s1, s2, s3⟩ _) _)
  obtain ⟨fx1, hfx1⟩ : ∃ fx : List (Nat × Value × Value), [(w3.heap.size, .int .u64 x1, .int .u64 x2), ((w3.heap.size + 1), .int .u64 y1, .int .u64 y2)] = fx := ⟨_, rfl⟩
  obtain ⟨op1, hop1⟩ : ∃ op : List Nat, [(w.heap.size + 1 + 1)] = op := ⟨_, rfl⟩
  rw [hfx1, hop1] at hS1
  have u1_0_0 := Sv.fix0 (B := w.heap.size) (o := w) (fx := fx1) (op := op1) (k := w3.heap.size) (x := .int .u64 x1) (y := .int .u64 x2) (by subst hfx1; simp)
  have u1_0_1 := Sv.fix1 (B := w.heap.size) (o := w) (fx := fx1) (op := op1) (k := w3.heap.size) (x := .int .u64 x1) (y := .int .u64 x2) (by subst hfx1; simp)
  have u1_1_0 := Sv.fix0 (B := w.heap.size) (o := w) (fx := fx1) (op := op1) (k := (w3.heap.size + 1)) (x := .int .u64 y1) (y := .int .u64 y2) (by subst hfx1; simp)
  have u1_1_1 := Sv.fix1 (B := w.heap.size) (o := w) (fx := fx1) (op := op1) (k := (w3.heap.size + 1)) (x := .int .u64 y1) (y := .int .u64 y2) (by subst hfx1; simp)
  have mf1_0 : (w3.heap.size, .int .u64 x1, .int .u64 x2) ∈ fx1 := by subst hfx1; simp
  have mf1_1 : ((w3.heap.size + 1), .int .u64 y1, .int .u64 y2) ∈ fx1 := by subst hfx1; simp
  obtain ⟨G1_0, H1_0, g1_0_0, g1_0_1, g1_0_2, g1_0_3⟩ := Sv.get (B := w.heap.size) (o := w) (fx := fx1) (op := op1) (k := (w.heap.size + 1 + 1)) (by subst hop1; simp)
  have n1_0 : ∀ t ∈ fx1, (w.heap.size + 1 + 1) ≠ t.1 := by
    subst hfx1
    intro t ht
    simp only [List.mem_cons, List.not_mem_nil, or_false] at ht
    rcases ht with rfl | rfl <;> simp <;> omega
  have o1_0 : (w.heap.size + 1 + 1) ∈ op1 := by subst hop1; simp
  clear hfx1 hop1
  have HS1 := Lib.hid hS1
  clear hS1
  clear hal p0 p1 p2 p3 q0 q1 q2 q3 r0 r1 r2 r3 p0' p1' p2' p3' q0' q1' q2' q3' r0' r1' r2' r3' s0 s1 s2 s3 ia ib
  go_region_held3 (Sv w.heap.size w fx1 op1) (first | assumption | exact HS1.out.drew | exact Sv.call (by assumption) (by assumption) (Nat.le_refl _) | exact Sv.set1 (Sv.set0 (by assumption) (by omega) n1_0 _) (by omega) n1_0 _)
    (first
      | (go_at_call 20; refine (hng _).mono ?_; rintro e w' ⟨rfl, bk⟩)
      | (go_at_call 19; refine (hpl _).mono ?_; rintro e w' ⟨rfl, bk⟩)
      | (go_at_call 18; refine (hh _).mono ?_; rintro e w' ⟨rfl, bk⟩))
  go_wp2
  rename_i HF
  obtain ⟨_, _, m1⟩ := HF.2.2 _ o1_0
  obtain ⟨v0, v1, _, _⟩ := m1.was
  clear u1_0_0 u1_0_1 u1_1_0 u1_1_1 g1_0_0 g1_0_1 g1_0_2 g1_0_3
  simp [bodyPost, results, Tryz.results5, go_sem, v0, v1]
  exact HF.1
set_option maxRecDepth 100000 in
set_option maxHeartbeats 4000000 in
theorem mul_any (ca sa cb sb : Int) (w : World) :
    Calls Tryz.prog 6 #[nv ca sa, nv cb sb] w fun e w' => e = .returned (if isB ca sa = true ∧ isB cb sb = true then ans (hold (ca * cb) (sa + sb).toNat) else bad) ∧ Below w.heap.size w w' := by
  unfold nv
  by_cases ia : isB ca sa = true
  case neg =>
    rw [if_neg (fun h => ia h.1)]
    have ia : isB ca sa = false := by simpa using ia
    go_enter Tryz.func6, Tryz.ntmps6
    go_wp2_with (go_at_call 16; refine (is_c ia _).mono ?_; rintro e wk ⟨rfl, bk⟩; obtain ⟨r0, r1, r2, r3⟩ := boxed bk (w.heap.size + 1 + 1) (.int .i64 0) (.int .i64 0) (by simp [go_sem]) (by simp [go_sem]) (by simp [go_sem]) (by simp [go_sem]); obtain ⟨q0, q1, q2, q3⟩ := boxed bk (w.heap.size + 1) (.int .i64 cb) (.int .i64 sb) (by simp [go_sem]) (by simp [go_sem]) (by simp [go_sem]) (by simp [go_sem]); have bel1 := bT (bA3 _ _ _ _) bk)
    simp [bodyPost, results, Tryz.results6, go_sem, r0, r1]
    exact ⟨rfl, ((bel1).setCell (by simp; omega) _).setCell (by simp; omega) _⟩
  by_cases ib : isB cb sb = true
  case neg =>
    rw [if_neg (fun h => ib h.2)]
    have ib : isB cb sb = false := by simpa using ib
    go_enter Tryz.func6, Tryz.ntmps6
    go_wp2_with (go_at_call 16; refine (is_c (by first | exact ia | exact ib) _).mono ?_; rintro e wk ⟨rfl, bk⟩; first | (obtain ⟨p0', p1', p2', p3'⟩ := boxed bk _ _ _ p0 p1 p2 p3; obtain ⟨q0', q1', q2', q3'⟩ := boxed bk _ _ _ q0 q1 q2 q3; obtain ⟨r0', r1', r2', r3'⟩ := boxed bk _ _ _ r0 r1 r2 r3; have bel2 := bT bel1 bk) | (obtain ⟨p0, p1, p2, p3⟩ := boxed bk w.heap.size (.int .i64 ca) (.int .i64 sa) (by simp [go_sem]) (by simp [go_sem]) (by simp [go_sem]) (by simp [go_sem]); obtain ⟨q0, q1, q2, q3⟩ := boxed bk (w.heap.size + 1) (.int .i64 cb) (.int .i64 sb) (by simp [go_sem]) (by simp [go_sem]) (by simp [go_sem]) (by simp [go_sem]); obtain ⟨r0, r1, r2, r3⟩ := boxed bk (w.heap.size + 1 + 1) (.int .i64 0) (.int .i64 0) (by simp [go_sem]) (by simp [go_sem]) (by simp [go_sem]) (by simp [go_sem]); have bel1 := bT (bA3 _ _ _ _) bk))
    simp [bodyPost, results, Tryz.results6, go_sem, r0', r1']
    exact ⟨rfl, ((bel2).setCell (by simp; omega) _).setCell (by simp; omega) _⟩
  rw [if_pos ⟨ia, ib⟩]
  have hua := isB_iff.1 ia
  have hub := isB_iff.1 ib
  obtain ⟨n, hn⟩ : ∃ n : Nat, (sa + sb).toNat = n := ⟨_, rfl⟩
  have hb1 := mul_le_of (ca.natAbs : Int) 1000000000000000 (cb.natAbs : Int) (by omega) (by omega)
  have hb2 := mul_le_of (cb.natAbs : Int) 1000000000000000 1000000000000000 (by omega) (by omega)
  have hb3 : ((ca * cb).natAbs : Int) = (ca.natAbs : Int) * (cb.natAbs : Int) := by rw [Int.natAbs_mul]; rfl
  have hh := fun w => held_any (ca * cb) n w (by omega) (by omega) (by omega)
  have hpr := fun w => product_any ca cb w (by omega) (by omega) (by omega) (by omega)
  rw [hn]
  have hw : IntKind.i64.wrap (sa + sb) = (n : Int) := by rw [wrapS _ (by omega) (by omega)]; omega
  obtain ⟨x, y, z, hz⟩ := ans_ex (hold (ca * cb) n)
  rw [hz] at hh ⊢
  obtain ⟨z1, z2, hZ⟩ := wd_form (ca * cb)
  rw [hZ] at hh hpr
  clear hz hZ hua hub hb1 hb2 hb3 hn
  go_enter Tryz.func6, Tryz.ntmps6
  go_wp2_with (go_at_call 16; refine (is_c (by first | exact ia | exact ib) _).mono ?_; rintro e wk ⟨rfl, bk⟩; first | (obtain ⟨p0', p1', p2', p3'⟩ := boxed bk _ _ _ p0 p1 p2 p3; obtain ⟨q0', q1', q2', q3'⟩ := boxed bk _ _ _ q0 q1 q2 q3; obtain ⟨r0', r1', r2', r3'⟩ := boxed bk _ _ _ r0 r1 r2 r3; have bel2 := bT bel1 bk) | (obtain ⟨p0, p1, p2, p3⟩ := boxed bk w.heap.size (.int .i64 ca) (.int .i64 sa) (by simp [go_sem]) (by simp [go_sem]) (by simp [go_sem]) (by simp [go_sem]); obtain ⟨q0, q1, q2, q3⟩ := boxed bk (w.heap.size + 1) (.int .i64 cb) (.int .i64 sb) (by simp [go_sem]) (by simp [go_sem]) (by simp [go_sem]) (by simp [go_sem]); obtain ⟨r0, r1, r2, r3⟩ := boxed bk (w.heap.size + 1 + 1) (.int .i64 0) (.int .i64 0) (by simp [go_sem]) (by simp [go_sem]) (by simp [go_sem]) (by simp [go_sem]); have bel1 := bT (bA3 _ _ _ _) bk))
  have hS1 := (((Sv.nil (B := w.heap.size) (o := w) (a := wk) (bel2)).addf (k := (w.heap.size + 1)) (x := .int .i64 cb) (y := .int .i64 sb) (⟨q0', q1', q2', q3'⟩)).addf (k := w.heap.size) (x := .int .i64 ca) (y := .int .i64 sa) (⟨p0', p1', p2', p3'⟩)).addo (k := (w.heap.size + 1 + 1)) ((⟨r0', r1', r2', r3'⟩ : Bx _ _ _ _))
  obtain ⟨fx1, hfx1⟩ : ∃ fx : List (Nat × Value × Value), [(w.heap.size, .int .i64 ca, .int .i64 sa), ((w.heap.size + 1), .int .i64 cb, .int .i64 sb)] = fx := ⟨_, rfl⟩
  obtain ⟨op1, hop1⟩ : ∃ op : List Nat, [(w.heap.size + 1 + 1)] = op := ⟨_, rfl⟩
  rw [hfx1, hop1] at hS1
  have u1_0_0 := Sv.fix0 (B := w.heap.size) (o := w) (fx := fx1) (op := op1) (k := w.heap.size) (x := .int .i64 ca) (y := .int .i64 sa) (by subst hfx1; simp)
  have u1_0_1 := Sv.fix1 (B := w.heap.size) (o := w) (fx := fx1) (op := op1) (k := w.heap.size) (x := .int .i64 ca) (y := .int .i64 sa) (by subst hfx1; simp)
  have u1_1_0 := Sv.fix0 (B := w.heap.size) (o := w) (fx := fx1) (op := op1) (k := (w.heap.size + 1)) (x := .int .i64 cb) (y := .int .i64 sb) (by subst hfx1; simp)
  have u1_1_1 := Sv.fix1 (B := w.heap.size) (o := w) (fx := fx1) (op := op1) (k := (w.heap.size + 1)) (x := .int .i64 cb) (y := .int .i64 sb) (by subst hfx1; simp)
  have mf1_0 : (w.heap.size, .int .i64 ca, .int .i64 sa) ∈ fx1 := by subst hfx1; simp
  have mf1_1 : ((w.heap.size + 1), .int .i64 cb, .int .i64 sb) ∈ fx1 := by subst hfx1; simp
  obtain ⟨G1_0, H1_0, g1_0_0, g1_0_1, g1_0_2, g1_0_3⟩ := Sv.get (B := w.heap.size) (o := w) (fx := fx1) (op := op1) (k := (w.heap.size + 1 + 1)) (by subst hop1; simp)
  have n1_0 : ∀ t ∈ fx1, (w.heap.size + 1 + 1) ≠ t.1 := by
    subst hfx1
    intro t ht
    simp only [List.mem_cons, List.not_mem_nil, or_false] at ht
    rcases ht with rfl | rfl <;> simp <;> omega
  have o1_0 : (w.heap.size + 1 + 1) ∈ op1 := by subst hop1; simp
  clear hfx1 hop1
  have HS1 := Lib.hid hS1
  clear hS1
  clear p0 p1 p2 p3 q0 q1 q2 q3 p0' p1' p2' p3' q0' q1' q2' q3' r0 r1 r2 r3 r0' r1' r2' r3' ia ib
  go_region_held3 (Sv w.heap.size w fx1 op1) (first | assumption | exact HS1.out.drew | exact Sv.call (by assumption) (by assumption) (Nat.le_refl _) | exact Sv.set1 (Sv.set0 (by assumption) (by omega) n1_0 _) (by omega) n1_0 _)
    (first
      | (go_at_call 21; refine (hpr _).mono ?_; rintro e w' ⟨rfl, bk⟩)
      | (go_at_call 18; refine (hh _).mono ?_; rintro e w' ⟨rfl, bk⟩))
  go_wp2
  rename_i HF
  obtain ⟨_, _, m1⟩ := HF.2.2 _ o1_0
  obtain ⟨v0, v1, _, _⟩ := m1.was
  clear u1_0_0 u1_0_1 u1_1_0 u1_1_1 g1_0_0 g1_0_1 g1_0_2 g1_0_3
  simp [bodyPost, results, Tryz.results6, go_sem, v0, v1]
  exact HF.1
end Nm
end Go.Proofs.YtkbmaimocoljeaaGreatDoor
