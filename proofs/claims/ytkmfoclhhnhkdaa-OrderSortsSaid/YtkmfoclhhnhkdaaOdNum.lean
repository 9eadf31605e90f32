/- order: numbers as they count, by the program and by the document. -/
import Derived.Test.YtkmfoclhhnhkdaaOdSmall
import Derived.Test.YtkmfoclhhnhkdaaNrAdd
namespace Go.Proofs.Ytkmfoclhhnhkdaa
open Go.RowKit
namespace Od
open _root_.Go.Proofs.Ytkmfoclhhnhkdaa.Nm _root_.Go.Proofs.Ytkmfoclhhnhkdaa.Jv
set_option maxRecDepth 100000 in
set_option maxHeartbeats 1000000 in
theorem rnum_any (c s : Int) (w : World) :
    Calls Try.prog 30 #[.agg #[.int .i64 c, .int .i64 s]] w fun e w' => e = .returned (.bool (isB c s)) ∧ Below w.heap.size w w' := by
  by_cases h1 : s < 0
  · have e : Hid (isB c s = false) := Lib.hid (decide_eq_false (by omega))
    go_enter Try.func30, Try.ntmps30
    go_wp2
    go_ret
    exact ⟨ret_bool e.out.symm, bA1 _ _⟩
  by_cases h2 : 9 < s
  · have e : Hid (isB c s = false) := Lib.hid (decide_eq_false (by omega))
    go_enter Try.func30, Try.ntmps30
    go_wp2
    go_ret
    exact ⟨ret_bool e.out.symm, bA1 _ _⟩
  by_cases h4 : 1000000000000000 ≤ c
  · have e : Hid (isB c s = false) := Lib.hid (decide_eq_false (by omega))
    go_enter Try.func30, Try.ntmps30
    go_wp2
    go_ret
    exact ⟨ret_bool e.out.symm, bA1 _ _⟩
  by_cases h3 : c ≤ -1000000000000000
  · have e : Hid (isB c s = false) := Lib.hid (decide_eq_false (by omega))
    go_enter Try.func30, Try.ntmps30
    go_wp2
    go_ret
    exact ⟨ret_bool e.out.symm, bA1 _ _⟩
  by_cases h5 : s = 0
  · subst h5
    have e : Hid (isB c 0 = true) := Lib.hid (decide_eq_true (by omega))
    go_enter Try.func30, Try.ntmps30
    go_wp2
    go_ret
    exact ⟨ret_bool e.out.symm, bA1 _ _⟩
  have hs0 : (s == 0) = false := by simp; omega
  obtain ⟨t, ht⟩ : ∃ t, c.tmod 10 = t := ⟨_, rfl⟩
  have hb : -10 < t := by rw [← ht]; exact Int.lt_tmod_of_pos c (by decide)
  have hb' : t < 10 := by rw [← ht]; exact Int.tmod_lt_of_pos c (by decide)
  by_cases h6 : t = 0
  · have e : Hid (isB c s = false) := Lib.hid (decide_eq_false (by rw [ht]; omega))
    subst h6
    go_enter Try.func30, Try.ntmps30
    go_wp2
    go_ret
    exact ⟨ret_bool e.out.symm, bA1 _ _⟩
  · have e : Hid (isB c s = true) := Lib.hid (decide_eq_true (by rw [ht]; omega))
    have hz : (t == 0) = false := by simp; omega
    have hz' : (t != 0) = true := by simp; omega
    go_enter Try.func30, Try.ntmps30
    go_wp2
    go_ret
    exact ⟨ret_bool e.out.symm, bA1 _ _⟩
set_option maxRecDepth 100000 in
set_option maxHeartbeats 2000000 in
theorem counted_any (c s : Int) (w : World) : Calls Try.prog 64 #[.agg #[.int .i64 c, .int .i64 s]] w fun e w' => e = .returned (.agg #[.int .i64 (clC c s), .int .i64 (clS c s)]) ∧ Below w.heap.size w w' := by
  have his := fun w => is_any c s w
  unfold nv at his
  obtain ⟨b, hb⟩ : ∃ b, isB c s = b := ⟨_, rfl⟩
  rw [hb] at his
  have HI := Lib.hid his
  unfold clC clS
  rw [hb]
  clear hb his
  cases b
  · go_enter Try.func64, Try.ntmps64
    go_wp2_with (go_at_call 71; refine (HI.out _).mono ?_; rintro e w1 ⟨rfl, b1⟩; obtain ⟨p0, p1, p2, p3⟩ := boxed b1 w.heap.size (.int .i64 c) (.int .i64 s) (by simp [go_sem]) (by simp [go_sem]) (by simp [go_sem]) (by simp [go_sem]); obtain ⟨q0, q1, q2, q3⟩ := boxed b1 (w.heap.size + 1) (.int .i64 0) (.int .i64 0) (by simp [go_sem]) (by simp [go_sem]) (by simp [go_sem]) (by simp [go_sem]); have bel1 := bT (bA2 _ _ _) b1)
    obtain ⟨y0, y1, _, _⟩ := Bx.put (⟨q0, q1, q2, q3⟩ : Bx w1 (w.heap.size + 1) _ _) (.int .i64 0) (.int .i64 0)
    have HBE := Lib.hid ((bel1.setCell (p := ⟨w.heap.size + 1, 0, none⟩) (by simp) (.int .i64 0)).setCell (p := ⟨w.heap.size + 1, 1, none⟩) (by simp) (.int .i64 0))
    clear p0 p1 p2 p3 q0 q1 q2 q3 bel1 b1
    simp [bodyPost, results, Try.results64, go_sem, y0, y1]
    exact HBE.out
  · go_enter Try.func64, Try.ntmps64
    go_wp2_with (go_at_call 71; refine (HI.out _).mono ?_; rintro e w1 ⟨rfl, b1⟩; obtain ⟨p0, p1, p2, p3⟩ := boxed b1 w.heap.size (.int .i64 c) (.int .i64 s) (by simp [go_sem]) (by simp [go_sem]) (by simp [go_sem]) (by simp [go_sem]); obtain ⟨q0, q1, q2, q3⟩ := boxed b1 (w.heap.size + 1) (.int .i64 0) (.int .i64 0) (by simp [go_sem]) (by simp [go_sem]) (by simp [go_sem]) (by simp [go_sem]); have bel1 := bT (bA2 _ _ _) b1)
    obtain ⟨y0, y1, _, _⟩ := Bx.put (⟨q0, q1, q2, q3⟩ : Bx w1 (w.heap.size + 1) _ _) (.int .i64 c) (.int .i64 s)
    have HBE := Lib.hid ((bel1.setCell (p := ⟨w.heap.size + 1, 0, none⟩) (by simp) (.int .i64 c)).setCell (p := ⟨w.heap.size + 1, 1, none⟩) (by simp) (.int .i64 s))
    clear p0 p1 p2 p3 q0 q1 q2 q3 bel1 b1
    simp [bodyPost, results, Try.results64, go_sem, y0, y1]
    exact HBE.out
set_option maxRecDepth 100000 in
set_option maxHeartbeats 2000000 in
theorem rclean_any (c s : Int) (w : World) : Calls Try.prog 58 #[.agg #[.int .i64 c, .int .i64 s]] w fun e w' => e = .returned (.agg #[.int .i64 (clC c s), .int .i64 (clS c s)]) ∧ Below w.heap.size w w' := by
  have his := fun w => rnum_any c s w
  obtain ⟨b, hb⟩ : ∃ b, isB c s = b := ⟨_, rfl⟩
  rw [hb] at his
  have HI := Lib.hid his
  unfold clC clS
  rw [hb]
  clear hb his
  cases b
  · go_enter Try.func58, Try.ntmps58
    go_wp2_with (go_at_call 30; refine (HI.out _).mono ?_; rintro e w1 ⟨rfl, b1⟩; obtain ⟨p0, p1, p2, p3⟩ := boxed b1 w.heap.size (.int .i64 c) (.int .i64 s) (by simp [go_sem]) (by simp [go_sem]) (by simp [go_sem]) (by simp [go_sem]); obtain ⟨q0, q1, q2, q3⟩ := boxed b1 (w.heap.size + 1) (.int .i64 0) (.int .i64 0) (by simp [go_sem]) (by simp [go_sem]) (by simp [go_sem]) (by simp [go_sem]); have bel1 := bT (bA2 _ _ _) b1)
    obtain ⟨y0, y1, _, _⟩ := Bx.put (⟨q0, q1, q2, q3⟩ : Bx w1 (w.heap.size + 1) _ _) (.int .i64 0) (.int .i64 0)
    have HBE := Lib.hid ((bel1.setCell (p := ⟨w.heap.size + 1, 0, none⟩) (by simp) (.int .i64 0)).setCell (p := ⟨w.heap.size + 1, 1, none⟩) (by simp) (.int .i64 0))
    clear p0 p1 p2 p3 q0 q1 q2 q3 bel1 b1
    simp [bodyPost, results, Try.results58, go_sem, y0, y1]
    exact HBE.out
  · go_enter Try.func58, Try.ntmps58
    go_wp2_with (go_at_call 30; refine (HI.out _).mono ?_; rintro e w1 ⟨rfl, b1⟩; obtain ⟨p0, p1, p2, p3⟩ := boxed b1 w.heap.size (.int .i64 c) (.int .i64 s) (by simp [go_sem]) (by simp [go_sem]) (by simp [go_sem]) (by simp [go_sem]); obtain ⟨q0, q1, q2, q3⟩ := boxed b1 (w.heap.size + 1) (.int .i64 0) (.int .i64 0) (by simp [go_sem]) (by simp [go_sem]) (by simp [go_sem]) (by simp [go_sem]); have bel1 := bT (bA2 _ _ _) b1)
    obtain ⟨y0, y1, _, _⟩ := Bx.put (⟨q0, q1, q2, q3⟩ : Bx w1 (w.heap.size + 1) _ _) (.int .i64 c) (.int .i64 s)
    have HBE := Lib.hid ((bel1.setCell (p := ⟨w.heap.size + 1, 0, none⟩) (by simp) (.int .i64 c)).setCell (p := ⟨w.heap.size + 1, 1, none⟩) (by simp) (.int .i64 s))
    clear p0 p1 p2 p3 q0 q1 q2 q3 bel1 b1
    simp [bodyPost, results, Try.results58, go_sem, y0, y1]
    exact HBE.out
theorem ncmp_any (c s c' s' : Int) (w : World) : Calls Try.prog 63 #[.agg #[.int .i64 (clC c s), .int .i64 (clS c s)], .agg #[.int .i64 (clC c' s'), .int .i64 (clS c' s')]] w fun e w' => e = .returned (.int .i64 (nmC c s c' s')) ∧ Below w.heap.size w w' := by
  have h := cmp_any (clC c s) (clS c s) (clC c' s') (clS c' s') w
  rw [if_pos ⟨cl_is c s, cl_is c' s'⟩] at h
  unfold nv at h
  exact h
theorem rcmp_any (c s c' s' : Int) (w : World) : Calls Try.prog 57 #[.agg #[.int .i64 (clC c s), .int .i64 (clS c s)], .agg #[.int .i64 (clC c' s'), .int .i64 (clS c' s')]] w fun e w' => e = .returned (.int .i64 (nmC c s c' s')) ∧ Below w.heap.size w w' := by
  have h := refCmp_any (clC c s) (clS c s) (clC c' s') (clS c' s') w (cl_is c s) (cl_is c' s')
  unfold nv at h
  exact h
end Od
end Go.Proofs.Ytkmfoclhhnhkdaa
