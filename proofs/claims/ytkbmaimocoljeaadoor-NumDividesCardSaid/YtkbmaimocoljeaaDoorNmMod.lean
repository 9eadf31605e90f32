/- Mod and Whole, of any numbers. -/
import Derived.Test.YtkbmaimocoljeaaDoorNmArith
namespace Go.Proofs.YtkbmaimocoljeaaDoor
open Go.RowKit
namespace Nm
/-- what is left of a division -/
def modO (ca sa cb sb : Int) : Option (Int × Nat) := if sa = 0 ∧ sb = 0 ∧ cb ≠ 0 then some (ca.tmod cb, 0) else none
set_option maxRecDepth 100000 in
set_option maxHeartbeats 4000000 in
theorem mod_any (ca sa cb sb : Int) (w : World) :
    Calls Tryd.prog 18 #[nv ca sa, nv cb sb] w fun e w' => e = .returned (if isB ca sa = true ∧ isB cb sb = true then ans (modO ca sa cb sb) else bad) ∧ Below w.heap.size w w' := by
  unfold nv
  by_cases ia : isB ca sa = true
  case neg =>
    rw [if_neg (fun h => ia h.1)]
    have ia : isB ca sa = false := by simpa using ia
    go_enter Tryd.func18, Tryd.ntmps18
    go_wp2_with (go_at_call 9; refine (is_c ia _).mono ?_; rintro e wk ⟨rfl, bk⟩; obtain ⟨r0, r1, r2, r3⟩ := boxed bk (w.heap.size + 1 + 1) (.int .i64 0) (.int .i64 0) (by simp [go_sem]) (by simp [go_sem]) (by simp [go_sem]) (by simp [go_sem]); obtain ⟨q0, q1, q2, q3⟩ := boxed bk (w.heap.size + 1) (.int .i64 cb) (.int .i64 sb) (by simp [go_sem]) (by simp [go_sem]) (by simp [go_sem]) (by simp [go_sem]); have bel1 := bT (bA3 _ _ _ _) bk)
    simp [bodyPost, results, Tryd.results18, go_sem, r0, r1]
    exact ⟨rfl, ((bel1).setCell (by simp; omega) _).setCell (by simp; omega) _⟩
  by_cases ib : isB cb sb = true
  case neg =>
    rw [if_neg (fun h => ib h.2)]
    have ib : isB cb sb = false := by simpa using ib
    go_enter Tryd.func18, Tryd.ntmps18
    go_wp2_with (go_at_call 9; refine (is_c (by first | exact ia | exact ib) _).mono ?_; rintro e wk ⟨rfl, bk⟩; first | (obtain ⟨p0', p1', p2', p3'⟩ := boxed bk _ _ _ p0 p1 p2 p3; obtain ⟨q0', q1', q2', q3'⟩ := boxed bk _ _ _ q0 q1 q2 q3; obtain ⟨r0', r1', r2', r3'⟩ := boxed bk _ _ _ r0 r1 r2 r3; have bel2 := bT bel1 bk) | (obtain ⟨p0, p1, p2, p3⟩ := boxed bk w.heap.size (.int .i64 ca) (.int .i64 sa) (by simp [go_sem]) (by simp [go_sem]) (by simp [go_sem]) (by simp [go_sem]); obtain ⟨q0, q1, q2, q3⟩ := boxed bk (w.heap.size + 1) (.int .i64 cb) (.int .i64 sb) (by simp [go_sem]) (by simp [go_sem]) (by simp [go_sem]) (by simp [go_sem]); obtain ⟨r0, r1, r2, r3⟩ := boxed bk (w.heap.size + 1 + 1) (.int .i64 0) (.int .i64 0) (by simp [go_sem]) (by simp [go_sem]) (by simp [go_sem]) (by simp [go_sem]); have bel1 := bT (bA3 _ _ _ _) bk))
    simp [bodyPost, results, Tryd.results18, go_sem, r0', r1']
    exact ⟨rfl, ((bel2).setCell (by simp; omega) _).setCell (by simp; omega) _⟩
  rw [if_pos ⟨ia, ib⟩]
  have hua := isB_iff.1 ia
  have hub := isB_iff.1 ib
  unfold modO
  by_cases h1 : sa = 0
  case neg =>
    rw [if_neg (fun h => h1 h.1)]
    have h1' : (sa != 0) = true := by simp; exact h1
    go_enter Tryd.func18, Tryd.ntmps18
    go_wp2_with (go_at_call 9; refine (is_c (by first | exact ia | exact ib) _).mono ?_; rintro e wk ⟨rfl, bk⟩; first | (obtain ⟨p0', p1', p2', p3'⟩ := boxed bk _ _ _ p0 p1 p2 p3; obtain ⟨q0', q1', q2', q3'⟩ := boxed bk _ _ _ q0 q1 q2 q3; obtain ⟨r0', r1', r2', r3'⟩ := boxed bk _ _ _ r0 r1 r2 r3; have bel2 := bT bel1 bk) | (obtain ⟨p0, p1, p2, p3⟩ := boxed bk w.heap.size (.int .i64 ca) (.int .i64 sa) (by simp [go_sem]) (by simp [go_sem]) (by simp [go_sem]) (by simp [go_sem]); obtain ⟨q0, q1, q2, q3⟩ := boxed bk (w.heap.size + 1) (.int .i64 cb) (.int .i64 sb) (by simp [go_sem]) (by simp [go_sem]) (by simp [go_sem]) (by simp [go_sem]); obtain ⟨r0, r1, r2, r3⟩ := boxed bk (w.heap.size + 1 + 1) (.int .i64 0) (.int .i64 0) (by simp [go_sem]) (by simp [go_sem]) (by simp [go_sem]) (by simp [go_sem]); have bel1 := bT (bA3 _ _ _ _) bk))
    simp [bodyPost, results, Tryd.results18, go_sem, r0', r1']
    exact ⟨rfl, (bel2.setCell (by simp; omega) _).setCell (by simp; omega) _⟩
  subst h1
  by_cases h2 : sb = 0
  case neg =>
    rw [if_neg (fun h => h2 h.2.1)]
    have h2' : (sb != 0) = true := by simp; exact h2
    go_enter Tryd.func18, Tryd.ntmps18
    go_wp2_with (go_at_call 9; refine (is_c (by first | exact ia | exact ib) _).mono ?_; rintro e wk ⟨rfl, bk⟩; first | (obtain ⟨p0', p1', p2', p3'⟩ := boxed bk _ _ _ p0 p1 p2 p3; obtain ⟨q0', q1', q2', q3'⟩ := boxed bk _ _ _ q0 q1 q2 q3; obtain ⟨r0', r1', r2', r3'⟩ := boxed bk _ _ _ r0 r1 r2 r3; have bel2 := bT bel1 bk) | (obtain ⟨p0, p1, p2, p3⟩ := boxed bk w.heap.size (.int .i64 ca) (.int .i64 0) (by simp [go_sem]) (by simp [go_sem]) (by simp [go_sem]) (by simp [go_sem]); obtain ⟨q0, q1, q2, q3⟩ := boxed bk (w.heap.size + 1) (.int .i64 cb) (.int .i64 sb) (by simp [go_sem]) (by simp [go_sem]) (by simp [go_sem]) (by simp [go_sem]); obtain ⟨r0, r1, r2, r3⟩ := boxed bk (w.heap.size + 1 + 1) (.int .i64 0) (.int .i64 0) (by simp [go_sem]) (by simp [go_sem]) (by simp [go_sem]) (by simp [go_sem]); have bel1 := bT (bA3 _ _ _ _) bk))
    simp [bodyPost, results, Tryd.results18, go_sem, r0', r1']
    exact ⟨rfl, (bel2.setCell (by simp; omega) _).setCell (by simp; omega) _⟩
  subst h2
  by_cases h3 : cb = 0
  · subst h3
    rw [if_neg (fun h => h.2.2 rfl)]
    go_enter Tryd.func18, Tryd.ntmps18
    go_wp2_with (go_at_call 9; refine (is_c (by first | exact ia | exact ib) _).mono ?_; rintro e wk ⟨rfl, bk⟩; first | (obtain ⟨p0', p1', p2', p3'⟩ := boxed bk _ _ _ p0 p1 p2 p3; obtain ⟨q0', q1', q2', q3'⟩ := boxed bk _ _ _ q0 q1 q2 q3; obtain ⟨r0', r1', r2', r3'⟩ := boxed bk _ _ _ r0 r1 r2 r3; have bel2 := bT bel1 bk) | (obtain ⟨p0, p1, p2, p3⟩ := boxed bk w.heap.size (.int .i64 ca) (.int .i64 0) (by simp [go_sem]) (by simp [go_sem]) (by simp [go_sem]) (by simp [go_sem]); obtain ⟨q0, q1, q2, q3⟩ := boxed bk (w.heap.size + 1) (.int .i64 0) (.int .i64 0) (by simp [go_sem]) (by simp [go_sem]) (by simp [go_sem]) (by simp [go_sem]); obtain ⟨r0, r1, r2, r3⟩ := boxed bk (w.heap.size + 1 + 1) (.int .i64 0) (.int .i64 0) (by simp [go_sem]) (by simp [go_sem]) (by simp [go_sem]) (by simp [go_sem]); have bel1 := bT (bA3 _ _ _ _) bk))
    simp [bodyPost, results, Tryd.results18, go_sem, r0', r1']
    exact ⟨rfl, (bel2.setCell (by simp; omega) _).setCell (by simp; omega) _⟩
  rw [if_pos ⟨rfl, rfl, h3⟩]
  have h3' : (cb == 0) = false := by simp; exact h3
  obtain ⟨u, hu⟩ : ∃ u, ca.tmod cb = u := ⟨_, rfl⟩
  rw [hu]
  have hub' : -1000000000000000 < u ∧ u < 1000000000000000 := by
    have e := Int.natAbs_tmod ca cb
    rw [hu] at e
    have := Nat.mod_le ca.natAbs cb.natAbs
    omega
  obtain ⟨hu0, hu1⟩ := hub'
  go_enter Tryd.func18, Tryd.ntmps18
  go_wp2_with (go_at_call 9; refine (is_c (by first | exact ia | exact ib) _).mono ?_; rintro e wk ⟨rfl, bk⟩; first | (obtain ⟨p0', p1', p2', p3'⟩ := boxed bk _ _ _ p0 p1 p2 p3; obtain ⟨q0', q1', q2', q3'⟩ := boxed bk _ _ _ q0 q1 q2 q3; obtain ⟨r0', r1', r2', r3'⟩ := boxed bk _ _ _ r0 r1 r2 r3; have bel2 := bT bel1 bk) | (obtain ⟨p0, p1, p2, p3⟩ := boxed bk w.heap.size (.int .i64 ca) (.int .i64 0) (by simp [go_sem]) (by simp [go_sem]) (by simp [go_sem]) (by simp [go_sem]); obtain ⟨q0, q1, q2, q3⟩ := boxed bk (w.heap.size + 1) (.int .i64 cb) (.int .i64 0) (by simp [go_sem]) (by simp [go_sem]) (by simp [go_sem]) (by simp [go_sem]); obtain ⟨r0, r1, r2, r3⟩ := boxed bk (w.heap.size + 1 + 1) (.int .i64 0) (.int .i64 0) (by simp [go_sem]) (by simp [go_sem]) (by simp [go_sem]) (by simp [go_sem]); have bel1 := bT (bA3 _ _ _ _) bk))
  simp [bodyPost, results, Tryd.results18, go_sem, r0', r1']
  exact ⟨rfl, (bel2.setCell (by simp; omega) _).setCell (by simp; omega) _⟩
set_option maxRecDepth 100000 in
set_option maxHeartbeats 4000000 in
theorem whole_any (ca sa : Int) (w : World) :
    Calls Tryd.prog 21 #[nv ca sa] w fun e w' => e = .returned (if isB ca sa = true ∧ sa = 0 then .tuple #[.int .i64 ca, .bool true] else .tuple #[.int .i64 0, .bool false]) ∧ Below w.heap.size w w' := by
  unfold nv
  by_cases ia : isB ca sa = true
  case neg =>
    rw [if_neg (fun h => ia h.1)]
    have ia : isB ca sa = false := by simpa using ia
    go_enter Tryd.func21, Tryd.ntmps21
    go_wp2_with (go_at_call 9; refine (is_c ia _).mono ?_; rintro e wk ⟨rfl, bk⟩; obtain ⟨p0, p1, p2, p3⟩ := boxed bk w.heap.size (.int .i64 ca) (.int .i64 sa) (by simp [go_sem]) (by simp [go_sem]) (by simp [go_sem]) (by simp [go_sem]); have bel1 := bT (bA1 _ _) bk)
    go_ret2
    exact ⟨rfl, bel1⟩
  by_cases h1 : sa = 0
  · subst h1
    rw [if_pos ⟨ia, rfl⟩]
    go_enter Tryd.func21, Tryd.ntmps21
    go_wp2_with (go_at_call 9; refine (is_c ia _).mono ?_; rintro e wk ⟨rfl, bk⟩; obtain ⟨p0, p1, p2, p3⟩ := boxed bk w.heap.size (.int .i64 ca) (.int .i64 0) (by simp [go_sem]) (by simp [go_sem]) (by simp [go_sem]) (by simp [go_sem]); have bel1 := bT (bA1 _ _) bk)
    go_ret2
    exact ⟨rfl, bel1⟩
  · rw [if_neg (fun h => h1 h.2)]
    have h1' : (sa != 0) = true := by simp; exact h1
    go_enter Tryd.func21, Tryd.ntmps21
    go_wp2_with (go_at_call 9; refine (is_c ia _).mono ?_; rintro e wk ⟨rfl, bk⟩; obtain ⟨p0, p1, p2, p3⟩ := boxed bk w.heap.size (.int .i64 ca) (.int .i64 sa) (by simp [go_sem]) (by simp [go_sem]) (by simp [go_sem]) (by simp [go_sem]); have bel1 := bT (bA1 _ _) bk)
    go_ret2
    exact ⟨rfl, bel1⟩
end Nm
end Go.Proofs.YtkbmaimocoljeaaDoor
