/- Floor, of every number that may be. -/
import Derived.Test.YtkbmaimocoljeaaDoorNrDivMath
namespace Go.Proofs.YtkbmaimocoljeaaDoor
open Go.RowKit
namespace Nm
theorem bQ {w a : World} (h : Below w.heap.size w a) (n : Nat) : Below w.heap.size w (a.drewN n) := bN h n
/-- the greatest whole number that isn't above -/
def flo (c s : Int) : Int := c / ((10 ^ s.toNat : Nat) : Int)
theorem tdiv_flo {c T : Int} (hT : 0 < T) : (0 ≤ c → c.tdiv T = c / T) ∧ (c < 0 → c % T ≠ 0 → c.tdiv T - 1 = c / T) := by
  constructor
  · intro h; exact Int.tdiv_eq_ediv_of_nonneg h
  · intro h h2
    have e1 := Int.neg_tdiv (a := c) (b := T)
    rw [Int.tdiv_eq_ediv_of_nonneg (show 0 ≤ -c by omega)] at e1
    have e3 := Int.mul_ediv_add_emod c T
    have e4 := Int.mul_ediv_add_emod (-c) T
    have e5 := Int.emod_nonneg c (show T ≠ 0 by omega)
    have e6 := Int.emod_lt_of_pos c hT
    have e7 := Int.emod_nonneg (-c) (show T ≠ 0 by omega)
    have e8 := Int.emod_lt_of_pos (-c) hT
    obtain ⟨u, hu⟩ : ∃ u, c / T = u := ⟨_, rfl⟩
    obtain ⟨v, hv⟩ : ∃ v, -c / T = v := ⟨_, rfl⟩
    rw [hu] at e3 ⊢
    rw [hv] at e1 e4
    have e9 : T * (u + v) = T * u + T * v := Int.mul_add _ _ _
    have hlo : T * (u + v) < 0 := by omega
    have hhi : -(2 * T) < T * (u + v) := by omega
    have h10 : u + v < 0 := Decidable.byContradiction fun g => by
      have := Int.mul_nonneg (Int.le_of_lt hT) (show 0 ≤ u + v by omega)
      omega
    have h11 : -2 < u + v := Decidable.byContradiction fun g => by
      have := Int.mul_le_mul_of_nonneg_left (show u + v ≤ -2 by omega) (Int.le_of_lt hT)
      omega
    omega
theorem ten_dvd {c : Int} {n : Nat} (hn : 0 < n) (h : c.tmod 10 ≠ 0) : c % ((10 ^ n : Nat) : Int) ≠ 0 := by
  intro h0
  obtain ⟨k, rfl⟩ : ∃ k, n = k + 1 := ⟨n - 1, by omega⟩
  obtain ⟨j, hj⟩ := Int.dvd_of_emod_eq_zero h0
  apply h
  rw [hj, Nat.pow_succ, Int.natCast_mul, Int.mul_assoc, Int.mul_left_comm]
  exact Int.mul_tmod_right _ _
set_option maxRecDepth 100000 in
set_option maxHeartbeats 4000000 in
theorem floor_any (ca sa : Int) (w : World) (ia : isB ca sa = true) :
    Calls Tryd.prog 19 #[.agg #[.int .i64 ca, .int .i64 sa]] w fun e w' => e = .returned (nv (flo ca sa) 0) ∧ Below w.heap.size w w' := by
  have hi := isB_iff.1 ia
  obtain ⟨n, rfl⟩ := Int.eq_ofNat_of_zero_le hi.1.1
  have hn9 : n ≤ 9 := by omega
  have hT1 := tenI n (by omega)
  obtain ⟨T, hT⟩ : ∃ T : Int, ((10 ^ n : Nat) : Int) = T := ⟨_, rfl⟩
  rw [hT] at hT1
  have ht : Ten (n : Int) T := ⟨n, by omega, rfl, hT⟩
  have htq : ∀ w, Calls Tryd.prog 34 #[.int .i64 (n : Int)] w fun e w' => e = .returned (.int .i64 T) ∧ w' = w := fun w => (ten_c ht w).mono fun _ _ h => ⟨h.1, h.2.symm⟩
  have htd := tdiv_flo (c := ca) (T := T) (by omega)
  obtain ⟨Q, hQ⟩ : ∃ Q, ca.tdiv T = Q := ⟨_, rfl⟩
  rw [hQ] at htd
  have hQb : -1000000000000000 ≤ Q ∧ Q ≤ 1000000000000000 := by
    have h1 := Int.natAbs_tdiv ca T
    rw [hQ] at h1
    have h2 : ca.natAbs.div T.natAbs ≤ ca.natAbs := Nat.div_le_self _ _
    omega
  obtain ⟨hQ0, hQ1⟩ := hQb
  have hwQ : IntKind.i64.wrap Q = Q := wrapS _ (by omega) (by omega)
  have hT0 : (T == 0) = false := by simp; omega
  have hTn : T ≠ 0 := by omega
  by_cases hs : n = 0
  · have HF : Hid (flo ca (n : Int) = Q) := Lib.hid (by
      have e : T = 1 := by rw [← hT, hs]; rfl
      unfold flo
      rw [show ((n : Int)).toNat = n by omega, hT, ← hQ, e, Int.tdiv_one]; omega)
    have hs1 : ¬ 0 < n := by omega
    clear hT hT1 hi htd hs
    go_enter Tryd.func19, Tryd.ntmps19
    go_wp2_with (go_at_call 9; refine (is_c ia _).mono ?_; rintro e w1 ⟨rfl, b1⟩; obtain ⟨p0, p1, p2, p3⟩ := boxed b1 w.heap.size (.int .i64 ca) (.int .i64 (n : Int)) (by simp [go_sem]) (by simp [go_sem]) (by simp [go_sem]) (by simp [go_sem]); obtain ⟨r0, r1, r2, r3⟩ := boxed b1 (w.heap.size + 1) (.int .i64 0) (.int .i64 0) (by simp [go_sem]) (by simp [go_sem]) (by simp [go_sem]) (by simp [go_sem]); have bel := bT (bA2 _ _ _) b1; clear b1)
    go_quiet ((go_at_call 34; exact Calls.quiet_of_same (htq _)))
    go_wp2
    obtain ⟨z0, z1, _, _⟩ := Bx.put (a := w1.drewN nq) (k := w.heap.size + 1) (x := .int .i64 0) (y := .int .i64 0) ⟨r0, r1, r2, r3⟩ (.int .i64 (Q)) (.int .i64 0)
    clear r0 r1
    simp [bodyPost, results, Tryd.results19, go_sem, z0, z1]
    exact ⟨by rw [HF.out]; rfl, ((bQ bel _).setCell (by simp) _).setCell (by simp) _⟩
  have hn0 : 0 < n := by omega
  have hmod := ten_dvd (c := ca) hn0 (by rcases hi.2.2 with h | h; omega; exact h)
  rw [hT] at hmod
  by_cases hc : ca < 0
  · have HF : Hid (flo ca (n : Int) = Q - 1) := Lib.hid (by
      unfold flo
      rw [show ((n : Int)).toNat = n by omega, hT]
      exact (htd.2 hc hmod).symm)
    clear hT hT1 hi htd hmod
    go_enter Tryd.func19, Tryd.ntmps19
    go_wp2_with (go_at_call 9; refine (is_c ia _).mono ?_; rintro e w1 ⟨rfl, b1⟩; obtain ⟨p0, p1, p2, p3⟩ := boxed b1 w.heap.size (.int .i64 ca) (.int .i64 (n : Int)) (by simp [go_sem]) (by simp [go_sem]) (by simp [go_sem]) (by simp [go_sem]); obtain ⟨r0, r1, r2, r3⟩ := boxed b1 (w.heap.size + 1) (.int .i64 0) (.int .i64 0) (by simp [go_sem]) (by simp [go_sem]) (by simp [go_sem]) (by simp [go_sem]); have bel := bT (bA2 _ _ _) b1; clear b1)
    go_quiet ((go_at_call 34; exact Calls.quiet_of_same (htq _)))
    go_wp2
    obtain ⟨z0, z1, _, _⟩ := Bx.put (a := w1.drewN nq) (k := w.heap.size + 1) (x := .int .i64 0) (y := .int .i64 0) ⟨r0, r1, r2, r3⟩ (.int .i64 (Q - 1)) (.int .i64 0)
    clear r0 r1
    simp [bodyPost, results, Tryd.results19, go_sem, z0, z1]
    exact ⟨by rw [HF.out]; rfl, ((bQ bel _).setCell (by simp) _).setCell (by simp) _⟩
  · have HF : Hid (flo ca (n : Int) = Q) := Lib.hid (by
      unfold flo
      rw [show ((n : Int)).toNat = n by omega, hT]
      exact (htd.1 (by omega)).symm)
    clear hT hT1 hi htd hmod
    go_enter Tryd.func19, Tryd.ntmps19
    go_wp2_with (go_at_call 9; refine (is_c ia _).mono ?_; rintro e w1 ⟨rfl, b1⟩; obtain ⟨p0, p1, p2, p3⟩ := boxed b1 w.heap.size (.int .i64 ca) (.int .i64 (n : Int)) (by simp [go_sem]) (by simp [go_sem]) (by simp [go_sem]) (by simp [go_sem]); obtain ⟨r0, r1, r2, r3⟩ := boxed b1 (w.heap.size + 1) (.int .i64 0) (.int .i64 0) (by simp [go_sem]) (by simp [go_sem]) (by simp [go_sem]) (by simp [go_sem]); have bel := bT (bA2 _ _ _) b1; clear b1)
    go_quiet ((go_at_call 34; exact Calls.quiet_of_same (htq _)))
    go_wp2
    obtain ⟨z0, z1, _, _⟩ := Bx.put (a := w1.drewN nq) (k := w.heap.size + 1) (x := .int .i64 0) (y := .int .i64 0) ⟨r0, r1, r2, r3⟩ (.int .i64 (Q)) (.int .i64 0)
    clear r0 r1
    simp [bodyPost, results, Tryd.results19, go_sem, z0, z1]
    exact ⟨by rw [HF.out]; rfl, ((bQ bel _).setCell (by simp) _).setCell (by simp) _⟩
end Nm
end Go.Proofs.YtkbmaimocoljeaaDoor
