/- Products, quotients by 64 bits, powers of ten, and which numbers may be. -/
import Derived.Test.YtpddkchnogfjkaaDoorNmDiv64
namespace Go.Proofs.YtpddkchnogfjkaaDoor
open Go.RowKit
namespace Nm
theorem bD {B : Nat} {a b : World} (h : Below B a b) (n : Nat) : Below B a (b.drewN n) := h.trans ⟨rfl, rfl, rfl, Nat.le_refl _, fun _ _ => rfl⟩
set_option maxRecDepth 100000 in
set_option maxHeartbeats 1000000 in
theorem product_any (a b : Int) (w : World) (a0 : -9223372036854775808 ≤ a) (a1 : a < 9223372036854775808) (b0 : -9223372036854775808 ≤ b) (b1 : b < 9223372036854775808) :
    Calls Tryd.prog 44 #[.int .i64 a, .int .i64 b] w fun e w' => e = .returned (wd (a * b)) ∧ Below w.heap.size w w' := by
  have hm := fun w => Tryd.bits_Mul64 a.natAbs b.natAbs (by omega) (by omega) w
  have hg := fun w => negated_wd ((a.natAbs * b.natAbs : Nat) : Int) w
  have hX : ((a.natAbs * b.natAbs : Nat) : Int) = if (a < 0) = (b < 0) then a * b else -(a * b) := by
    rw [Int.natCast_mul]
    rcases Int.lt_or_le a 0 with h | h <;> rcases Int.lt_or_le b 0 with h' | h'
    · rw [if_pos (by simp [h, h']), show ((a.natAbs : Nat) : Int) = -a by omega, show ((b.natAbs : Nat) : Int) = -b by omega, Int.neg_mul_neg]
    · rw [if_neg (by simp [h]; omega), show ((a.natAbs : Nat) : Int) = -a by omega, show ((b.natAbs : Nat) : Int) = b by omega, Int.neg_mul]
    · rw [if_neg (by simp [h']; omega), show ((a.natAbs : Nat) : Int) = a by omega, show ((b.natAbs : Nat) : Int) = -b by omega, Int.mul_neg]
    · rw [if_pos (by simp; omega), show ((a.natAbs : Nat) : Int) = a by omega, show ((b.natAbs : Nat) : Int) = b by omega]
  have hL : (a.natAbs * b.natAbs : Nat) < 340282366920938463463374607431768211456 := by
    have := Nat.mul_le_mul (show a.natAbs ≤ 9223372036854775808 by omega) (show b.natAbs ≤ 9223372036854775808 by omega)
    omega
  obtain ⟨p, hp⟩ : ∃ p : Int, ((a.natAbs * b.natAbs / 18446744073709551616 : Nat) : Int) = p := ⟨_, rfl⟩
  obtain ⟨q, hq⟩ : ∃ q : Int, ((a.natAbs * b.natAbs % 18446744073709551616 : Nat) : Int) = q := ⟨_, rfl⟩
  have hw : wd ((a.natAbs * b.natAbs : Nat) : Int) = .agg #[.int .u64 p, .int .u64 q] := (wd_eq (by omega) (by omega)).symm
  rw [hw] at hg
  rw [hp, hq] at hm
  generalize (a.natAbs * b.natAbs : Nat) = N at *
  clear hp hq hL
  by_cases hs : (a < 0) = (b < 0)
  · rw [if_pos hs] at hX
    rw [← hX, hw]
    clear hw hX hg
    have hs' : (decide (a < 0) != decide (b < 0)) = false := by simp [hs]
    have hs2 : (decide (a < 0) == decide (b < 0)) = true := by simp [hs]
    clear hs
    go_enter Tryd.func44, Tryd.ntmps44
    go_wp2_with (first | (go_at_call 70; refine (magnitude_any _ _ (by first | exact a0 | exact b0) (by first | exact a1 | exact b1)).mono ?_; rintro e w' ⟨rfl, rfl⟩) | (go_at_call 69; refine (hm _).mono ?_; rintro e w' ⟨rfl, rfl⟩))
    simp [bodyPost, results, Tryd.results44, go_sem]
    exact bA2 _ _ _
  · rw [if_neg hs] at hX
    obtain ⟨v1, v2, hV⟩ := wd_form (a * b)
    rw [show -((N : Nat) : Int) = a * b by omega, hV] at hg
    rw [hV]
    clear hw hX hV
    have hs' : (decide (a < 0) != decide (b < 0)) = true := by simp; exact fun h => hs (propext h)
    have hs2 : (decide (a < 0) == decide (b < 0)) = false := by simp; exact fun h => hs (propext h)
    clear hs
    go_enter Tryd.func44, Tryd.ntmps44
    go_wp2_with (first | (go_at_call 70; refine (magnitude_any _ _ (by first | exact a0 | exact b0) (by first | exact a1 | exact b1)).mono ?_; rintro e w' ⟨rfl, rfl⟩) | (go_at_call 69; refine (hm _).mono ?_; rintro e w' ⟨rfl, rfl⟩) | (go_at_call 71; refine (hg _).mono ?_; rintro e w1 ⟨rfl, b1⟩; obtain ⟨c0, c1, f0, f1⟩ := boxed b1 w.heap.size (.int .u64 0) (.int .u64 0) (by simp [go_sem]) (by simp [go_sem]) (by simp [go_sem]) (by simp [go_sem])))
    simp [bodyPost, results, Tryd.results44, go_sem, c0, c1]
    exact ((bT (bA2 _ _ _) b1).setCell (by simp) _).setCell (by simp) _
set_option maxRecDepth 100000 in
set_option maxHeartbeats 1000000 in
theorem over_any (x d : Int) (w : World) (x0 : 0 ≤ x) (x1 : x < 340282366920938463463374607431768211456) (d0 : 0 < d) (d1 : d < 18446744073709551616) :
    Calls Tryd.prog 67 #[wd x, .int .u64 d] w fun e w' => e = .returned (.tuple #[wd (x / d), .int .u64 (x % d)]) ∧ Below w.heap.size w w' := by
  obtain ⟨a, ha⟩ : ∃ a, x / 18446744073709551616 = a := ⟨_, rfl⟩
  obtain ⟨b, hb⟩ : ∃ b, x % 18446744073709551616 = b := ⟨_, rfl⟩
  have hxw : wd x = .agg #[.int .u64 a, .int .u64 b] := (wd_eq (by omega) (by omega)).symm
  have r0 := Int.emod_nonneg a (show d ≠ 0 by omega)
  have r1 := Int.emod_lt_of_pos a d0
  have a0 : 0 ≤ a := by omega
  have a1 : a < 18446744073709551616 := by omega
  have q0 : 0 ≤ a / d := Int.ediv_nonneg a0 (by omega)
  have q1 : a / d ≤ a := Int.ediv_le_self _ a0
  have hc := fun w => div64_any (a % d) b d w r0 r1 (by omega) (by omega) d0 d1
  have e1 : x = (a % d * 18446744073709551616 + b) + (a / d * 18446744073709551616) * d := by
    have := Int.mul_ediv_add_emod a d
    rw [Int.mul_right_comm, Int.mul_comm (a / d) d]
    omega
  have e2 : x / d = (a % d * 18446744073709551616 + b) / d + a / d * 18446744073709551616 := by
    conv => lhs; rw [e1]
    rw [Int.add_mul_ediv_right _ _ (by omega)]
  have e3 : x % d = (a % d * 18446744073709551616 + b) % d := by
    conv => lhs; rw [e1]
    rw [Int.add_mul_emod_self_right]
  have k0 : 0 ≤ (a % d * 18446744073709551616 + b) / d := Int.ediv_nonneg (by omega) (by omega)
  have k1 : (a % d * 18446744073709551616 + b) / d < 18446744073709551616 := Int.ediv_lt_of_lt_mul d0 (by
    have := mul_le_of (a % d + 1) d 18446744073709551616 (by omega) (by omega)
    rw [Int.mul_comm 18446744073709551616]
    omega)
  have hR : wd (x / d) = .agg #[.int .u64 (a / d), .int .u64 ((a % d * 18446744073709551616 + b) / d)] := (wd_eq (by omega) (by omega)).symm
  rw [hxw, hR, e3]
  generalize (a % d * 18446744073709551616 + b) / d = u at *
  generalize (a % d * 18446744073709551616 + b) % d = v at *
  have hdz : (d == 0) = false := by simp; omega
  clear hxw hR e1 e2 e3 ha hb x0 x1
  go_enter Tryd.func67, Tryd.ntmps67
  go_wp2
  go_quiet (fail)
  go_wp2_with (go_at_call 85; refine (hc _).mono ?_; rintro e w1 ⟨rfl, b1⟩; obtain ⟨c0, c1, f0, f1⟩ := boxed b1 (w.heap.size + 1) (.int .u64 0) (.int .u64 0) (by simp [go_sem]) (by simp [go_sem]) (by simp [go_sem]) (by simp [go_sem]))
  simp [bodyPost, results, Tryd.results67, go_sem, c0, c1]
  exact ((bT (bD (bA2 _ _ _) _) b1).setCell (by simp) _).setCell (by simp) _
end Nm
end Go.Proofs.YtpddkchnogfjkaaDoor
