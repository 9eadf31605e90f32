/- The mathematics of a division of two digits by one (no program in it). -/
import Derived.Test.YtpddkchnogfjkaaDoorProg
namespace Go.Proofs.YtpddkchnogfjkaaDoor
namespace Nm
theorem mul_le_of (a b c : Int) (h : a ≤ b) (hc : 0 ≤ c) : a * c ≤ b * c := Int.mul_le_mul_of_nonneg_right h hc
/-- what q digits of y are, of y's halves -/
theorem qy (q y1 y0 : Int) : q * (y1 * 4294967296 + y0) = q * y1 * 4294967296 + q * y0 := by rw [Int.mul_add, Int.mul_assoc]
theorem succ_mul' (q y : Int) : (q + 1) * y = q * y + y := by rw [Int.add_mul, Int.one_mul]
/-- at the beginning: not below the quotient, at most one above the base -/
theorem dstart {U u y1 y0 : Int} (h1 : 2147483648 ≤ y1) (h0 : 0 ≤ y0) (h0' : y0 < 4294967296) (hu : u < 4294967296) (hU : 0 ≤ U) (hUy : U < y1 * 4294967296 + y0) :
    U * 4294967296 + u < (U / y1 + 1) * (y1 * 4294967296 + y0) ∧ U / y1 ≤ 4294967297 ∧ 0 ≤ U / y1 ∧ U = U / y1 * y1 + U % y1 ∧ 0 ≤ U % y1 ∧ U % y1 < y1 := by
  have e := Int.mul_ediv_add_emod U y1
  have p := Int.emod_nonneg U (show y1 ≠ 0 by omega)
  have p' := Int.emod_lt_of_pos U (show 0 < y1 by omega)
  have p2 : 0 ≤ U / y1 := Int.ediv_nonneg hU (by omega)
  rw [Int.mul_comm y1] at e
  generalize U / y1 = q at *
  generalize U % y1 = r at *
  refine ⟨?_, ?_, p2, e.symm, p, p'⟩
  · rw [succ_mul', qy]
    have : 0 ≤ q * y0 := Int.mul_nonneg p2 h0
    omega
  · rcases Int.lt_or_le 4294967297 q with h | h
    · exfalso
      have := mul_le_of 4294967298 q y1 (by omega) (by omega)
      omega
    · exact h
/-- one less: still not below -/
theorem dgo {U u y1 y0 q r : Int} (h1 : 0 ≤ y1) (h0 : 0 ≤ y0) (hu : u < 4294967296) (hUy : U < y1 * 4294967296 + y0) (e : U = q * y1 + r) (h : 4294967296 ≤ q ∨ 4294967296 * r + u < q * y0) :
    U * 4294967296 + u < (q - 1 + 1) * (y1 * 4294967296 + y0) ∧ U = (q - 1) * y1 + (r + y1) := by
  have e1 : q - 1 + 1 = q := by omega
  rw [e1]
  refine ⟨?_, by rw [Int.sub_mul, Int.one_mul]; omega⟩
  rcases h with h | h
  · have := mul_le_of 4294967296 q (y1 * 4294967296 + y0) h (by omega)
    omega
  · rw [qy]; omega
/-- the test says no: not above -/
theorem dstop {U u y1 y0 q r : Int} (e : U = q * y1 + r) (h : q * y0 ≤ 4294967296 * r + u) : q * (y1 * 4294967296 + y0) ≤ U * 4294967296 + u := by rw [qy]; omega
/-- what is left is too much: not above -/
theorem dbreak {U u y1 y0 q r : Int} (h0 : 0 ≤ y0) (h0' : y0 < 4294967296) (hu : 0 ≤ u) (hq : q ≤ 4294967296) (hr : 4294967296 ≤ r) (e : U = q * y1 + r) : q * (y1 * 4294967296 + y0) ≤ U * 4294967296 + u := by
  have := mul_le_of q 4294967296 y0 hq h0
  rw [qy]; omega
/-- the quotient's digit is a digit -/
theorem dlt {U u y q : Int} (hUy : U < y) (hu : u < 4294967296) (hy : 0 ≤ y) (h : q * y ≤ U * 4294967296 + u) : q < 4294967296 := by
  rcases Int.lt_or_le q 4294967296 with g | g
  · exact g
  · have := mul_le_of 4294967296 q y g hy
    omega
/-- both digits together -/
theorem dboth {X y q1 q0 s : Int} {U u v un : Int} (hs : 0 < s) (hy : 0 < y) (hX : X * s = (U * 4294967296 + u) * 4294967296 + v)
    (h1 : un = U * 4294967296 + u - q1 * (y * s)) (h0 : 0 ≤ un * 4294967296 + v - q0 * (y * s)) (h0' : un * 4294967296 + v - q0 * (y * s) < y * s) :
    q1 * 4294967296 + q0 = X / y ∧ (un * 4294967296 + v - q0 * (y * s)) / s = X % y := by
  have e : X * s = (q1 * 4294967296 + q0) * (y * s) + (un * 4294967296 + v - q0 * (y * s)) := by
    have k : (q1 * 4294967296 + q0) * (y * s) = q1 * (y * s) * 4294967296 + q0 * (y * s) := by rw [Int.add_mul, Int.mul_right_comm]
    rw [hX, h1, k]
    generalize q1 * (y * s) = A
    generalize q0 * (y * s) = C
    omega
  have hd := Int.mul_ediv_add_emod X y
  have hm := Int.emod_nonneg X (show y ≠ 0 by omega)
  have hm' := Int.emod_lt_of_pos X hy
  have hys : 0 < y * s := Int.mul_pos hy hs
  have k1 : (X / y) * (y * s) + (X % y) * s = X * s := by
    rw [← Int.mul_assoc, ← Int.add_mul, Int.mul_comm (X / y), hd]
  have k2 : 0 ≤ (X % y) * s := Int.mul_nonneg hm (by omega)
  have k3 : (X % y) * s < y * s := (Int.mul_lt_mul_right hs).2 hm'
  generalize un * 4294967296 + v - q0 * (y * s) = R at *
  generalize q1 * 4294967296 + q0 = Q at *
  have hQ : Q = X / y := by
    rcases Int.lt_trichotomy Q (X / y) with h | h | h
    · have := mul_le_of (Q + 1) (X / y) (y * s) (by omega) (by omega)
      rw [succ_mul'] at this
      omega
    · exact h
    · have := mul_le_of (X / y + 1) Q (y * s) (by omega) (by omega)
      rw [succ_mul'] at this
      omega
  refine ⟨hQ, ?_⟩
  subst hQ
  have : R = (X % y) * s := by omega
  rw [this, Int.mul_ediv_cancel _ (by omega)]
end Nm
end Go.Proofs.YtpddkchnogfjkaaDoor
