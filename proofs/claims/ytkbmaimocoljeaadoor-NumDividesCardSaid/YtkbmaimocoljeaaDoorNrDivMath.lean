/- Quotients digit by digit are the program's (no walk in it). -/
import Derived.Test.YtkbmaimocoljeaaDoorNrAdd
import Derived.Test.YtkbmaimocoljeaaDoorNmOrdMath
namespace Go.Proofs.YtkbmaimocoljeaaDoor
open Go.RowKit
namespace Nm
theorem strip_ten (s k : Nat) : strip (s + 1) (10 * k) = strip s k := by
  unfold strip
  rw [if_pos (Nat.mul_mod_right 10 k), Nat.mul_div_cancel_left _ (by decide)]
  cases s <;> rfl
theorem sg_neg_iff (b : Bool) (n : Nat) : sg b n < 0 ↔ b = true ∧ n ≠ 0 := by
  unfold sg
  cases b <;> simp <;> omega
theorem hold_ten (b : Bool) (k : Nat) : hold (sg b (10 * k)) 10 = hold (sg b k) 9 := by
  unfold hold
  rw [abs_sg, abs_sg, strip_ten]
  have e : (sg b (10 * k) < 0) ↔ (sg b k < 0) := by
    rw [sg_neg_iff, sg_neg_iff]
    exact ⟨fun ⟨h1, h2⟩ => ⟨h1, by omega⟩, fun ⟨h1, h2⟩ => ⟨h1, by omega⟩⟩
  by_cases h : sg b k < 0
  · rw [if_pos (e.2 h), if_pos h]
  · rw [if_neg (fun g => h (e.1 g)), if_neg h]
theorem hold_no {b : Bool} {q : Nat} (h : q % 10 ≠ 0) : hold (sg b q) 10 = none := by
  unfold hold
  rw [abs_sg, strip_end (Or.inr h), if_pos (Or.inl (show 9 < 10 by decide))]
theorem sg_inj {b c : Bool} {n : Nat} (h : sg b n = sg c n) (hn : n ≠ 0) : b = c := by
  unfold sg at h
  cases b <;> cases c <;> simp at h ⊢ <;> omega
theorem sg_mulI (a b : Int) : sg (decide (a < 0) != decide (b < 0)) (a.natAbs * b.natAbs) = a * b := by
  have h : ((a.natAbs * b.natAbs : Nat) : Int) = ((a * b).natAbs : Int) := by rw [Int.natAbs_mul]
  unfold sg
  rw [h]
  by_cases ha : a < 0 <;> by_cases hb : b < 0
  · have := Int.mul_pos_of_neg_of_neg ha hb
    rw [decide_eq_true ha, decide_eq_true hb, if_neg (by simp)]; omega
  · have := Int.mul_nonpos_of_nonpos_of_nonneg (Int.le_of_lt ha) (show 0 ≤ b by omega)
    rw [decide_eq_true ha, decide_eq_false hb, if_pos (by simp)]; omega
  · have := Int.mul_nonpos_of_nonneg_of_nonpos (show 0 ≤ a by omega) (Int.le_of_lt hb)
    rw [decide_eq_false ha, decide_eq_true hb, if_pos (by simp)]; omega
  · have := Int.mul_nonneg (show 0 ≤ a by omega) (show 0 ≤ b by omega)
    rw [decide_eq_false ha, decide_eq_false hb, if_neg (by simp)]; omega
/-- a whole quotient by its size and sign -/
theorem quo_sg {x y j : Int} (h : x = y * j) (hy : y ≠ 0) : j = sg (decide (x < 0) != decide (y < 0)) j.natAbs := by
  by_cases hj : j = 0
  · subst hj; unfold sg; split <;> rfl
  · have e1 := sg_mulI y j
    have e2 := sg_of x
    rw [← h] at e1
    have e3 : x.natAbs = y.natAbs * j.natAbs := by rw [h, Int.natAbs_mul]
    rw [e3] at e2
    have hn : y.natAbs * j.natAbs ≠ 0 := Nat.mul_ne_zero (by omega) (by omega)
    have e4 := sg_inj (e1.trans e2.symm) hn
    have e5 : (decide (x < 0) != decide (y < 0)) = decide (j < 0) := by
      rw [← e4]
      cases decide (y < 0) <;> cases decide (j < 0) <;> rfl
    rw [e5, sg_of]
theorem up_abs (c s : Int) (m : Nat) : (up c s m).natAbs = c.natAbs * 10 ^ (m - s.toNat) := by
  unfold up
  rw [Int.natAbs_mul, Int.natAbs_natCast]
theorem up_sign (c s : Int) (m : Nat) : decide (up c s m < 0) = decide (c < 0) := by
  have hp : 0 < ((10 ^ (m - s.toNat) : Nat) : Int) := by
    have : 0 < 10 ^ (m - s.toNat) := Nat.pow_pos (by decide)
    omega
  unfold up
  rw [Bool.eq_iff_iff, decide_eq_true_iff, decide_eq_true_iff]
  constructor
  · intro h
    refine Decidable.byContradiction fun g => ?_
    have := Int.mul_nonneg (show 0 ≤ c by omega) (Int.le_of_lt hp)
    omega
  · intro h; exact Int.mul_neg_of_neg_of_pos h hp
theorem pw {a b c : Nat} (h : a + 10 = 1 + (b + c)) : 10 ^ a * 10 ^ 10 = 10 * (10 ^ b * 10 ^ c) := by
  rw [← Nat.pow_add, h, Nat.pow_add, Nat.pow_add, Nat.pow_one]
theorem mul_4 (c x y z p : Nat) (h : x * y = 10 * (z * p)) : c * x * y = (10 * (c * z)) * p := by
  rw [Nat.mul_assoc, h, Nat.mul_left_comm, ← Nat.mul_assoc c z p, ← Nat.mul_assoc]
theorem div_same (ca sa cb sb : Int) (m Q R : Nat) (ia : isB ca sa = true) (ib : isB cb sb = true) (hb : cb ≠ 0) (hmx : mx sa sb = m)
    (hQ : (up ca sa m).natAbs * 10 ^ 10 / (up cb sb m).natAbs = Q) (hR : (up ca sa m).natAbs * 10 ^ 10 % (up cb sb m).natAbs = R) :
    (R ≠ 0 → divO ca sa cb sb = none) ∧ (R = 0 → hold (sg (decide (up ca sa m < 0) != decide (up cb sb m < 0)) Q) 10 = divO ca sa cb sb) := by
  have ha1 := isB_iff.1 ia
  have hb1 := isB_iff.1 ib
  have hm : (m : Int) = max sa sb := by rw [← hmx]; unfold mx; omega
  have hP : 0 < 10 ^ (m - sb.toNat) := Nat.pow_pos (by decide)
  have eX : (up ca sa m).natAbs * 10 ^ 10 = (10 * (ca.natAbs * 10 ^ (9 + sb - sa).toNat)) * 10 ^ (m - sb.toNat) := by
    rw [up_abs]
    exact mul_4 _ _ _ _ _ (pw (by omega))
  have eY : (up cb sb m).natAbs = cb.natAbs * 10 ^ (m - sb.toNat) := up_abs _ _ _
  obtain ⟨A, hA⟩ : ∃ A, ca.natAbs * 10 ^ (9 + sb - sa).toNat = A := ⟨_, rfl⟩
  rw [hA] at eX
  have eQ : Q = 10 * A / cb.natAbs := by rw [← hQ, eX, eY, Nat.mul_div_mul_right _ _ hP]
  have eR : R = (10 * A % cb.natAbs) * 10 ^ (m - sb.toNat) := by rw [← hR, eX, eY, Nat.mul_mod_mul_right]
  have hcb : 0 < cb.natAbs := by omega
  have eA : (ca * ((10 ^ (9 + sb - sa).toNat : Nat) : Int)).natAbs = A := by rw [Int.natAbs_mul, Int.natAbs_natCast, hA]
  have sX : decide (ca * ((10 ^ (9 + sb - sa).toNat : Nat) : Int) < 0) = decide (ca < 0) := by
    have := up_sign ca 0 (9 + sb - sa).toNat
    unfold up at this
    simpa using this
  unfold divO
  rw [if_neg hb]
  by_cases hd : cb.natAbs ∣ A
  · obtain ⟨k, hk⟩ := hd
    have hdv : cb ∣ ca * ((10 ^ (9 + sb - sa).toNat : Nat) : Int) := by
      rw [← Int.natAbs_dvd_natAbs, eA]; exact ⟨k, hk⟩
    obtain ⟨j, hj⟩ := hdv
    have hjk : j.natAbs = k := by
      have h := congrArg Int.natAbs hj
      rw [eA, Int.natAbs_mul, hk] at h
      exact Nat.eq_of_mul_eq_mul_left hcb h.symm
    have eR0 : R = 0 := by rw [eR, hk, show 10 * (cb.natAbs * k) = cb.natAbs * (10 * k) by rw [Nat.mul_left_comm], Nat.mul_mod_right]; simp
    have eQ0 : Q = 10 * k := by rw [eQ, hk, show 10 * (cb.natAbs * k) = cb.natAbs * (10 * k) by rw [Nat.mul_left_comm], Nat.mul_div_cancel_left _ hcb]
    refine ⟨fun h => absurd eR0 h, fun _ => ?_⟩
    rw [hj, if_pos (Int.mul_emod_right _ _), Int.mul_ediv_cancel_left _ hb, eQ0, hold_ten, up_sign, up_sign, ← sX]
    have := quo_sg hj hb
    rw [hjk] at this
    rw [← this]
  · have hnd : ¬ (ca * ((10 ^ (9 + sb - sa).toNat : Nat) : Int)) % cb = 0 := by
      intro h
      have h2 := Int.dvd_of_emod_eq_zero h
      rw [← Int.natAbs_dvd_natAbs, eA] at h2
      exact hd h2
    rw [if_neg hnd]
    refine ⟨fun _ => rfl, fun h => hold_no (fun h10 => hd ?_)⟩
    have hr0 : 10 * A % cb.natAbs = 0 := by
      rw [eR] at h
      rcases Nat.mul_eq_zero.1 h with h | h
      · exact h
      · omega
    have hq : cb.natAbs * Q = 10 * A := by
      have := Nat.div_add_mod (10 * A) cb.natAbs
      rw [hr0, ← eQ] at this
      omega
    refine ⟨Q / 10, ?_⟩
    have hq10 : Q = 10 * (Q / 10) := by omega
    rw [hq10, Nat.mul_left_comm] at hq
    omega
end Nm
end Go.Proofs.YtkbmaimocoljeaaDoor
