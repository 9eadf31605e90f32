/- What is added, brought to and taken away again: the mathematics of NumBack. -/
import Derived.Test.YtkamjjkpaampcaaDoorNmBackMath
import Derived.Test.YtkamjjkpaampcaaDoorNmOrdMath
import Derived.Test.YtkamjjkpaampcaaDoorNmCmp
import Derived.Test.YtkamjjkpaampcaaDoorNmDiv
namespace Go.Proofs.YtkamjjkpaampcaaDoor
open Go.RowKit
namespace Nm
theorem strip_add : ∀ (k m n : Nat), strip (m + k) (n * 10 ^ k) = strip m n
  | 0, m, n => by simp
  | k + 1, m, n => by
    rw [← Nat.add_assoc]
    conv => lhs; unfold strip
    rw [if_pos (by rw [Nat.pow_succ, ← Nat.mul_assoc]; exact Nat.mul_mod_left _ _), Nat.pow_succ, ← Nat.mul_assoc, Nat.mul_div_cancel _ (by decide)]
    exact strip_add k m n
theorem hold_add (x : Int) (m k : Nat) : hold (x * ((10 ^ k : Nat) : Int)) (m + k) = hold x m := by
  have hk : (0 : Int) < ((10 ^ k : Nat) : Int) := by have : 0 < 10 ^ k := Nat.pow_pos (by decide); omega
  have e : (x * ((10 ^ k : Nat) : Int)).natAbs = x.natAbs * 10 ^ k := by rw [Int.natAbs_mul]; rfl
  have hs : (x * ((10 ^ k : Nat) : Int) < 0) ↔ x < 0 := by
    constructor
    · intro h
      apply Decidable.byContradiction
      intro h'
      have := Int.mul_nonneg (by omega : 0 ≤ x) (Int.le_of_lt hk)
      omega
    · intro h
      exact Int.mul_neg_of_neg_of_pos h hk
  unfold hold
  rw [e, strip_add]
  simp only [hs]
theorem mx_nat (a b : Nat) : mx (a : Int) (b : Int) = max a b := by unfold mx; omega
theorem mx_swap (a b : Int) : mx b a = mx a b := by unfold mx; rw [Int.max_comm]
theorem add_swap (c0 s0 c1 s1 : Int) : hold (up c1 s1 (mx s1 s0) + up c0 s0 (mx s1 s0)) (mx s1 s0) = hold (up c0 s0 (mx s0 s1) + up c1 s1 (mx s0 s1)) (mx s0 s1) := by
  rw [mx_swap, Int.add_comm]
theorem mul_swap (c0 s0 c1 s1 : Int) : hold (c1 * c0) (s1 + s0).toNat = hold (c0 * c1) (s0 + s1).toNat := by
  rw [Int.mul_comm, Int.add_comm]
theorem cmp_anti (x y : Int) : cmpI x y = -cmpI y x := by
  unfold cmpI
  rcases Int.lt_trichotomy x y with h | h | h
  · rw [if_neg (by omega), if_pos h, if_neg (by omega), if_neg (by omega)]
  · subst h; rw [if_pos rfl]; rfl
  · rw [if_neg (by omega), if_neg (by omega), if_neg (by omega), if_pos h]; rfl
theorem sub_back {c0 s0 c1 s1 c : Int} {t : Nat} (i0 : isB c0 s0 = true) (i1 : isB c1 s1 = true) (h : hold (up c0 s0 (mx s0 s1) + up c1 s1 (mx s0 s1)) (mx s0 s1) = some (c, t)) :
    hold (up c t (mx t s1) - up c1 s1 (mx t s1)) (mx t s1) = some (c0, s0.toNat) := by
  obtain ⟨_, ht, hx⟩ := hold_ok h
  clear h
  obtain ⟨a, rfl⟩ := Int.eq_ofNat_of_zero_le (isB_iff.1 i0).1.1
  obtain ⟨b, rfl⟩ := Int.eq_ofNat_of_zero_le (isB_iff.1 i1).1.1
  rw [mx_nat] at ht hx
  rw [mx_nat]
  unfold up at hx ⊢
  simp only [Int.toNat_natCast] at hx ⊢
  obtain ⟨m, hm⟩ : ∃ m, max a b = m := ⟨_, rfl⟩
  obtain ⟨M, hM⟩ : ∃ M, max t b = M := ⟨_, rfl⟩
  rw [hm] at ht hx
  rw [hM, ← hold_add _ M (m - M), show M + (m - M) = m by omega, Int.sub_mul, Int.mul_assoc, Int.mul_assoc, ← Int.natCast_mul, ← Int.natCast_mul, ← Nat.pow_add, ← Nat.pow_add,
    show M - t + (m - M) = m - t by omega, show M - b + (m - M) = m - b by omega, ← hx, Int.add_sub_cancel]
  have e := hold_add c0 a (m - a)
  rw [show a + (m - a) = m by omega] at e
  rw [e]
  exact hold_can i0
theorem div_back {c0 s0 c1 s1 c : Int} {t : Nat} (i0 : isB c0 s0 = true) (i1 : isB c1 s1 = true) (hy : c1 ≠ 0) (h : hold (c0 * c1) (s0 + s1).toNat = some (c, t)) :
    divO c t c1 s1 = some (c0, s0.toNat) := by
  obtain ⟨hi, ht, hx⟩ := hold_ok h
  clear h
  have h9 := (isB_iff.1 i0).1.2
  obtain ⟨a, rfl⟩ := Int.eq_ofNat_of_zero_le (isB_iff.1 i0).1.1
  obtain ⟨b, rfl⟩ := Int.eq_ofNat_of_zero_le (isB_iff.1 i1).1.1
  have hab : ((a : Int) + (b : Int)).toNat = a + b := by omega
  rw [hab] at ht hx
  have ek : (9 + (b : Int) - (t : Int)).toNat = (a + b - t) + (9 - a) := by omega
  have key : c * ((10 ^ ((a + b - t) + (9 - a)) : Nat) : Int) = (c0 * ((10 ^ (9 - a) : Nat) : Int)) * c1 := by
    rw [Nat.pow_add, Int.natCast_mul, ← Int.mul_assoc, ← hx, Int.mul_right_comm]
  unfold divO
  rw [if_neg hy, ek, key, if_pos (Int.mul_emod_left _ _), Int.mul_ediv_cancel _ hy]
  have e := hold_add c0 a (9 - a)
  rw [show a + (9 - a) = 9 by omega] at e
  rw [e]
  exact hold_can i0
end Nm
end Go.Proofs.YtkamjjkpaampcaaDoor
