/- The order of numbers: all at one scale; what a sum that is held is (no walk in it). -/
import Derived.Test.YtpddkchnogfjkaaGreatDoorNmCmp
namespace Go.Proofs.YtpddkchnogfjkaaGreatDoor
open Go.RowKit
namespace Nm
theorem up_up {c s : Int} {m : Nat} (hs : s ≤ m) (hm : m ≤ 9) : up c s 9 = up c s m * ((10 ^ (9 - m) : Nat) : Int) := by
  unfold up
  rw [Int.mul_assoc, ← Int.natCast_mul, ← Nat.pow_add]
  congr 3
  omega
theorem mul_ltI {a b k : Int} (hk : 0 < k) : a * k < b * k ↔ a < b := Int.mul_lt_mul_right hk
theorem mul_eqI {a b k : Int} (hk : 0 < k) : a * k = b * k ↔ a = b := Int.mul_eq_mul_right_iff (by omega)
theorem cmp_scale {x y k : Int} (hk : 0 < k) : cmpI (x * k) (y * k) = cmpI x y := by
  unfold cmpI
  by_cases h : x = y
  · rw [if_pos h, if_pos (by rw [h])]
  · rw [if_neg h, if_neg (fun e => h ((mul_eqI hk).1 e))]
    by_cases h2 : x < y
    · rw [if_pos h2, if_pos ((mul_ltI hk).2 h2)]
    · rw [if_neg h2, if_neg (fun e => h2 ((mul_ltI hk).1 e))]
theorem mx_le {ca sa cb sb : Int} (ia : isB ca sa = true) (ib : isB cb sb = true) : sa ≤ mx sa sb ∧ sb ≤ mx sa sb ∧ mx sa sb ≤ 9 := by
  rw [isB_iff] at ia ib
  unfold mx; omega
theorem cmp_nine {ca sa cb sb : Int} (ia : isB ca sa = true) (ib : isB cb sb = true) : cmpI (up ca sa (mx sa sb)) (up cb sb (mx sa sb)) = cmpI (up ca sa 9) (up cb sb 9) := by
  obtain ⟨h1, h2, h3⟩ := mx_le ia ib
  rw [up_up h1 h3, up_up h2 h3]
  exact (cmp_scale (by have : 0 < 10 ^ (9 - mx sa sb) := Nat.pow_pos (by decide); omega)).symm
theorem cmp_form (x y : Int) : cmpI x y = -1 ∧ x < y ∨ cmpI x y = 0 ∧ x = y ∨ cmpI x y = 1 ∧ y < x := by
  unfold cmpI
  by_cases h : x = y
  · simp [h]
  · by_cases h2 : x < y
    · simp [h, h2]
    · simp [h, h2]; omega
theorem canon1 {ca sa cb sb : Int} (ia : isB ca sa = true) (ib : isB cb sb = true) (h : up ca sa 9 = up cb sb 9) (hl : sa < sb) : False := by
  rw [isB_iff] at ia ib
  obtain ⟨a, rfl⟩ := Int.eq_ofNat_of_zero_le ia.1.1
  obtain ⟨b, rfl⟩ := Int.eq_ofNat_of_zero_le ib.1.1
  unfold up at h
  have e : 9 - a = (b - a - 1) + 1 + (9 - b) := by omega
  rw [show (9 - ((a : Nat) : Int).toNat) = 9 - a by omega, show (9 - ((b : Nat) : Int).toNat) = 9 - b by omega, e, Nat.pow_add, Int.natCast_mul, ← Int.mul_assoc] at h
  have hk : (0 : Int) < ((10 ^ (9 - b) : Nat) : Int) := by have : 0 < 10 ^ (9 - b) := Nat.pow_pos (by decide); omega
  have h2 := (mul_eqI hk).1 h
  rw [Nat.pow_succ, Int.natCast_mul, ← Int.mul_assoc] at h2
  have h3 : cb.tmod 10 = 0 := by
    rw [← h2]
    exact Int.mul_tmod_left _ _
  omega
theorem canon {ca sa cb sb : Int} (ia : isB ca sa = true) (ib : isB cb sb = true) (h : up ca sa 9 = up cb sb 9) : ca = cb ∧ sa = sb := by
  rcases Int.lt_trichotomy sa sb with g | g | g
  · exact (canon1 ia ib h g).elim
  · subst g
    unfold up at h
    have hk : (0 : Int) < ((10 ^ (9 - sa.toNat) : Nat) : Int) := by have : 0 < 10 ^ (9 - sa.toNat) := Nat.pow_pos (by decide); omega
    exact ⟨(mul_eqI hk).1 h, rfl⟩
  · exact (canon1 ib ia h.symm g).elim
theorem strip_spec : ∀ (s c : Nat), (strip s c).2 ≤ s ∧ c = (strip s c).1 * 10 ^ (s - (strip s c).2) ∧ ((strip s c).2 = 0 ∨ (strip s c).1 % 10 ≠ 0)
  | 0, c => by simp [strip]
  | s + 1, c => by
    unfold strip
    by_cases h : c % 10 = 0
    · rw [if_pos h]
      obtain ⟨h1, h2, h3⟩ := strip_spec s (c / 10)
      refine ⟨by omega, ?_, h3⟩
      have e : s + 1 - (strip s (c / 10)).2 = (s - (strip s (c / 10)).2) + 1 := by omega
      rw [e, Nat.pow_succ, ← Nat.mul_assoc, ← h2]
      omega
    · rw [if_neg h]
      exact ⟨Nat.le_refl _, by simp, Or.inr h⟩
theorem hold_ok {x : Int} {s : Nat} {c : Int} {t : Nat} (h : hold x s = some (c, t)) : isB c t = true ∧ t ≤ s ∧ x = c * ((10 ^ (s - t) : Nat) : Int) := by
  unfold hold at h
  obtain ⟨h1, h2, h3⟩ := strip_spec s x.natAbs
  generalize strip s x.natAbs = p at *
  obtain ⟨u, v⟩ := p
  simp only at *
  split at h
  · simp at h
  · rename_i hn
    simp only [Option.some.injEq, Prod.mk.injEq] at h
    obtain ⟨hc, rfl⟩ := h
    have hz : (10 : Int) ∣ c ↔ u % 10 = 0 := by rw [← hc]; split <;> omega
    refine ⟨isB_iff.2 ⟨by omega, by split at hc <;> omega, ?_⟩, h1, ?_⟩
    · rcases h3 with h3 | h3
      · exact Or.inl (by omega)
      · exact Or.inr (fun e => h3 (hz.1 (Int.dvd_of_tmod_eq_zero e)))
    · have hx : (x.natAbs : Int) = (u : Int) * ((10 ^ (s - v) : Nat) : Int) := by rw [← Int.natCast_mul, ← h2]
      rw [← hc]
      split
      · rw [Int.neg_mul, ← hx]; omega
      · rw [← hx]; omega
theorem hold_sign {x : Int} {s : Nat} {c : Int} {t : Nat} (h : hold x s = some (c, t)) : cmpI c 0 = cmpI x 0 := by
  obtain ⟨_, _, h3⟩ := hold_ok h
  have hk : (0 : Int) < ((10 ^ (s - t) : Nat) : Int) := by have : 0 < 10 ^ (s - t) := Nat.pow_pos (by decide); omega
  have := cmp_scale (x := c) (y := 0) hk
  rw [Int.zero_mul, ← h3] at this
  exact this.symm
theorem up_zero (m : Nat) : up 0 0 m = 0 := by unfold up; simp
theorem up_self {c : Int} {t : Nat} : up c t (mx t 0) = c := by
  unfold up mx
  rw [show (max (t : Int) 0).toNat - ((t : Nat) : Int).toNat = 0 by omega]
  simp
theorem cmp_sub (x y : Int) : cmpI (x - y) 0 = cmpI x y := by
  unfold cmpI
  by_cases h : x = y
  · rw [if_pos h, if_pos (by omega)]
  · rw [if_neg h, if_neg (by omega)]
    by_cases h2 : x < y
    · rw [if_pos h2, if_pos (by omega)]
    · rw [if_neg h2, if_neg (by omega)]
end Nm
end Go.Proofs.YtpddkchnogfjkaaGreatDoor
