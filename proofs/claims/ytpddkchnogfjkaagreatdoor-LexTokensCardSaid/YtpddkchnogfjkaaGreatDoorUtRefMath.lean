/- How the document reads one sign, as mathematics. No condition. -/
import Derived.Test.YtpddkchnogfjkaaGreatDoorUtBytes
namespace Go.Proofs.YtpddkchnogfjkaaGreatDoor
namespace Ut
/-- how many bytes the document takes, by the first one -/
def nb (b : Nat) : Nat := if 240 ≤ b then 4 else if 224 ≤ b then 3 else if 192 ≤ b then 2 else 1
def c0 (b : Nat) : Nat := if 240 ≤ b then b - 240 else if 224 ≤ b then b - 224 else if 192 ≤ b then b - 192 else b
/-- what it has reckoned of j bytes -/
def acc (r : List Nat) : Nat → Nat
  | 0 => 0
  | 1 => c0 (r.getD 0 0)
  | j + 2 => 64 * acc r (j + 1) + (r.getD (j + 1) 0 - 128)
theorem acc_succ (r : List Nat) (j : Nat) (h : 1 ≤ j) : acc r (j + 1) = 64 * acc r j + (r.getD j 0 - 128) := by
  match j, h with
  | j + 1, _ => rfl
def Ct (r : List Nat) (j : Nat) : Prop := ∀ i, 1 ≤ i → i < j → 128 ≤ r.getD i 0 ∧ r.getD i 0 ≤ 191
theorem Ct.one (r : List Nat) : Ct r 1 := fun i h1 h2 => by omega
theorem Ct.snoc {r : List Nat} {j : Nat} (h : Ct r j) (h1 : 128 ≤ r.getD j 0) (h2 : r.getD j 0 ≤ 191) : Ct r (j + 1) := by
  intro i a b
  by_cases e : i < j
  · exact h i a e
  · obtain rfl : i = j := by omega
    exact ⟨h1, h2⟩
theorem acc_bd {r : List Nat} {j : Nat} (hb : r.getD 0 0 < 128 ∨ (192 ≤ r.getD 0 0 ∧ r.getD 0 0 < 248)) (h : Ct r j) (h1 : 1 ≤ j) (h2 : j ≤ 4) : acc r j ≤ 100000000 := by
  have a1 : acc r 1 < 128 := by
    show c0 _ < 128
    unfold c0
    split
    · omega
    split
    · omega
    split <;> omega
  have a2 : 2 ≤ j → acc r 2 < 8256 := fun g => by have := h 1 (by omega) (by omega); rw [acc_succ r 1 (by omega)]; omega
  have a3 : 3 ≤ j → acc r 3 < 528448 := fun g => by have := h 2 (by omega) (by omega); have := a2 (by omega); rw [acc_succ r 2 (by omega)]; omega
  have a4 : 4 ≤ j → acc r 4 < 33820736 := fun g => by have := h 3 (by omega) (by omega); have := a3 (by omega); rw [acc_succ r 3 (by omega)]; omega
  match j, h1, h2 with
  | 1, _, _ => omega
  | 2, _, _ => have := a2 (by omega); omega
  | 3, _, _ => have := a3 (by omega); omega
  | 4, _, _ => have := a4 (by omega); omega
/-- a sign is read as itself -/
theorem dec_put {c : Nat} (hc : Sg c) (t : List Nat) : (put c ++ t).getD 0 0 < 248 ∧ ((put c ++ t).getD 0 0 < 128 ∨ 192 ≤ (put c ++ t).getD 0 0) ∧ nb ((put c ++ t).getD 0 0) = (put c).length ∧
    Ct (put c ++ t) (put c).length ∧ acc (put c ++ t) (put c).length = c := by
  unfold Sg at hc
  rcases put_cases c with ⟨h1, h⟩ | ⟨h1, h2, h⟩ | ⟨h1, h2, h⟩ | ⟨h1, h⟩ <;> rw [h] <;> simp only [List.cons_append, List.nil_append, List.length_cons, List.length_nil, Nat.zero_add, Nat.reduceAdd, List.getD_cons_zero]
  · refine ⟨by omega, by omega, ?_, Ct.one _, ?_⟩
    · unfold nb; rw [if_neg (by omega), if_neg (by omega), if_neg (by omega)]
    · show c0 _ = c; unfold c0; simp only [List.getD_cons_zero]; rw [if_neg (by omega), if_neg (by omega), if_neg (by omega)]
  · have e0 : acc ((192 + c / 64) :: (128 + c % 64) :: t) 1 = c / 64 := by
      show c0 _ = _; unfold c0; simp only [List.getD_cons_zero]; rw [if_neg (by omega), if_neg (by omega), if_pos (by omega)]; omega
    refine ⟨by omega, by omega, ?_, ?_, ?_⟩
    · unfold nb; rw [if_neg (by omega), if_neg (by omega), if_pos (by omega)]
    · exact (Ct.one _).snoc (by simp only [List.getD_cons_zero, List.getD_cons_succ]; omega) (by simp only [List.getD_cons_zero, List.getD_cons_succ]; omega)
    · rw [acc_succ _ 1 (by omega), e0]; simp only [List.getD_cons_zero, List.getD_cons_succ]; omega
  · have e0 : acc ((224 + c / 4096) :: (128 + c / 64 % 64) :: (128 + c % 64) :: t) 1 = c / 4096 := by
      show c0 _ = _; unfold c0; simp only [List.getD_cons_zero]; rw [if_neg (by omega), if_pos (by omega)]; omega
    refine ⟨by omega, by omega, ?_, ?_, ?_⟩
    · unfold nb; rw [if_neg (by omega), if_pos (by omega)]
    · exact ((Ct.one _).snoc (by simp only [List.getD_cons_zero, List.getD_cons_succ]; omega) (by simp only [List.getD_cons_zero, List.getD_cons_succ]; omega)).snoc (by simp only [List.getD_cons_zero, List.getD_cons_succ]; omega) (by simp only [List.getD_cons_zero, List.getD_cons_succ]; omega)
    · rw [acc_succ _ 2 (by omega), acc_succ _ 1 (by omega), e0]; simp only [List.getD_cons_zero, List.getD_cons_succ]; omega
  · have e0 : acc ((240 + c / 262144) :: (128 + c / 4096 % 64) :: (128 + c / 64 % 64) :: (128 + c % 64) :: t) 1 = c / 262144 := by
      show c0 _ = _; unfold c0; simp only [List.getD_cons_zero]; rw [if_pos (by omega)]; omega
    refine ⟨by omega, by omega, ?_, ?_, ?_⟩
    · unfold nb; rw [if_pos (by omega)]
    · exact (((Ct.one _).snoc (by simp only [List.getD_cons_zero, List.getD_cons_succ]; omega) (by simp only [List.getD_cons_zero, List.getD_cons_succ]; omega)).snoc (by simp only [List.getD_cons_zero, List.getD_cons_succ]; omega) (by simp only [List.getD_cons_zero, List.getD_cons_succ]; omega)).snoc (by simp only [List.getD_cons_zero, List.getD_cons_succ]; omega) (by simp only [List.getD_cons_zero, List.getD_cons_succ]; omega)
    · rw [acc_succ _ 3 (by omega), acc_succ _ 2 (by omega), acc_succ _ 1 (by omega), e0]; simp only [List.getD_cons_zero, List.getD_cons_succ]; omega
/-- what holds where a sign stands -/
theorem dec_is {r : List Nat} (h : sgl r ≠ 0) : r.getD 0 0 < 248 ∧ (r.getD 0 0 < 128 ∨ 192 ≤ r.getD 0 0) ∧ nb (r.getD 0 0) ≤ r.length ∧
    Ct r (nb (r.getD 0 0)) ∧ Sg (acc r (nb (r.getD 0 0))) ∧ put (acc r (nb (r.getD 0 0))) = r.take (nb (r.getD 0 0)) := by
  obtain ⟨h1, h2⟩ := sgl_is h
  have h3 := sgl_len h
  have g := dec_put h1 (r.drop (sgl r))
  rw [← h2] at g
  obtain ⟨g1, g2, g3, g4, g5⟩ := g
  rw [g3]
  refine ⟨g1, g2, by omega, g4, by rw [g5]; exact h1, ?_⟩
  rw [g5]
  have e := congrArg (List.take (put (cp r)).length) h2
  rw [List.take_left] at e
  exact e.symm
/-- where all of that holds a sign stands -/
theorem dec_yes {r : List Nat} {c : Nat} (hc : Sg c) (h : put c = r.take (put c).length) : sgl r = (put c).length ∧ cp r = c := by
  have e : r = put c ++ r.drop (put c).length := by conv => lhs; rw [← List.take_append_drop (put c).length r, ← h]
  have g := sgl_put hc (r.drop (put c).length)
  rw [← e] at g
  exact g
end Ut
end Go.Proofs.YtpddkchnogfjkaaGreatDoor
