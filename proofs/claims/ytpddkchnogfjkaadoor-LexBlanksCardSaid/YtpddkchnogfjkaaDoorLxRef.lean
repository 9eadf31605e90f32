/- Layer 13: where numbers and blanks end, as the document has it. -/
import Derived.Test.YtpddkchnogfjkaaDoorLxAt
namespace Go.Proofs.YtpddkchnogfjkaaDoor
open Go.RowKit
namespace Lx
def fracE (s : ByteArray) (j : Nat) : Nat := if h : j < s.size then (if s[j].toNat = 46 ∧ j + 1 < run isD s (j + 1) then run isD s (j + 1) else j) else j
def expKE (s : ByteArray) (j : Nat) : Nat := if h : j + 1 < s.size then (if s[j + 1].toNat = 43 ∨ s[j + 1].toNat = 45 then j + 2 else j + 1) else j + 1
def expE (s : ByteArray) (j : Nat) : Nat := if h : j < s.size then (if (s[j].toNat = 101 ∨ s[j].toNat = 69) ∧ expKE s j < run isD s (expKE s j) then run isD s (expKE s j) else j) else j
/-- where a number ends -/
def numE (s : ByteArray) (i : Nat) : Nat := expE s (fracE s (run isD s i))
theorem is1_at (s : ByteArray) (i n c : Nat) : is1 (s.data.toList.drop i) n c = if h : i + n < s.size then decide (s[i + n].toNat = c) else false := by
  unfold is1
  rw [List.getElem?_drop]
  by_cases h : i + n < s.size
  · rw [dif_pos h, List.getElem?_eq_getElem (show i + n < s.data.toList.length by simpa using h)]; rfl
  · rw [dif_neg h, List.getElem?_eq_none (by simpa using h)]; rfl
theorem run_dgs (s : ByteArray) (i n : Nat) : run isD s (i + n) = i + (n + dgs ((s.data.toList.drop i).drop n)) := by
  unfold run dgs; rw [List.drop_drop]; omega
theorem fracE_is (s : ByteArray) (i n : Nat) : fracE s (i + n) = i + fracL (s.data.toList.drop i) n := by
  unfold fracE fracL
  rw [is1_at]
  by_cases h : i + n < s.size
  · rw [dif_pos h, dif_pos h, Nat.add_assoc, run_dgs]
    by_cases h1 : s[i + n].toNat = 46
    · by_cases h2 : 0 < dgs ((s.data.toList.drop i).drop (n + 1))
      · rw [if_pos ⟨h1, by omega⟩, if_pos ⟨by simpa using h1, h2⟩]
      · rw [if_neg (fun g => h2 (by omega)), if_neg (fun g => h2 g.2)]
    · rw [if_neg (fun g => h1 g.1), if_neg (fun g => h1 (by simpa using g.1))]
  · rw [dif_neg h, dif_neg h, if_neg (fun g => by simp at g)]
theorem expKE_is (s : ByteArray) (i n : Nat) : expKE s (i + n) = i + expK (s.data.toList.drop i) n := by
  unfold expKE expK
  rw [is1_at, is1_at]
  simp only [Nat.add_assoc]
  by_cases h : i + (n + 1) < s.size
  · rw [dif_pos h, dif_pos h, dif_pos h]
    by_cases h1 : s[i + (n + 1)].toNat = 43 ∨ s[i + (n + 1)].toNat = 45
    · rw [if_pos h1, if_pos (by simpa using h1)]
    · rw [if_neg h1, if_neg (by simpa using h1)]
  · rw [dif_neg h, dif_neg h, dif_neg h, if_neg (by simp)]
theorem expE_is (s : ByteArray) (i n : Nat) : expE s (i + n) = i + expL (s.data.toList.drop i) n := by
  unfold expE expL
  rw [is1_at, is1_at, expKE_is]
  by_cases h : i + n < s.size
  · rw [dif_pos h, dif_pos h, dif_pos h, run_dgs]
    by_cases h1 : s[i + n].toNat = 101 ∨ s[i + n].toNat = 69
    · by_cases h2 : 0 < dgs ((s.data.toList.drop i).drop (expK (s.data.toList.drop i) n))
      · rw [if_pos ⟨h1, by omega⟩, if_pos ⟨by simpa using h1, h2⟩]
      · rw [if_neg (fun g => h2 (by omega)), if_neg (fun g => h2 g.2)]
    · rw [if_neg (fun g => h1 g.1), if_neg (fun g => h1 (by simpa using g.1))]
  · rw [dif_neg h, dif_neg h, dif_neg h, if_neg (fun g => by simp at g)]
theorem numE_is (s : ByteArray) (i : Nat) : numE s i = i + numL (s.data.toList.drop i) := by
  unfold numE numL
  have := run_dgs s i 0
  rw [Nat.add_zero, Nat.zero_add, List.drop_zero] at this
  rw [this, fracE_is, expE_is]
theorem fracE_le {s : ByteArray} {j : Nat} (hj : j ≤ s.size) : fracE s j ≤ s.size := by
  unfold fracE; split
  · split
    · exact run_le _ _ (by omega)
    · exact hj
  · exact hj
theorem expKE_le {s : ByteArray} {j : Nat} (hj : j < s.size) : expKE s j ≤ s.size := by
  unfold expKE; split
  · split <;> omega
  · omega
theorem expE_le {s : ByteArray} {j : Nat} (hj : j ≤ s.size) : expE s j ≤ s.size := by
  unfold expE; split
  · split
    · exact run_le _ _ (expKE_le (by assumption))
    · exact hj
  · exact hj
/-- is a point ahead, with digits behind it -/
def bF (s : ByteArray) (j : Nat) : Bool := if h : j < s.size then decide (s[j].toNat = 46 ∧ j + 1 < run isD s (j + 1)) else false
/-- is an e ahead -/
def bE (s : ByteArray) (m : Nat) : Bool := if h : m < s.size then decide (s[m].toNat = 101 ∨ s[m].toNat = 69) else false
/-- is a sign ahead -/
def bS (s : ByteArray) (m : Nat) : Bool := if h : m < s.size then decide (s[m].toNat = 43 ∨ s[m].toNat = 45) else false
theorem fracE_b (s : ByteArray) (j : Nat) : fracE s j = if bF s j then run isD s (j + 1) else j := by
  unfold fracE bF
  by_cases h : j < s.size
  · simp only [dif_pos h, decide_eq_true_eq]
  · simp only [dif_neg h]; simp
theorem expKE_b (s : ByteArray) (j : Nat) : expKE s j = if bS s (j + 1) then j + 2 else j + 1 := by
  unfold expKE bS
  by_cases h : j + 1 < s.size
  · simp only [dif_pos h, decide_eq_true_eq]
  · simp only [dif_neg h]; simp
theorem expE_b (s : ByteArray) (j : Nat) : expE s j = if bE s j then (if expKE s j < run isD s (expKE s j) then run isD s (expKE s j) else j) else j := by
  unfold expE bE
  by_cases h : j < s.size
  · simp only [dif_pos h, decide_eq_true_eq]
    by_cases h1 : s[j].toNat = 101 ∨ s[j].toNat = 69
    · simp [h1]
    · rw [if_neg (fun g => h1 g.1), if_neg h1]
  · simp only [dif_neg h]; simp
end Lx
end Go.Proofs.YtpddkchnogfjkaaDoor
