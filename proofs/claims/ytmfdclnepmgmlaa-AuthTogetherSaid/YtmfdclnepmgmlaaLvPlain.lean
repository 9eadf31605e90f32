/- The plain mathematics of levels: names, as lists of bytes. No condition. -/
import Derived.WalkKit
namespace Go.Proofs.Ytmfdclnepmgmlaa
namespace Lv

def ltrI (n : Int) : Bool := decide (97 ≤ n) && decide (n ≤ 122)
def digI (n : Int) : Bool := decide (48 ≤ n) && decide (n ≤ 57)
def okI (n : Int) : Bool := ltrI n || digI n
def inI (a n : Int) : Bool := decide (0 ≤ a) && decide (a < n)
def okU (c : UInt8) : Bool := okI (c.toNat : Int)
def NameP (s : ByteArray) : Prop := 1 ≤ s.size ∧ s.size ≤ 16 ∧ (∀ h : 0 < s.size, ltrI (s[0].toNat : Int) = true) ∧ ∀ k (h : k < s.size), okI (s[k].toNat : Int) = true
open Classical in
noncomputable def nameB (s : ByteArray) : Bool := decide (NameP s)
theorem nameB_true {s : ByteArray} (h : NameP s) : nameB s = true := by unfold nameB; simp [h]
theorem nameB_false {s : ByteArray} (h : ¬ NameP s) : nameB s = false := by unfold nameB; simp [h]
theorem nameB_iff {s : ByteArray} : nameB s = true ↔ NameP s := by unfold nameB; simp

theorem ok_snoc {s : ByteArray} {k : Nat} (H : ∀ j (h : j < s.size), j < k → okI (s[j].toNat : Int) = true) (h0 : ∀ h : k < s.size, okI (s[k].toNat : Int) = true) :
    ∀ j (h : j < s.size), j < k + 1 → okI (s[j].toNat : Int) = true := by
  intro j h hj
  by_cases hjk : j < k
  · exact H j h hjk
  · obtain rfl : j = k := by omega
    exact h0 h
theorem ok_one {s : ByteArray} (h0 : ∀ h : 0 < s.size, okI (s[0].toNat : Int) = true) :
    ∀ j (h : j < s.size), j < 1 → okI (s[j].toNat : Int) = true := by
  intro j h hj
  obtain rfl : j = 0 := by omega
  exact h0 h
end Lv
end Go.Proofs.Ytmfdclnepmgmlaa
