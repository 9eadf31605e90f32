/- Which values may be, as data; values whose texts are not too long. -/
import Derived.Test.YtnlnogchbmpmaaaJvMath
import Derived.Test.YtnlnogchbmpmaaaUtRSigns
import Derived.Test.YtnlnogchbmpmaaaNmOps
namespace Go.Proofs.Ytnlnogchbmpmaaa
open Go.RowKit
namespace Jv
open _root_.Go.Proofs.Ytnlnogchbmpmaaa.Nm
open _root_.Go.Proofs.Ytnlnogchbmpmaaa.Ut (byt vldB)
/-- are a value's texts of at most so many bytes? -/
def Sm (B : Nat) : Nat → JV → Prop
  | 0, _ => True
  | n + 1, t => t.st.size ≤ B ∧ (∀ x ∈ t.keys, x.size ≤ B) ∧ ∀ z ∈ t.items, Sm B n z
theorem Sm.mono {B C : Nat} (h : B ≤ C) : ∀ (n : Nat) {t : JV}, Sm B n t → Sm C n t
  | 0, _, _ => trivial
  | n + 1, _, ⟨h1, h2, h3⟩ => ⟨Nat.le_trans h1 h, fun x hx => Nat.le_trans (h2 x hx) h, fun z hz => Sm.mono h n (h3 z hz)⟩
/-- all of a value's texts are of at most so many bytes -/
def SmA (B : Nat) (t : JV) : Prop := ∀ n, Sm B n t
theorem SmA.st {B : Nat} {t : JV} (h : SmA B t) : t.st.size ≤ B := (h 1).1
theorem SmA.key {B : Nat} {t : JV} (h : SmA B t) : ∀ x ∈ t.keys, x.size ≤ B := (h 1).2.1
theorem SmA.item {B : Nat} {t : JV} (h : SmA B t) : ∀ z ∈ t.items, SmA B z := fun z hz n => (h (n + 1)).2.2 z hz
/-- has a value nothing but what its kind may have? -/
def ZeroP (t : JV) : Prop := (t.k ≠ 3 → t.c = 0 ∧ t.s = 0) ∧ (t.k ≠ 4 → t.k ≠ 7 → t.st = ⟨#[]⟩) ∧ (t.k ≠ 5 → t.k ≠ 6 → t.items = []) ∧ (t.k ≠ 6 → t.keys = [])
/-- may a value be, whatever its items are? -/
def HeadP (t : JV) : Prop := (0 ≤ t.k ∧ t.k ≤ 7) ∧ ZeroP t ∧ vldB (byt t.st) = true ∧ (t.k = 3 → isB t.c t.s = true) ∧ (t.k = 6 → t.keys.length = t.items.length) ∧ (∀ x ∈ t.keys, vldB (byt x) = true) ∧ Up t.keys
/-- may a value be that has at most so many levels? -/
def IsP : Nat → JV → Prop
  | 0, _ => False
  | n + 1, t => HeadP t ∧ ∀ z ∈ t.items, z.k ≠ 7 ∧ IsP n z
noncomputable def isT (n : Nat) (t : JV) : Bool := @decide (IsP n t) (Classical.propDecidable _)
theorem isT_iff {n : Nat} {t : JV} : isT n t = true ↔ IsP n t := by unfold isT; simp
theorem isT_no {n : Nat} {t : JV} : isT n t = false ↔ ¬ IsP n t := by unfold isT; simp
noncomputable def zeroT (t : JV) : Bool := @decide (ZeroP t) (Classical.propDecidable _)
theorem zeroT_iff {t : JV} : zeroT t = true ↔ ZeroP t := by unfold zeroT; simp
theorem zeroT_no {t : JV} : zeroT t = false ↔ ¬ ZeroP t := by unfold zeroT; simp
theorem IsP.up {n : Nat} {t : JV} (h : IsP n t) : Up t.keys := by
  cases n with
  | zero => exact h.elim
  | succ n => exact h.1.2.2.2.2.2.2
theorem IsP.len {n : Nat} {t : JV} (h : IsP n t) : t.k = 6 → t.keys.length = t.items.length := by
  cases n with
  | zero => exact h.elim
  | succ n => exact h.1.2.2.2.2.1
end Jv
end Go.Proofs.Ytnlnogchbmpmaaa
