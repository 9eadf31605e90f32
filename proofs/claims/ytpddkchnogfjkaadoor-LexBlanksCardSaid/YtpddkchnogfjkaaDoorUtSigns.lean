/- What utf.Signs and First answer, of every string. -/
import Derived.Test.YtpddkchnogfjkaaDoorUtValid
import Derived.Below
namespace Go.Proofs.YtpddkchnogfjkaaDoor
open Go.RowKit
namespace Ut
/-- the signs of a text, none of what is none -/
def sgsOf (s : ByteArray) : List Nat := (sigs (byt s)).getD []
theorem sgsOf_some {s : ByteArray} {cs : List Nat} (h : sigs (byt s) = some cs) : sgsOf s = cs := by unfold sgsOf; rw [h]; rfl
theorem sgsOf_none {s : ByteArray} (h : sigs (byt s) = none) : sgsOf s = [] := by unfold sgsOf; rw [h]; rfl
theorem sgsOf_sg (s : ByteArray) : Sgs (sgsOf s) := by
  unfold sgsOf
  cases h : sigs (byt s) with
  | none => exact Sgs.nil
  | some cs => exact (sigs_iff.1 h).1
theorem sgsOf_len (s : ByteArray) : (sgsOf s).length ≤ s.size := by
  unfold sgsOf
  cases h : sigs (byt s) with
  | none => simp
  | some cs => have := puts_len cs; rw [← (sigs_iff.1 h).2, byt_len] at this; exact this
theorem Below.iter (w : World) (s : ByteArray) (pos : Nat) : Below w.heap.size w (w.iter s pos) := (Below.refl _ _).alloc (Nat.le_refl _) _
theorem Read.len {s : ByteArray} {k : Nat} {cs : List Nat} (h : Read s k cs) : cs.length ≤ k ∧ (puts cs).length = k := by
  have := congrArg List.length h.eq
  rw [List.length_append, List.length_drop, byt_len] at this
  have h1 := puts_len cs
  have h2 := h.le
  omega
/-- the first signs of a text -/
def frst (s : ByteArray) (n : Int) : List Nat := puts ((sgsOf s).take n.toNat)
theorem ret_str {a b : ByteArray} (h : a = b) : Ending.returned (.string a) = .returned (.string b) := by rw [h]
theorem str_nil : str [] = ByteArray.empty := rfl
end Ut
end Go.Proofs.YtpddkchnogfjkaaDoor
