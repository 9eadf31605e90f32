/- jval.Get, of every value. -/
import Derived.Test.YtkmfoclhhnhkdaaJvPut
namespace Go.Proofs.Ytkmfoclhhnhkdaa
open Go.RowKit
namespace Jv
open _root_.Go.Proofs.Ytkmfoclhhnhkdaa.Nm
/-- nothing -/
def six0 : Six := ⟨0, 0, 0, ⟨#[]⟩, .slice none 0 0, .slice none 0 0⟩
/-- what a key has -/
def gotS (x : Six) (keys : List ByteArray) (its : List Six) (key : ByteArray) : Six × Bool :=
  if x.k = 6 ∧ keys.length = its.length then (match its[(idx keys key).toNat]? with | some y => if 0 ≤ idx keys key then (y, true) else (six0, false) | none => (six0, false)) else (six0, false)
theorem idx_cases (l : List ByteArray) (key : ByteArray) : (idx l key = -1 ∧ key ∉ l) ∨ ∃ i : Nat, idx l key = i ∧ i < l.length ∧ l[i]? = some key ∧ ∀ j, j < i → l[j]? ≠ some key := by
  unfold idx
  cases h : l.findIdx? (fun x => decide (key = x)) with
  | none =>
    left
    refine ⟨rfl, fun hm => ?_⟩
    have := List.findIdx?_eq_none_iff.1 h key hm
    simp at this
  | some i =>
    right
    obtain ⟨h1, h2, h3⟩ := List.findIdx?_eq_some_iff_getElem.1 h
    have h2 := of_decide_eq_true h2
    refine ⟨i, rfl, h1, by rw [List.getElem?_eq_getElem h1, ← h2], fun j hj e => ?_⟩
    have h4 := h3 j hj
    rw [List.getElem?_eq_getElem (by omega)] at e
    rw [Option.some.inj e] at h4
    simp at h4
end Jv
end Go.Proofs.Ytkmfoclhhnhkdaa
