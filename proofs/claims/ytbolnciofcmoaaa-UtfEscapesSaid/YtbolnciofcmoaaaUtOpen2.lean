/- A row of ints as an argument: what its reading gives. -/
import Derived.Test.YtbolnciofcmoaaaUtEsc
import Derived.Test.YtbolnciofcmoaaaUtOpen
import Derived.ChangeSlices
namespace Go.Proofs.Ytbolnciofcmoaaa
open Go.ChangeShapes Go.WideShapes Go.ChangeAt Go.RowKit
namespace Ut
section
variable {H : Type} {enc : TypeId × Value → H} {w : World} {spare : Nat → Bool} {held : Bool}
theorem spot_none {a : Addr} {i : Nat} {v : Value} (h : w.cell? (a.add i) = some v) (hi : i = 0) : ∃ b off, a = ⟨b, off, none⟩ := by
  subst hi
  obtain ⟨b, off, spot⟩ := a
  have hspot : spot = none := by simpa [Addr.add] using World.cell?_spot h
  exact ⟨b, off, by rw [hspot]⟩
theorem open_row' {fuel : Nat} {v : Value} {x : DataW H × List MemPlace} (h : DataW.trod enc Try.prog w 0 spare held fuel 23 [v] = some x) : ∃ l, ArgInts w v l := by
  rcases open_ints Try.underlying23 Try.underlying3 (by kernel_rfl) h with ⟨hv, _⟩ | ⟨a, len, cap, zs, hv, _, hl, hm, hlen, _, hc, _⟩
  · simp only [List.cons.injEq, and_true] at hv
    subst hv
    exact ⟨[], none, 0, rfl, by decide, fun i x hx => by simp at hx⟩
  · simp only [List.cons.injEq, and_true] at hv
    subst hv
    have hge : len ≤ zs.length := by rw [hlen]; split <;> omega
    have hle : (zs.take len).length = len := by simp; omega
    refine ⟨zs.take len, some a, cap, by rw [hle], by rw [hle]; omega, fun i x hx => ?_⟩
    have hi : i < len := by have := (List.getElem?_eq_some_iff.1 hx).1; omega
    obtain ⟨b, off, rfl⟩ := spot_none (hc 0 (by omega)) rfl
    have hx' : zs[i]? = some x := by rw [List.getElem?_take, if_pos hi] at hx; exact hx
    have h1 := hc i (by omega)
    rw [Go.WideShapes.add_plain] at h1
    refine ⟨b, off, rfl, by rw [h1]; simp [List.getD, hx']⟩
theorem open_row {r : Reach} {b0 : Nat} {v : Value} {d : DataW H} {p : List MemPlace} (hv : Value.okWide Try.prog w r b0 23 v) (h : DataW.Trod enc Try.prog w 0 spare held 23 v d p) : ∃ l, ArgInts w v l := by
  obtain ⟨fuel, hf⟩ := h
  obtain ⟨a, n, c, rfl⟩ := okWide_slice Try.underlying23 hv
  exact open_row' hf
end
end Ut
end Go.Proofs.Ytbolnciofcmoaaa
