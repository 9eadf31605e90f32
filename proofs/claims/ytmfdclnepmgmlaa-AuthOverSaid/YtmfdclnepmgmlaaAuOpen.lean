/- Principals as arguments: what their reading gives. -/
import Derived.Test.YtmfdclnepmgmlaaAuFind
import Derived.Test.YtmfdclnepmgmlaaLvOpen
import Derived.Deep.SlicePairs
import Derived.ChangeSlices
namespace Go.Proofs.Ytmfdclnepmgmlaa
open Go.ChangeShapes Go.WideShapes Go.ChangeAt Go.RowKit
namespace Lv
section
variable {H : Type} {enc : TypeId × Value → H} {w : World} {spare : Nat → Bool} {held : Bool}
theorem open_over {fuel : Nat} {v : Value} {x : DataW H × List MemPlace} (h : DataW.trod enc Try.prog w 0 spare held fuel 34 [v] = some x) : ∃ l, OverAt w v l := by
  rcases open_ints Try.underlying34 Try.underlying3 (by kernel_rfl) h with ⟨hv, _⟩ | ⟨a, len, cap, zs, hv, _, hl, hm, hlen, _, hc, _⟩
  · simp only [List.cons.injEq, and_true] at hv
    subst hv
    exact ⟨[], none, 0, rfl, by decide, fun i x hx => by simp at hx⟩
  · simp only [List.cons.injEq, and_true] at hv
    subst hv
    have hge : len ≤ zs.length := by rw [hlen]; split <;> omega
    have hle : (zs.take len).length = len := by simp; omega
    refine ⟨zs.take len, some a, cap, by rw [hle], by rw [hle]; omega, fun i x hx => ?_⟩
    have hi : i < len := by have := (List.getElem?_eq_some_iff.1 hx).1; omega
    obtain ⟨b, off, rfl⟩ := spot_none (hc 0 (by omega)) rfl
    have hx' : zs[i]? = some x := by rw [List.getElem?_take, if_pos hi] at hx; exact hx
    have h1 := hc i (by omega)
    rw [Go.WideShapes.add_plain] at h1
    refine ⟨b, off, rfl, by rw [h1]; simp [List.getD, hx']⟩
theorem open_prins' {fuel : Nat} {v : Value} {x : DataW H × List MemPlace} (h : DataW.trod enc Try.prog w 0 spare held fuel 22 [v] = some x) : ∃ ps, PrinsAt w v ps ∧ ps.length ≤ maxLen := by
  rcases Deep.open_slice_pairs Try.underlying22 Try.underlying36 (by kernel_rfl) rfl rfl (by kernel_rfl) (by kernel_rfl) h with ⟨hv, _⟩ | ⟨a, len, cap, m, n, V0, V1, D0, D1, P0, P1, hv, _, hl, hm, hlen, _, hc⟩
  · simp only [List.cons.injEq, and_true] at hv
    subst hv
    exact ⟨[], ⟨none, 0, rfl, Nat.le_refl _, fun i x hx => by simp at hx⟩, by decide⟩
  · simp only [List.cons.injEq, and_true] at hv
    subst hv
    have hge : len ≤ m := by rw [hlen]; split <;> omega
    obtain ⟨f, hf⟩ := Deep.choose_lt (α := Prin) (n := len) (p := fun i x => w.cell? (a.add (i * 2)) = some (.string x.1) ∧ (∃ u, w.cell? (a.add (i * 2 + 1)) = some u ∧ OverAt w u x.2) ∧ x.1.size ≤ maxLen) (fun i hi => by
      obtain ⟨h1, h2, h3, h4⟩ := hc i (by omega)
      obtain ⟨s, hs, _, hsl⟩ := DataW.trod_string Try.underlying9 h3
      obtain ⟨l, hl⟩ := open_over h4
      simp only [List.cons.injEq, and_true] at hs
      rw [hs] at h1
      exact ⟨(s, l), h1, ⟨_, h2, hl⟩, hsl⟩)
    refine ⟨(List.range len).map f, ⟨some a, cap, by simp, by simpa using hl, fun i x hx => ?_⟩, by simp; omega⟩
    have hi : i < len := by have := (List.getElem?_eq_some_iff.1 hx).1; simpa using this
    obtain ⟨b, off, rfl⟩ := spot_none (hf 0 (by omega)).1 rfl
    obtain rfl : x = f i := by
      rw [List.getElem?_map, List.getElem?_range hi] at hx
      simpa using hx.symm
    obtain ⟨h1, ⟨u, h2, h3⟩, h4⟩ := hf i hi
    rw [Go.WideShapes.add_plain] at h1 h2
    exact ⟨b, off, u, rfl, h1, h2, h3, h4⟩
theorem open_prins {r : Reach} {b0 : Nat} {v : Value} {d : DataW H} {p : List MemPlace} (hv : Value.okWide Try.prog w r b0 22 v) (h : DataW.Trod enc Try.prog w 0 spare held 22 v d p) : ∃ ps, PrinsAt w v ps ∧ ps.length ≤ maxLen := by
  obtain ⟨fuel, hf⟩ := h
  obtain ⟨a, n, c, rfl⟩ := okWide_slice Try.underlying22 hv
  exact open_prins' hf
end
end Lv
end Go.Proofs.Ytmfdclnepmgmlaa
