/- What the lifted proofs of lex's laws need of the program; a row of bytes as an argument. -/
import Derived.Test.YtpddkchnogfjkaaDoorLxBlanks
import Derived.Test.YtpddkchnogfjkaaDoorLxDoor
import Derived.Test.YtpddkchnogfjkaaDoorRows
import Derived.ProofKit
import Derived.ChangeSlices
namespace Go.Proofs.YtpddkchnogfjkaaDoor
open Go.ChangeShapes Go.WideShapes Go.ChangeAt Go.RowKit
namespace Lx
section
variable {H : Type} {enc : TypeId × Value → H} {w : World} {spare : Nat → Bool} {held : Bool}
theorem spot_none {a : Addr} {i : Nat} {v : Value} (h : w.cell? (a.add i) = some v) (hi : i = 0) : ∃ b off, a = ⟨b, off, none⟩ := by
  subst hi
  obtain ⟨b, off, spot⟩ := a
  have hspot : spot = none := by simpa [Addr.add] using World.cell?_spot h
  exact ⟨b, off, by rw [hspot]⟩
theorem u8_wf {n : Int} (h : (Lit.int .u8 n).wf = true) : 0 ≤ n ∧ n < 256 := by
  simp only [Lit.wf, Bool.and_eq_true, decide_eq_true_eq] at h
  have e1 : IntKind.u8.min = 0 := by rfl
  have e2 : IntKind.u8.max = 255 := by rfl
  omega
set_option maxRecDepth 100000 in
theorem open_bytes' {fuel : Nat} {v : Value} {x : DataW H × List MemPlace} (h : DataW.trod enc Tryd.prog w 0 spare held fuel 26 [v] = some x) : ∃ l, By8 w v l ∧ l.length ≤ maxLen := by
  rcases open_ints Tryd.underlying26 Tryd.underlying5 (by kernel_rfl) h with ⟨hv, _⟩ | ⟨a, len, cap, zs, hv, _, hl, hm, hlen, _, hc, hwf⟩
  · simp only [List.cons.injEq, and_true] at hv
    subst hv
    exact ⟨[], ⟨none, 0, rfl, fun d hd => by simp at hd, fun h0 => by simp at h0⟩, by simp⟩
  · simp only [List.cons.injEq, and_true] at hv
    subst hv
    have hge : len ≤ zs.length := by rw [hlen]; split <;> omega
    have hle : ((zs.take len).map Int.toNat).length = len := by simp; omega
    refine ⟨(zs.take len).map Int.toNat, ⟨some a, cap, by rw [hle], fun d hd => ?_, fun h0 => ?_⟩, by rw [hle]; omega⟩
    · obtain ⟨z, hz, rfl⟩ := List.mem_map.1 hd
      have := u8_wf (hwf z (List.mem_of_mem_take hz))
      omega
    · rw [hle] at h0
      have hc0 := hc 0 (by omega)
      obtain ⟨b, off, rfl⟩ := spot_none hc0 rfl
      refine ⟨b, off, rfl, World.block_lt_of_cell? w _ hc0, fun j d hd => ?_⟩
      have hj : j < len := by have := (List.getElem?_eq_some_iff.1 hd).1; omega
      have h1 := hc j (by omega)
      rw [Go.WideShapes.add_plain] at h1
      rw [h1]
      rw [List.getElem?_map, List.getElem?_take, if_pos hj] at hd
      obtain ⟨z, hz, rfl⟩ := Option.map_eq_some_iff.1 hd
      have h2 := u8_wf (hwf z (List.mem_of_getElem? hz))
      rw [List.getD_eq_getElem?_getD, hz]
      simp only [Option.getD_some]
      rw [Int.toNat_of_nonneg h2.1]
set_option maxRecDepth 100000 in
theorem open_bytes {r : Reach} {b0 : Nat} {v : Value} {d : DataW H} {p : List MemPlace} (hv : Value.okWide Tryd.prog w r b0 26 v) (h : DataW.Trod enc Tryd.prog w 0 spare held 26 v d p) : ∃ l, By8 w v l ∧ l.length ≤ maxLen := by
  obtain ⟨fuel, hf⟩ := h
  obtain ⟨a, n, c, rfl⟩ := okWide_slice Tryd.underlying26 hv
  exact open_bytes' hf
end
end Lx
end Go.Proofs.YtpddkchnogfjkaaDoor
