/- What the lifted proofs of jval's laws need of the program; arrays of two texts, of two values. -/
import Derived.Test.YtnlnogchbmpmaaaJvOpen
import Derived.Test.YtnlnogchbmpmaaaRows
import Derived.OpenShut
namespace Go.Proofs.Ytnlnogchbmpmaaa
open Go.ChangeShapes Go.WideShapes Go.ChangeAt Go.RowKit
namespace Jv
open _root_.Go.Proofs.Ytnlnogchbmpmaaa.Nm
theorem own : ownKnob Try.prog.godebug = none := by kernel_rfl
theorem laidOut : laidOutB Try.prog = true := by kernel_rfl
section
variable {H : Type} {enc : TypeId × Value → H} {w : World} {spare : Nat → Bool} {held : Bool}
set_option maxRecDepth 100000 in
theorem open_two_s {fuel : Nat} {cs : List Value} {x : DataW H × List MemPlace} (h : DataW.trod enc Try.prog w 0 spare held fuel 35 cs = some x) : ∃ a b : ByteArray, cs = [.string a, .string b] ∧ a.size ≤ maxLen ∧ b.size ≤ maxLen := by
  have h1 : Try.prog.cellsOf 9 = 1 := by kernel_rfl
  obtain ⟨xs, n, hn, _, hl, hx, he⟩ := DataW.trod_array Try.underlying35 h
  rw [show Try.prog.cellsOf 35 = 2 by kernel_rfl] at hl
  match cs, hl with
  | [v0, v1], _ =>
    have e0 := he 0 (by omega)
    have e1 := he 1 (by omega)
    rw [h1] at e0 e1
    match xs, hx with
    | [x0, x1], _ =>
      obtain ⟨a, ha, _, hs⟩ := DataW.trod_string Try.underlying9 e0
      obtain ⟨b, hb, _, hs'⟩ := DataW.trod_string Try.underlying9 e1
      simp at ha hb
      exact ⟨a, b, by rw [ha, hb], hs, hs'⟩
set_option maxRecDepth 100000 in
theorem open_arr2s {r : Reach} {b0 : Nat} {v : Value} {d : DataW H} {p : List MemPlace} (hv : Value.okWide Try.prog w r b0 35 v) (h : DataW.Trod enc Try.prog w 0 spare held 35 v d p) :
    ∃ a b : ByteArray, v = .agg #[.string a, .string b] ∧ a.size ≤ maxLen ∧ b.size ≤ maxLen := by
  obtain ⟨fuel, hf⟩ := h
  obtain ⟨cs, rfl⟩ : ∃ cs, v = .agg cs := by
    simp only [Value.okWide, Try.underlying35] at hv
    obtain ⟨cs, h1, _⟩ := hv
    exact ⟨cs, h1⟩
  obtain ⟨a, b, hab, h1, h2⟩ := open_two_s hf
  simp only [Value.cells] at hab
  exact ⟨a, b, by rw [← Array.toList_inj.1 (show cs.toList = #[Value.string a, Value.string b].toList from hab)], h1, h2⟩
set_option maxRecDepth 100000 in
theorem open_two_v {fuel : Nat} {cs : List Value} {x : DataW H × List MemPlace} (h : DataW.trod enc Try.prog w 0 spare held fuel 34 cs = some x) : ∃ y z ty tz n, cs = Six.cells y ++ Six.cells z ∧ VT w n y ty ∧ VT w n z tz := by
  obtain ⟨xs, n, hn, _, hl, hx, he⟩ := DataW.trod_array Try.underlying34 h
  rw [show Try.prog.cellsOf 34 = 12 by kernel_rfl] at hl
  have e0 := he 0 (by omega)
  have e1 := he 1 (by omega)
  rw [cellsV] at e0 e1
  match xs, hx with
  | [x0, x1], _ =>
    obtain ⟨y, ty, n1, h1, v1⟩ := open_val n e0
    obtain ⟨z, tz, n2, h2, v2⟩ := open_val n e1
    refine ⟨y, z, ty, tz, n1 + n2, ?_, VT.mono n1 (by omega) v1, VT.mono n2 (by omega) v2⟩
    rw [← h1, ← h2]
    have e : (cs.drop (1 * 6)).take 6 = cs.drop 6 := List.take_of_length_le (by rw [List.length_drop]; omega)
    rw [e, Nat.zero_mul, List.drop_zero, List.take_append_drop]
set_option maxRecDepth 100000 in
theorem open_arr2v {r : Reach} {b0 : Nat} {v : Value} {d : DataW H} {p : List MemPlace} (hv : Value.okWide Try.prog w r b0 34 v) (h : DataW.Trod enc Try.prog w 0 spare held 34 v d p) :
    ∃ y z ty tz n, v = .agg (Six.cells y ++ Six.cells z).toArray ∧ VT w n y ty ∧ VT w n z tz := by
  obtain ⟨fuel, hf⟩ := h
  obtain ⟨cs, rfl⟩ : ∃ cs, v = .agg cs := by
    simp only [Value.okWide, Try.underlying34] at hv
    obtain ⟨cs, h1, _⟩ := hv
    exact ⟨cs, h1⟩
  obtain ⟨y, z, ty, tz, n, hab, h1, h2⟩ := open_two_v hf
  simp only [Value.cells] at hab
  exact ⟨y, z, ty, tz, n, by rw [← hab], h1, h2⟩
end
end Jv
end Go.Proofs.Ytnlnogchbmpmaaa
