/- A row of values as an argument: what its reading gives. -/
import Derived.Test.YtkmfoclhhnhkdaaJvOpen2
namespace Go.Proofs.Ytkmfoclhhnhkdaa
open Go.ChangeShapes Go.WideShapes Go.ChangeAt Go.RowKit
namespace Od
open _root_.Go.Proofs.Ytkmfoclhhnhkdaa.Nm _root_.Go.Proofs.Ytkmfoclhhnhkdaa.Jv
section
variable {H : Type} {enc : TypeId × Value → H} {w : World} {spare : Nat → Bool} {held : Bool}
set_option maxRecDepth 100000 in
theorem open_values' {fuel : Nat} {v : Value} {x : DataW H × List MemPlace} (h : DataW.trod enc Try.prog w 0 spare held fuel 24 [v] = some x) :
    ∃ (l : List Six) (ts : List JV), Vs w v l ∧ l.length = ts.length ∧ ∀ (j : Nat) (y : Six) (z : JV), l[j]? = some y → ts[j]? = some z → ∃ n, VT w n y z := by
  rcases DataW.trod_slice Try.underlying24 h with ⟨hv, _⟩ | ⟨a, len, cap, elems, rest, n2, hn2, hv, _, _, hl', hm, hel, hall, _, _⟩
  · obtain rfl := (List.cons.inj hv).1
    exact ⟨[], [], Vs.nil0 w, rfl, fun j y z h => by simp at h⟩
  · obtain rfl := (List.cons.inj hv).1
    have each : ∀ i, i < len → ∃ q : Six × JV × Nat, (∀ j u, (Six.cells q.1)[j]? = some u → w.cell? ((a.add (i * 6)).add j) = some u) ∧ VT w q.2.2 q.1 q.2.1 := by
      intro i hi
      have h1 := hall i hi
      rw [cellsV, List.getElem?_eq_getElem (show i < elems.length by omega)] at h1
      obtain ⟨cs', g1, g2⟩ := Option.bind_eq_some_iff.1 h1
      obtain ⟨y, t, n', rfl, hvt⟩ := open_val n2 g2
      obtain ⟨_, _, hcell⟩ := World.cells?_some g1
      refine ⟨(y, t, n'), fun j u hu => ?_, hvt⟩
      have hj : j < 6 := by have := (List.getElem?_eq_some_iff.1 hu).1; simpa [Six.cells] using this
      rw [hcell j hj]
      exact hu
    obtain ⟨f, hfq⟩ := choose_lt' each
    refine ⟨(List.range len).map fun i => (f i).1, (List.range len).map fun i => (f i).2.1, ?_, by simp, ?_⟩
    · refine ⟨some a, cap, by simp, by simpa using hl', hm, fun h => by simp at h, fun h0 => ?_⟩
      have h0 : 0 < len := by simpa using h0
      have hc0 := (hfq 0 h0).1 0 _ rfl
      rw [Deep.add_add, Nat.zero_mul, Nat.zero_add] at hc0
      obtain ⟨b, off, rfl⟩ := spot_none hc0
      have hb := World.block_lt_of_cell? w _ hc0
      refine ⟨b, off, rfl, by simpa [Addr.add] using hb, fun j x hj => ?_⟩
      have hi : j < len := by have := (List.getElem?_eq_some_iff.1 hj).1; simpa using this
      obtain rfl : x = (f j).1 := by
        rw [List.getElem?_map, List.getElem?_range hi] at hj
        simpa using hj.symm
      have hh := (hfq j hi).1
      have e : ∀ p, (Addr.add (⟨b, off, none⟩ : Addr) (j * 6)).add p = ⟨b, off + j * 6 + p, none⟩ := fun p => by
        rw [Deep.add_add, Go.WideShapes.add_plain, Nat.add_assoc]
      have q0 := hh 0 _ rfl
      have q1 := hh 1 _ rfl
      have q2 := hh 2 _ rfl
      have q3 := hh 3 _ rfl
      have q4 := hh 4 _ rfl
      have q5 := hh 5 _ rfl
      rw [e] at q0 q1 q2 q3 q4 q5
      exact ⟨q0, q1, q2, q3, q4, q5⟩
    · intro j y z hy hz
      have hi : j < len := by have := (List.getElem?_eq_some_iff.1 hy).1; simpa using this
      obtain rfl : y = (f j).1 := by
        rw [List.getElem?_map, List.getElem?_range hi] at hy
        simpa using hy.symm
      obtain rfl : z = (f j).2.1 := by
        rw [List.getElem?_map, List.getElem?_range hi] at hz
        simpa using hz.symm
      exact ⟨_, (hfq j hi).2⟩
set_option maxRecDepth 100000 in
theorem open_values {r : Reach} {b0 : Nat} {v : Value} {d : DataW H} {p : List MemPlace} (hv : Value.okWide Try.prog w r b0 24 v) (h : DataW.Trod enc Try.prog w 0 spare held 24 v d p) :
    ∃ (l : List Six) (ts : List JV), Vs w v l ∧ l.length = ts.length ∧ ∀ (j : Nat) (y : Six) (z : JV), l[j]? = some y → ts[j]? = some z → ∃ n, VT w n y z := by
  obtain ⟨fuel, hf⟩ := h
  obtain ⟨a, n, c, rfl⟩ := okWide_slice Try.underlying24 hv
  exact open_values' hf
set_option maxRecDepth 100000 in
theorem open_three_v {fuel : Nat} {cs : List Value} {x : DataW H × List MemPlace} (h : DataW.trod enc Try.prog w 0 spare held fuel 42 cs = some x) : ∃ a b c ta tb tc n, cs = Six.cells a ++ Six.cells b ++ Six.cells c ∧ VT w n a ta ∧ VT w n b tb ∧ VT w n c tc := by
  obtain ⟨xs, n, hn, _, hl, hx, he⟩ := DataW.trod_array Try.underlying42 h
  rw [show Try.prog.cellsOf 42 = 18 by kernel_rfl] at hl
  have e0 := he 0 (by omega)
  have e1 := he 1 (by omega)
  have e2 := he 2 (by omega)
  rw [cellsV] at e0 e1 e2
  match xs, hx with
  | [x0, x1, x2], _ =>
    obtain ⟨a, ta, n1, h1, v1⟩ := open_val n e0
    obtain ⟨b, tb, n2, h2, v2⟩ := open_val n e1
    obtain ⟨c, tc, n3, h3, v3⟩ := open_val n e2
    refine ⟨a, b, c, ta, tb, tc, n1 + n2 + n3, ?_, VT.mono n1 (by omega) v1, VT.mono n2 (by omega) v2, VT.mono n3 (by omega) v3⟩
    rw [← h1, ← h2, ← h3]
    have f2 : (cs.drop (2 * 6)).take 6 = cs.drop 12 := List.take_of_length_le (by rw [List.length_drop]; omega)
    rw [f2, Nat.zero_mul, List.drop_zero, Nat.one_mul, ← List.take_add, List.take_append_drop]
set_option maxRecDepth 100000 in
theorem open_arr3v {r : Reach} {b0 : Nat} {v : Value} {d : DataW H} {p : List MemPlace} (hv : Value.okWide Try.prog w r b0 42 v) (h : DataW.Trod enc Try.prog w 0 spare held 42 v d p) :
    ∃ a b c ta tb tc n, v = .agg (Six.cells a ++ Six.cells b ++ Six.cells c).toArray ∧ VT w n a ta ∧ VT w n b tb ∧ VT w n c tc := by
  obtain ⟨fuel, hf⟩ := h
  obtain ⟨cs, rfl⟩ : ∃ cs, v = .agg cs := by
    simp only [Value.okWide, Try.underlying42] at hv
    obtain ⟨cs, h1, _⟩ := hv
    exact ⟨cs, h1⟩
  obtain ⟨a, b, c, ta, tb, tc, n, hab, h1, h2, h3⟩ := open_three_v hf
  simp only [Value.cells] at hab
  exact ⟨a, b, c, ta, tb, tc, n, by rw [← hab], h1, h2, h3⟩
end
end Od
end Go.Proofs.Ytkmfoclhhnhkdaa
