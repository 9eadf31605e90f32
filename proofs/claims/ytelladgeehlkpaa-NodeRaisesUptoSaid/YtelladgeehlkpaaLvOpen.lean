/- A policy, and rows of ints, as arguments: what their reading gives. -/
import Derived.Test.YtelladgeehlkpaaPd
import Derived.ProofKit
import Derived.Lib.SmallJoins
namespace Go.Proofs.Ytelladgeehlkpaa
open Go.ChangeShapes Go.WideShapes Go.ChangeAt Go.RowKit
namespace Lv
set_option maxRecDepth 100000 in
theorem own : ownKnob Try.prog.godebug = none := by kernel_rfl
set_option maxRecDepth 100000 in
theorem laidOut : laidOutB Try.prog = true := by kernel_rfl
section
variable {H : Type} {enc : TypeId × Value → H} {w : World} {spare : Nat → Bool} {held : Bool}
set_option maxRecDepth 100000 in
theorem spot_none {a : Addr} {i : Nat} {v : Value} (h : w.cell? (a.add i) = some v) (hi : i = 0) : ∃ b off, a = ⟨b, off, none⟩ := by
  subst hi
  obtain ⟨b, off, spot⟩ := a
  have hspot : spot = none := by simpa [Addr.add] using World.cell?_spot h
  exact ⟨b, off, by rw [hspot]⟩
set_option maxRecDepth 100000 in
theorem open_names {fuel : Nat} {v : Value} {x : DataW H × List MemPlace} (h : DataW.trod enc Try.prog w 0 spare held fuel 25 [v] = some x) : ∃ ss, NamesAt w v ss ∧ ss.length ≤ maxLen := by
  rcases open_strings Try.underlying25 Try.underlying9 (by kernel_rfl) h with ⟨hv, _⟩ | ⟨a, len, cap, ss, hv, _, hl, hm, hlen, _, hc, hs⟩
  · simp only [List.cons.injEq, and_true] at hv
    subst hv
    exact ⟨[], ⟨none, 0, rfl, Nat.le_refl _, fun i x hx => by simp at hx⟩, by decide⟩
  · simp only [List.cons.injEq, and_true] at hv
    subst hv
    have hge : len ≤ ss.length := by rw [hlen]; split <;> omega
    have hle : (ss.take len).length = len := by simp; omega
    refine ⟨ss.take len, ⟨some a, cap, by rw [hle], by rw [hle]; exact hl, fun i x hx => ?_⟩, by rw [hle]; omega⟩
    have hi : i < len := by have := (List.getElem?_eq_some_iff.1 hx).1; omega
    obtain ⟨b, off, rfl⟩ := spot_none (hc 0 (by omega)) rfl
    have hx' : ss[i]? = some x := by rw [List.getElem?_take, if_pos hi] at hx; exact hx
    have h1 := hc i (by omega)
    rw [Go.WideShapes.add_plain] at h1
    refine ⟨b, off, rfl, by rw [h1]; simp [List.getD, hx'], hs x (List.mem_of_getElem? hx')⟩
set_option maxRecDepth 100000 in
theorem open_two {fuel : Nat} {cs : List Value} {x : DataW H × List MemPlace} (h : DataW.trod enc Try.prog w 0 spare held fuel 43 cs = some x) : ∃ a b : Int, cs = [.int .i64 a, .int .i64 b] := by
  obtain ⟨xs, m, _, _, hl, hx, he⟩ := DataW.trod_array Try.underlying43 h
  have h2 : Try.prog.cellsOf 43 = 2 := by kernel_rfl
  have h1 : Try.prog.cellsOf 3 = 1 := by kernel_rfl
  rw [h2] at hl
  match cs, hl with
  | [v0, v1], _ =>
    have e0 := he 0 (by omega)
    have e1 := he 1 (by omega)
    rw [h1] at e0 e1
    match xs, hx with
    | [x0, x1], _ =>
      obtain ⟨a, ha, _⟩ := DataW.trod_int Try.underlying3 e0
      obtain ⟨b, hb, _⟩ := DataW.trod_int Try.underlying3 e1
      simp at ha hb
      exact ⟨a, b, by rw [ha, hb]⟩
set_option maxRecDepth 100000 in
theorem open_pairs {fuel : Nat} {v : Value} {x : DataW H × List MemPlace} (h : DataW.trod enc Try.prog w 0 spare held fuel 53 [v] = some x) : ∃ ps, PairsAt w v ps ∧ ps.length ≤ maxLen := by
  have h2 : Try.prog.cellsOf 43 = 2 := by kernel_rfl
  rcases Deep.open_slice Try.underlying53 h with ⟨hv, _⟩ | ⟨a, len, cap, m, n, D, Pl, hv, _, hl, hm, hlen, _, hc⟩
  · simp only [List.cons.injEq, and_true] at hv
    subst hv
    exact ⟨[], PairsAt.nil w, by decide⟩
  · simp only [List.cons.injEq, and_true] at hv
    subst hv
    have hge : len ≤ m := by rw [hlen]; split <;> omega
    obtain ⟨f, hf⟩ := Deep.choose_lt (α := Int × Int) (n := len) (p := fun i x => w.cell? (a.add (i * 2)) = some (.int .i64 x.1) ∧ w.cell? (a.add (i * 2 + 1)) = some (.int .i64 x.2)) (fun i hi => by
      obtain ⟨cs', h1, h3⟩ := hc i (by omega)
      obtain ⟨p, q, rfl⟩ := open_two h3
      rw [h2] at h1
      obtain ⟨_, _, hcell⟩ := World.cells?_some h1
      have c0 := hcell 0 (by omega)
      have c1 := hcell 1 (by omega)
      rw [Deep.add_add] at c0 c1
      exact ⟨(p, q), c0, c1⟩)
    refine ⟨(List.range len).map f, ⟨some a, cap, by simp, fun i x hx => ?_⟩, by simp; omega⟩
    have hi : i < len := by have := (List.getElem?_eq_some_iff.1 hx).1; simpa using this
    obtain ⟨b, off, rfl⟩ := spot_none (hf 0 (by omega)).1 rfl
    obtain rfl : x = f i := by
      rw [List.getElem?_map, List.getElem?_range hi] at hx
      simpa using hx.symm
    have := hf i hi
    rw [Go.WideShapes.add_plain, Go.WideShapes.add_plain] at this
    exact ⟨b, off, rfl, this.1, this.2⟩
set_option maxRecDepth 100000 in
theorem open_policy {r : Reach} {b0 : Nat} {v : Value} {d : DataW H} {p : List MemPlace} (hv : Value.okWide Try.prog w r b0 56 v) (h : DataW.Trod enc Try.prog w 0 spare held 56 v d p) :
    ∃ vn vb vp ss ps, v = .agg #[vn, vb, vp] ∧ NamesAt w vn ss ∧ PairsAt w vb ps ∧ ss.length ≤ maxLen ∧ ps.length ≤ maxLen := by
  obtain ⟨vn, vb, vp, y0, y1, y2, n, rfl, _, _, h0, h1, _⟩ := Joins.open_agg3 Try.underlying56 (by kernel_rfl) (by kernel_rfl) hv h
  obtain ⟨ss, hs, hl⟩ := open_names h0
  obtain ⟨ps, hp, hl2⟩ := open_pairs h1
  exact ⟨vn, vb, vp, ss, ps, rfl, hs, hp, hl, hl2⟩
set_option maxRecDepth 100000 in
theorem open_arr2 {r : Reach} {b0 : Nat} {v : Value} {d : DataW H} {p : List MemPlace} (hv : Value.okWide Try.prog w r b0 43 v) (h : DataW.Trod enc Try.prog w 0 spare held 43 v d p) :
    ∃ a b : Int, v = .agg #[.int .i64 a, .int .i64 b] := by
  obtain ⟨fuel, hf⟩ := h
  obtain ⟨cs, rfl⟩ : ∃ cs, v = .agg cs := by
    simp only [Value.okWide, Try.underlying43] at hv
    obtain ⟨cs, h1, _⟩ := hv
    exact ⟨cs, h1⟩
  obtain ⟨a, b, hab⟩ := open_two hf
  simp only [Value.cells] at hab
  exact ⟨a, b, by rw [← Array.toList_inj.1 (show cs.toList = #[Value.int .i64 a, Value.int .i64 b].toList from hab)]⟩
end
end Lv
end Go.Proofs.Ytelladgeehlkpaa
