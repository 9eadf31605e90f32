/- A value, and a row of values, as arguments: what their reading gives. -/
import Derived.Test.YtelladgeehlkpaaPb
import Derived.Deep.Slices
import Derived.ChangeSlices
import Derived.Lib.SmallJoins
import Derived.ProofKit
import Derived.Test.YtelladgeehlkpaaRows
import Derived.OpenShut
import Derived.Test.YtelladgeehlkpaaPn
namespace Go.Proofs.Ytelladgeehlkpaa
open Go.ChangeShapes Go.WideShapes Go.ChangeAt Go.RowKit
namespace Jv
open _root_.Go.Proofs.Ytelladgeehlkpaa.Nm
theorem choose_lt' {α : Type} {n : Nat} {p : Nat → α → Prop} (h : ∀ i, i < n → ∃ x, p i x) [Inhabited α] : ∃ f : Nat → α, ∀ i, i < n → p i (f i) := Deep.choose_lt h
instance : Inhabited Six := ⟨⟨0, 0, 0, ⟨#[]⟩, .int .i64 0, .int .i64 0⟩⟩
instance : Inhabited JV := ⟨.mk 0 0 0 ⟨#[]⟩ [] []⟩
section
variable {H : Type} {enc : TypeId × Value → H} {w : World} {spare : Nat → Bool} {held : Bool}
theorem spot_none {a : Addr} {v : Value} (h : w.cell? (a.add 0) = some v) : ∃ b off, a = ⟨b, off, none⟩ := by
  obtain ⟨b, off, spot⟩ := a
  have hspot : spot = none := by simpa [Addr.add] using World.cell?_spot h
  exact ⟨b, off, by rw [hspot]⟩
theorem open_keys {fuel : Nat} {v : Value} {x : DataW H × List MemPlace} (h : DataW.trod enc Try.prog w 0 spare held fuel 25 [v] = some x) : ∃ l, Ks w v l ∧ ∀ s ∈ l, s.size ≤ maxLen := by
  rcases open_strings Try.underlying25 Try.underlying9 (by kernel_rfl) h with ⟨hv, _⟩ | ⟨a, len, cap, ss, hv, _, hl, hm, hlen, _, hc, hs⟩
  · simp only [List.cons.injEq, and_true] at hv
    subst hv
    exact ⟨[], Ks.nil0 w, fun s hs => by simp at hs⟩
  · simp only [List.cons.injEq, and_true] at hv
    subst hv
    have hge : len ≤ ss.length := by rw [hlen]; split <;> omega
    have hle : (ss.take len).length = len := by simp; omega
    refine ⟨ss.take len, ⟨some a, cap, by rw [hle], by rw [hle]; exact hl, hm, fun h => by simp at h, fun h0 => ?_⟩, fun s hs' => hs s (List.mem_of_mem_take hs')⟩
    rw [hle] at h0
    obtain ⟨b, off, rfl⟩ := spot_none (hc 0 (by omega))
    have hb := World.block_lt_of_cell? w _ (hc 0 (by omega))
    refine ⟨b, off, rfl, by simpa [Addr.add] using hb, fun j s hj => ?_⟩
    have hi : j < len := by have := (List.getElem?_eq_some_iff.1 hj).1; omega
    have hx' : ss[j]? = some s := by rw [List.getElem?_take, if_pos hi] at hj; exact hj
    have h1 := hc j (by omega)
    rw [Go.WideShapes.add_plain] at h1
    rw [h1]; simp [List.getD, hx']
theorem cellsV : Try.prog.cellsOf 62 = 6 := by kernel_rfl
theorem cellsN : Try.prog.cellsOf 23 = 2 := by kernel_rfl
theorem cellsI : Try.prog.cellsOf 3 = 1 := by kernel_rfl
theorem cellsI64 : Try.prog.cellsOf 2 = 1 := by kernel_rfl
theorem cellsS : Try.prog.cellsOf 9 = 1 := by kernel_rfl
theorem cellsSV : Try.prog.cellsOf 60 = 1 := by kernel_rfl
theorem cellsSS : Try.prog.cellsOf 25 = 1 := by kernel_rfl
theorem i64_of {n : Int} (h : (Lit.int .i64 n).wf = true) : -9223372036854775808 ≤ n ∧ n < 9223372036854775808 := by
  simp [Lit.wf, IntKind.min, IntKind.max, IntKind.signed, IntKind.bits] at h
  omega
set_option maxRecDepth 100000 in
theorem open_val : ∀ (fuel : Nat) {cs : List Value} {x : DataW H × List MemPlace}, DataW.trod enc Try.prog w 0 spare held fuel 62 cs = some x → ∃ y t n, cs = Six.cells y ∧ VT w n y t := by
  intro fuel
  induction fuel using Nat.strongRecOn with
  | _ fuel ih =>
    intro cs x h
    obtain ⟨xs, n, hn, _, hl, hxl, hf⟩ := DataW.trod_struct Try.underlying62 h
    rw [cellsV] at hl
    match cs, hl, xs, hxl with
    | [v0, v1, v2, v3, v4, v5], _, [y0, y1, y2, y3, y4], _ =>
      have h0 := hf 0 _ rfl
      have h1 := hf 1 _ rfl
      have h2 := hf 2 _ rfl
      have h3 := hf 3 _ rfl
      have h4 := hf 4 _ rfl
      simp only [List.getElem?_cons_zero, List.getElem?_cons_succ] at h0 h1 h2 h3 h4
      obtain ⟨k, hk, _, hkw⟩ := DataW.trod_int Try.underlying3 h0
      obtain ⟨zs, n', hn', _, _, hzl, hg⟩ := DataW.trod_struct Try.underlying23 h1
      match zs, hzl with
      | [z0, z1], _ =>
        have g0 := hg 0 _ rfl
        have g1 := hg 1 _ rfl
        simp only [List.getElem?_cons_zero, List.getElem?_cons_succ] at g0 g1
        obtain ⟨c, hc, _, hcw⟩ := DataW.trod_int Try.underlying2 g0
        obtain ⟨s, hs, _, hsw⟩ := DataW.trod_int Try.underlying3 g1
        obtain ⟨st, hst, _, hstl⟩ := DataW.trod_string Try.underlying9 h2
        obtain ⟨ks, hks, hksl⟩ := open_keys h4
        obtain rfl := (List.cons.inj hk).1
        obtain rfl := (List.cons.inj hc).1
        obtain rfl := (List.cons.inj hs).1
        obtain rfl := (List.cons.inj hst).1
        have hB : Bd k c s st ks := ⟨i64_of hkw, i64_of hcw, i64_of hsw, hstl, hksl⟩
        rcases DataW.trod_slice Try.underlying60 h3 with ⟨hv, _⟩ | ⟨a, len, cap, elems, rest, n2, hn2, hv, _, _, hl', hm, hel, hall, _, _⟩
        · obtain rfl := (List.cons.inj hv).1
          exact ⟨⟨k, c, s, st, _, v5⟩, .mk k c s st [] ks, 1, rfl, rfl, rfl, rfl, rfl, hks, hB, [], Vs.nil0 w, rfl, fun j y z h => by simp at h⟩
        · obtain rfl := (List.cons.inj hv).1
          have each : ∀ i, i < len → ∃ q : Six × JV × Nat, (∀ j u, (Six.cells q.1)[j]? = some u → w.cell? ((a.add (i * 6)).add j) = some u) ∧ VT w q.2.2 q.1 q.2.1 := by
            intro i hi
            have h1 := hall i hi
            rw [cellsV, List.getElem?_eq_getElem (show i < elems.length by omega)] at h1
            obtain ⟨cs', g1, g2⟩ := Option.bind_eq_some_iff.1 h1
            obtain ⟨y, t, n', rfl, hvt⟩ := ih n2 (by omega) g2
            obtain ⟨_, _, hcell⟩ := World.cells?_some g1
            refine ⟨(y, t, n'), fun j u hu => ?_, hvt⟩
            have hj : j < 6 := by have := (List.getElem?_eq_some_iff.1 hu).1; simpa [Six.cells] using this
            rw [hcell j hj]
            exact hu
          obtain ⟨f, hfq⟩ := choose_lt' each
          obtain ⟨N, hN⟩ := Deep.fuel_lt (n := len) (q := fun i m => VT w m (f i).1 (f i).2.1) (fun i p q hpq h => VT.mono p hpq h) (fun i hi => ⟨(f i).2.2, (hfq i hi).2⟩)
          refine ⟨⟨k, c, s, st, _, v5⟩, .mk k c s st ((List.range len).map fun i => (f i).2.1) ks, N + 1, rfl, rfl, rfl, rfl, rfl, hks, hB, (List.range len).map fun i => (f i).1, ?_, by simp [JV.items], ?_⟩
          · refine ⟨some a, cap, by simp, by simpa using hl', hm, fun h => by simp at h, fun h0 => ?_⟩
            have h0 : 0 < len := by simpa using h0
            have hc0 := (hfq 0 h0).1 0 _ rfl
            rw [Deep.add_add, Nat.zero_mul, Nat.zero_add] at hc0
            obtain ⟨b, off, rfl⟩ := spot_none hc0
            have hb := World.block_lt_of_cell? w _ hc0
            refine ⟨b, off, rfl, by simpa [Addr.add] using hb, fun j x hj => ?_⟩
            have hi : j < len := by have := (List.getElem?_eq_some_iff.1 hj).1; simpa using this
            obtain rfl : x = (f j).1 := by
              rw [List.getElem?_map, List.getElem?_range hi] at hj
              simpa using hj.symm
            have hh := (hfq j hi).1
            have e : ∀ p, (Addr.add (⟨b, off, none⟩ : Addr) (j * 6)).add p = ⟨b, off + j * 6 + p, none⟩ := fun p => by
              rw [Deep.add_add, Go.WideShapes.add_plain, Nat.add_assoc]
            have q0 := hh 0 _ rfl
            have q1 := hh 1 _ rfl
            have q2 := hh 2 _ rfl
            have q3 := hh 3 _ rfl
            have q4 := hh 4 _ rfl
            have q5 := hh 5 _ rfl
            rw [e] at q0 q1 q2 q3 q4 q5
            exact ⟨q0, q1, q2, q3, q4, q5⟩
          · intro j y z hy hz
            have hi : j < len := by have := (List.getElem?_eq_some_iff.1 hy).1; simpa using this
            obtain rfl : y = (f j).1 := by
              rw [List.getElem?_map, List.getElem?_range hi] at hy
              simpa using hy.symm
            obtain rfl : z = (f j).2.1 := by
              have hz' : ((List.range len).map fun i => (f i).2.1)[j]? = some z := hz
              rw [List.getElem?_map, List.getElem?_range hi] at hz'
              simpa using hz'.symm
            exact hN j hi
set_option maxRecDepth 100000 in
theorem open_value {r : Reach} {b0 : Nat} {v : Value} {d : DataW H} {p : List MemPlace} (hv : Value.okWide Try.prog w r b0 62 v) (h : DataW.Trod enc Try.prog w 0 spare held 62 v d p) : ∃ y t n, v = Six.val y ∧ VT w n y t := by
  obtain ⟨fuel, hf⟩ := h
  obtain ⟨cs, rfl, _⟩ := okWide_struct Try.underlying62 hv
  obtain ⟨y, t, n, hc, hvt⟩ := open_val fuel hf
  have e : cs.toList = Six.cells y := hc
  refine ⟨y, t, n, ?_, hvt⟩
  show Value.agg cs = _
  rw [← Array.toArray_toList (xs := cs), e]
  rfl
end
end Jv
end Go.Proofs.Ytelladgeehlkpaa
namespace Go.Proofs.Ytelladgeehlkpaa
open Go.ChangeShapes Go.WideShapes Go.ChangeAt Go.RowKit
namespace Jv
open _root_.Go.Proofs.Ytelladgeehlkpaa.Nm
theorem own : ownKnob Try.prog.godebug = none := by kernel_rfl
theorem laidOut : laidOutB Try.prog = true := by kernel_rfl
section
variable {H : Type} {enc : TypeId × Value → H} {w : World} {spare : Nat → Bool} {held : Bool}
end
end Jv
end Go.Proofs.Ytelladgeehlkpaa
namespace Go.Proofs.Ytelladgeehlkpaa
open Go.ChangeShapes Go.WideShapes Go.ChangeAt Go.RowKit
namespace Jv
open _root_.Go.Proofs.Ytelladgeehlkpaa.Nm
section
variable {H : Type}
theorem bulk_part {d : DataW H} : ∀ {l : List (DataW H)}, d ∈ l → Rows.uptoBulk d ≤ Rows.uptoBulkAll l
  | x :: r, h => by
    simp only [Rows.uptoBulkAll]
    rcases List.mem_cons.1 h with rfl | h
    · omega
    · have := bulk_part h; omega
theorem bulk_str {s : ByteArray} : s.size ≤ Rows.uptoBulk (DataW.lit (H := H) (.string s.data.toList)) := by
  simp [Rows.uptoBulk]
theorem bulk_agg {d : DataW H} {l : List (DataW H)} (h : d ∈ l) : Rows.uptoBulk d ≤ Rows.uptoBulk (.agg l) := by
  have := bulk_part h
  simp only [Rows.uptoBulk]; omega
theorem bulk_slice {d : DataW H} {l r : List (DataW H)} (h : d ∈ l) : Rows.uptoBulk d ≤ Rows.uptoBulk (.slice l r) := by
  have := bulk_part h
  simp only [Rows.uptoBulk]; omega
end
theorem SmA.mk {B : Nat} {k c s : Int} {st : ByteArray} {items : List JV} {ks : List ByteArray} (h1 : st.size ≤ B) (h2 : ∀ x ∈ ks, x.size ≤ B) (h3 : ∀ z ∈ items, SmA B z) : SmA B (.mk k c s st items ks) := fun n => by
  cases n with
  | zero => exact trivial
  | succ n => exact ⟨h1, h2, fun z hz => h3 z hz n⟩
theorem SmA.mono {B C : Nat} {t : JV} (h : SmA B t) (hl : B ≤ C) : SmA C t := fun n => Sm.mono hl n (h n)
section
variable {H : Type} {enc : TypeId × Value → H} {w : World} {spare : Nat → Bool} {held : Bool}
theorem open_keysU {fuel : Nat} {v : Value} {x : DataW H × List MemPlace} (h : DataW.trod enc Try.prog w 0 spare held fuel 25 [v] = some x) : ∃ l, Ks w v l ∧ (∀ s ∈ l, s.size ≤ maxLen) ∧ ∀ s ∈ l, s.size ≤ Rows.uptoBulk x.1 := by
  rcases open_strings Try.underlying25 Try.underlying9 (by kernel_rfl) h with ⟨hv, _⟩ | ⟨a, len, cap, ss, hv, _, hl, hm, hlen, hx, hc, hs⟩
  · simp only [List.cons.injEq, and_true] at hv
    subst hv
    exact ⟨[], Ks.nil0 w, fun s hs => by simp at hs, fun s hs => by simp at hs⟩
  · simp only [List.cons.injEq, and_true] at hv
    subst hv
    have hge : len ≤ ss.length := by rw [hlen]; split <;> omega
    have hle : (ss.take len).length = len := by simp; omega
    refine ⟨ss.take len, ⟨some a, cap, by rw [hle], by rw [hle]; exact hl, hm, fun h => by simp at h, fun h0 => ?_⟩, fun s hs' => hs s (List.mem_of_mem_take hs'), fun s hs' => by
      subst hx
      exact Nat.le_trans bulk_str (bulk_slice (l := strs (ss.take len)) (List.mem_map.2 ⟨s, hs', rfl⟩))⟩
    rw [hle] at h0
    obtain ⟨b, off, rfl⟩ := spot_none (hc 0 (by omega))
    have hb := World.block_lt_of_cell? w _ (hc 0 (by omega))
    refine ⟨b, off, rfl, by simpa [Addr.add] using hb, fun j s hj => ?_⟩
    have hi : j < len := by have := (List.getElem?_eq_some_iff.1 hj).1; omega
    have hx' : ss[j]? = some s := by rw [List.getElem?_take, if_pos hi] at hj; exact hj
    have h1 := hc j (by omega)
    rw [Go.WideShapes.add_plain] at h1
    rw [h1]; simp [List.getD, hx']
set_option maxRecDepth 100000 in
theorem open_valU : ∀ (fuel : Nat) {cs : List Value} {x : DataW H × List MemPlace}, DataW.trod enc Try.prog w 0 spare held fuel 62 cs = some x → ∃ y t n, cs = Six.cells y ∧ VT w n y t ∧ SmA (Rows.uptoBulk x.1) t := by
  intro fuel
  induction fuel using Nat.strongRecOn with
  | _ fuel ih =>
    intro cs x h
    obtain ⟨xs, n, hn, rfl, hl, hxl, hf⟩ := DataW.trod_struct Try.underlying62 h
    rw [cellsV] at hl
    match cs, hl, xs, hxl with
    | [v0, v1, v2, v3, v4, v5], _, [y0, y1, y2, y3, y4], _ =>
      have h0 := hf 0 _ rfl
      have h1 := hf 1 _ rfl
      have h2 := hf 2 _ rfl
      have h3 := hf 3 _ rfl
      have h4 := hf 4 _ rfl
      simp only [List.getElem?_cons_zero, List.getElem?_cons_succ] at h0 h1 h2 h3 h4
      obtain ⟨k, hk, _, hkw⟩ := DataW.trod_int Try.underlying3 h0
      obtain ⟨zs, n', hn', _, _, hzl, hg⟩ := DataW.trod_struct Try.underlying23 h1
      match zs, hzl with
      | [z0, z1], _ =>
        have g0 := hg 0 _ rfl
        have g1 := hg 1 _ rfl
        simp only [List.getElem?_cons_zero, List.getElem?_cons_succ] at g0 g1
        obtain ⟨c, hc, _, hcw⟩ := DataW.trod_int Try.underlying2 g0
        obtain ⟨s, hs, _, hsw⟩ := DataW.trod_int Try.underlying3 g1
        obtain ⟨st, hst, hsx, hstl⟩ := DataW.trod_string Try.underlying9 h2
        obtain ⟨ks, hks, hksl, hksb⟩ := open_keysU h4
        obtain rfl := (List.cons.inj hk).1
        obtain rfl := (List.cons.inj hc).1
        obtain rfl := (List.cons.inj hs).1
        obtain rfl := (List.cons.inj hst).1
        have hsb : st.size ≤ Rows.uptoBulk (DataW.agg (H := H) ([y0, y1, y2, y3, y4].map (·.1))) := by
          subst hsx
          exact Nat.le_trans bulk_str (bulk_agg (by simp))
        have hkb : ∀ x ∈ ks, x.size ≤ Rows.uptoBulk (DataW.agg (H := H) ([y0, y1, y2, y3, y4].map (·.1))) := fun x hx => Nat.le_trans (hksb x hx) (bulk_agg (by simp))
        have hB : Bd k c s st ks := ⟨i64_of hkw, i64_of hcw, i64_of hsw, hstl, hksl⟩
        rcases DataW.trod_slice Try.underlying60 h3 with ⟨hv, _⟩ | ⟨a, len, cap, elems, rest, n2, hn2, hv, hy3, _, hl', hm, hel, hall, _, _⟩
        · obtain rfl := (List.cons.inj hv).1
          exact ⟨⟨k, c, s, st, _, v5⟩, .mk k c s st [] ks, 1, rfl, ⟨rfl, rfl, rfl, rfl, hks, hB, [], Vs.nil0 w, rfl, fun j y z h => by simp at h⟩, SmA.mk hsb hkb (fun z hz => by simp at hz)⟩
        · obtain rfl := (List.cons.inj hv).1
          have each : ∀ i, i < len → ∃ q : Six × JV × Nat, (∀ j u, (Six.cells q.1)[j]? = some u → w.cell? ((a.add (i * 6)).add j) = some u) ∧ VT w q.2.2 q.1 q.2.1 ∧ SmA (Rows.uptoBulk (DataW.agg (H := H) ([y0, y1, y2, y3, y4].map (·.1)))) q.2.1 := by
            intro i hi
            have h1 := hall i hi
            rw [cellsV, List.getElem?_eq_getElem (show i < elems.length by omega)] at h1
            obtain ⟨cs', g1, g2⟩ := Option.bind_eq_some_iff.1 h1
            obtain ⟨y, t, n', rfl, hvt, hsm⟩ := ih n2 (by omega) g2
            obtain ⟨_, _, hcell⟩ := World.cells?_some g1
            have hsm2 := hsm.mono (Nat.le_trans (bulk_slice (l := elems.map (·.1)) (r := rest.map (·.1)) (List.mem_map.2 ⟨_, List.getElem_mem (show i < elems.length by omega), rfl⟩)) (by
              have e3 : y3.1 = .slice (elems.map (·.1)) (rest.map (·.1)) := by rw [hy3]
              rw [← e3]
              exact bulk_agg (d := y3.1) (l := [y0, y1, y2, y3, y4].map (·.1)) (by simp)))
            refine ⟨(y, t, n'), fun j u hu => ?_, hvt, hsm2⟩
            have hj : j < 6 := by have := (List.getElem?_eq_some_iff.1 hu).1; simpa [Six.cells] using this
            rw [hcell j hj]
            exact hu
          obtain ⟨f, hfq⟩ := choose_lt' each
          obtain ⟨N, hN⟩ := Deep.fuel_lt (n := len) (q := fun i m => VT w m (f i).1 (f i).2.1) (fun i p q hpq h => VT.mono p hpq h) (fun i hi => ⟨(f i).2.2, (hfq i hi).2.1⟩)
          refine ⟨⟨k, c, s, st, _, v5⟩, .mk k c s st ((List.range len).map fun i => (f i).2.1) ks, N + 1, rfl, ⟨rfl, rfl, rfl, rfl, hks, hB, (List.range len).map fun i => (f i).1, ?_, by simp [JV.items], ?_⟩, SmA.mk hsb hkb (fun z hz => ?_)⟩
          · refine ⟨some a, cap, by simp, by simpa using hl', hm, fun h => by simp at h, fun h0 => ?_⟩
            have h0 : 0 < len := by simpa using h0
            have hc0 := (hfq 0 h0).1 0 _ rfl
            rw [Deep.add_add, Nat.zero_mul, Nat.zero_add] at hc0
            obtain ⟨b, off, rfl⟩ := spot_none hc0
            have hb := World.block_lt_of_cell? w _ hc0
            refine ⟨b, off, rfl, by simpa [Addr.add] using hb, fun j x hj => ?_⟩
            have hi : j < len := by have := (List.getElem?_eq_some_iff.1 hj).1; simpa using this
            obtain rfl : x = (f j).1 := by
              rw [List.getElem?_map, List.getElem?_range hi] at hj
              simpa using hj.symm
            have hh := (hfq j hi).1
            have e : ∀ p, (Addr.add (⟨b, off, none⟩ : Addr) (j * 6)).add p = ⟨b, off + j * 6 + p, none⟩ := fun p => by
              rw [Deep.add_add, Go.WideShapes.add_plain, Nat.add_assoc]
            have q0 := hh 0 _ rfl
            have q1 := hh 1 _ rfl
            have q2 := hh 2 _ rfl
            have q3 := hh 3 _ rfl
            have q4 := hh 4 _ rfl
            have q5 := hh 5 _ rfl
            rw [e] at q0 q1 q2 q3 q4 q5
            exact ⟨q0, q1, q2, q3, q4, q5⟩
          · intro j y z hy hz
            have hi : j < len := by have := (List.getElem?_eq_some_iff.1 hy).1; simpa using this
            obtain rfl : y = (f j).1 := by
              rw [List.getElem?_map, List.getElem?_range hi] at hy
              simpa using hy.symm
            obtain rfl : z = (f j).2.1 := by
              have hz' : ((List.range len).map fun i => (f i).2.1)[j]? = some z := hz
              rw [List.getElem?_map, List.getElem?_range hi] at hz'
              simpa using hz'.symm
            exact hN j hi
          · obtain ⟨i, hi, rfl⟩ := List.mem_map.1 hz
            exact (hfq i (by simpa using hi)).2.2
set_option maxRecDepth 100000 in
theorem open_valueU {r : Reach} {b0 : Nat} {v : Value} {d : DataW H} {p : List MemPlace} (hv : Value.okWide Try.prog w r b0 62 v) (h : DataW.Trod enc Try.prog w 0 spare held 62 v d p) : ∃ y t n, v = Six.val y ∧ VT w n y t ∧ SmA (Rows.uptoBulk d) t := by
  obtain ⟨fuel, hf⟩ := h
  obtain ⟨cs, rfl, _⟩ := okWide_struct Try.underlying62 hv
  obtain ⟨y, t, n, hc, hvt, hsm⟩ := open_valU fuel hf
  have e : cs.toList = Six.cells y := hc
  refine ⟨y, t, n, ?_, hvt, hsm⟩
  show Value.agg cs = _
  rw [← Array.toArray_toList (xs := cs), e]
  rfl
end
end Jv
end Go.Proofs.Ytelladgeehlkpaa
