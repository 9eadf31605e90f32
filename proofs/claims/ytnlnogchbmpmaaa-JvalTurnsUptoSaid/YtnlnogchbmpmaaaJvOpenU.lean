/- A value, and two values, as arguments: what their reading gives, and how long their texts are at most. -/
import Derived.Test.YtnlnogchbmpmaaaJvOpen2
import Derived.Test.YtnlnogchbmpmaaaJvIsM
import Derived.Test.YtnlnogchbmpmaaaRows
namespace Go.Proofs.Ytnlnogchbmpmaaa
open Go.ChangeShapes Go.WideShapes Go.ChangeAt Go.RowKit
namespace Jv
open _root_.Go.Proofs.Ytnlnogchbmpmaaa.Nm
section
variable {H : Type}
theorem bulk_part {d : DataW H} : ∀ {l : List (DataW H)}, d ∈ l → Rows.uptoBulk d ≤ Rows.uptoBulkAll l
  | x :: r, h => by
    simp only [Rows.uptoBulkAll]
    rcases List.mem_cons.1 h with rfl | h
    · omega
    · have := bulk_part h; omega
theorem bulk_str {s : ByteArray} : s.size ≤ Rows.uptoBulk (DataW.lit (H := H) (.string s.data.toList)) := by
  simp [Rows.uptoBulk]
theorem bulk_agg {d : DataW H} {l : List (DataW H)} (h : d ∈ l) : Rows.uptoBulk d ≤ Rows.uptoBulk (.agg l) := by
  have := bulk_part h
  simp only [Rows.uptoBulk]; omega
theorem bulk_slice {d : DataW H} {l r : List (DataW H)} (h : d ∈ l) : Rows.uptoBulk d ≤ Rows.uptoBulk (.slice l r) := by
  have := bulk_part h
  simp only [Rows.uptoBulk]; omega
end
theorem SmA.mk {B : Nat} {k c s : Int} {st : ByteArray} {items : List JV} {ks : List ByteArray} (h1 : st.size ≤ B) (h2 : ∀ x ∈ ks, x.size ≤ B) (h3 : ∀ z ∈ items, SmA B z) : SmA B (.mk k c s st items ks) := fun n => by
  cases n with
  | zero => exact trivial
  | succ n => exact ⟨h1, h2, fun z hz => h3 z hz n⟩
theorem SmA.mono {B C : Nat} {t : JV} (h : SmA B t) (hl : B ≤ C) : SmA C t := fun n => Sm.mono hl n (h n)
section
variable {H : Type} {enc : TypeId × Value → H} {w : World} {spare : Nat → Bool} {held : Bool}
theorem open_keysU {fuel : Nat} {v : Value} {x : DataW H × List MemPlace} (h : DataW.trod enc Try.prog w 0 spare held fuel 25 [v] = some x) : ∃ l, Ks w v l ∧ (∀ s ∈ l, s.size ≤ maxLen) ∧ ∀ s ∈ l, s.size ≤ Rows.uptoBulk x.1 := by
  rcases open_strings Try.underlying25 Try.underlying9 (by kernel_rfl) h with ⟨hv, _⟩ | ⟨a, len, cap, ss, hv, _, hl, hm, hlen, hx, hc, hs⟩
  · simp only [List.cons.injEq, and_true] at hv
    subst hv
    exact ⟨[], Ks.nil0 w, fun s hs => by simp at hs, fun s hs => by simp at hs⟩
  · simp only [List.cons.injEq, and_true] at hv
    subst hv
    have hge : len ≤ ss.length := by rw [hlen]; split <;> omega
    have hle : (ss.take len).length = len := by simp; omega
    refine ⟨ss.take len, ⟨some a, cap, by rw [hle], by rw [hle]; exact hl, hm, fun h => by simp at h, fun h0 => ?_⟩, fun s hs' => hs s (List.mem_of_mem_take hs'), fun s hs' => by
      subst hx
      exact Nat.le_trans bulk_str (bulk_slice (l := strs (ss.take len)) (List.mem_map.2 ⟨s, hs', rfl⟩))⟩
    rw [hle] at h0
    obtain ⟨b, off, rfl⟩ := spot_none (hc 0 (by omega))
    have hb := World.block_lt_of_cell? w _ (hc 0 (by omega))
    refine ⟨b, off, rfl, by simpa [Addr.add] using hb, fun j s hj => ?_⟩
    have hi : j < len := by have := (List.getElem?_eq_some_iff.1 hj).1; omega
    have hx' : ss[j]? = some s := by rw [List.getElem?_take, if_pos hi] at hj; exact hj
    have h1 := hc j (by omega)
    rw [Go.WideShapes.add_plain] at h1
    rw [h1]; simp [List.getD, hx']
set_option maxRecDepth 100000 in
theorem open_valU : ∀ (fuel : Nat) {cs : List Value} {x : DataW H × List MemPlace}, DataW.trod enc Try.prog w 0 spare held fuel 27 cs = some x → ∃ y t n, cs = Six.cells y ∧ VT w n y t ∧ SmA (Rows.uptoBulk x.1) t := by
  intro fuel
  induction fuel using Nat.strongRecOn with
  | _ fuel ih =>
    intro cs x h
    obtain ⟨xs, n, hn, rfl, hl, hxl, hf⟩ := DataW.trod_struct Try.underlying27 h
    rw [cellsV] at hl
    match cs, hl, xs, hxl with
    | [v0, v1, v2, v3, v4, v5], _, [y0, y1, y2, y3, y4], _ =>
      have h0 := hf 0 _ rfl
      have h1 := hf 1 _ rfl
      have h2 := hf 2 _ rfl
      have h3 := hf 3 _ rfl
      have h4 := hf 4 _ rfl
      simp only [cellsI, cellsN, cellsS, cellsSV, cellsSS, List.drop_zero, List.drop_succ_cons, List.take_succ_cons, List.take_zero, List.getElem?_cons_zero, List.getElem?_cons_succ] at h0 h1 h2 h3 h4
      obtain ⟨k, hk, _, hkw⟩ := DataW.trod_int Try.underlying3 h0
      obtain ⟨zs, n', hn', _, _, hzl, hg⟩ := DataW.trod_struct Try.underlying23 h1
      match zs, hzl with
      | [z0, z1], _ =>
        have g0 := hg 0 _ rfl
        have g1 := hg 1 _ rfl
        simp only [cellsI, cellsI64, List.drop_zero, List.drop_succ_cons, List.take_succ_cons, List.take_zero, List.getElem?_cons_zero, List.getElem?_cons_succ] at g0 g1
        obtain ⟨c, hc, _, hcw⟩ := DataW.trod_int Try.underlying2 g0
        obtain ⟨s, hs, _, hsw⟩ := DataW.trod_int Try.underlying3 g1
        obtain ⟨st, hst, hsx, hstl⟩ := DataW.trod_string Try.underlying9 h2
        obtain ⟨ks, hks, hksl, hksb⟩ := open_keysU h4
        obtain rfl := (List.cons.inj hk).1
        obtain rfl := (List.cons.inj hc).1
        obtain rfl := (List.cons.inj hs).1
        obtain rfl := (List.cons.inj hst).1
        have hsb : st.size ≤ Rows.uptoBulk (DataW.agg (H := H) ([y0, y1, y2, y3, y4].map (·.1))) := by
          subst hsx
          exact Nat.le_trans bulk_str (bulk_agg (by simp))
        have hkb : ∀ x ∈ ks, x.size ≤ Rows.uptoBulk (DataW.agg (H := H) ([y0, y1, y2, y3, y4].map (·.1))) := fun x hx => Nat.le_trans (hksb x hx) (bulk_agg (by simp))
        have hB : Bd k c s st ks := ⟨i64_of hkw, i64_of hcw, i64_of hsw, hstl, hksl⟩
        rcases DataW.trod_slice Try.underlying24 h3 with ⟨hv, _⟩ | ⟨a, len, cap, elems, rest, n2, hn2, hv, hy3, _, hl', hm, hel, hall, _, _⟩
        · obtain rfl := (List.cons.inj hv).1
          exact ⟨⟨k, c, s, st, _, v5⟩, .mk k c s st [] ks, 1, rfl, ⟨rfl, rfl, rfl, rfl, hks, hB, [], Vs.nil0 w, rfl, fun j y z h => by simp at h⟩, SmA.mk hsb hkb (fun z hz => by simp at hz)⟩
        · obtain rfl := (List.cons.inj hv).1
          have each : ∀ i, i < len → ∃ q : Six × JV × Nat, (∀ j u, (Six.cells q.1)[j]? = some u → w.cell? ((a.add (i * 6)).add j) = some u) ∧ VT w q.2.2 q.1 q.2.1 ∧ SmA (Rows.uptoBulk (DataW.agg (H := H) ([y0, y1, y2, y3, y4].map (·.1)))) q.2.1 := by
            intro i hi
            have h1 := hall i hi
            rw [cellsV, List.getElem?_eq_getElem (show i < elems.length by omega)] at h1
            obtain ⟨cs', g1, g2⟩ := Option.bind_eq_some_iff.1 h1
            obtain ⟨y, t, n', rfl, hvt, hsm⟩ := ih n2 (by omega) g2
            obtain ⟨_, _, hcell⟩ := World.cells?_some g1
            have hsm2 := hsm.mono (Nat.le_trans (bulk_slice (l := elems.map (·.1)) (r := rest.map (·.1)) (List.mem_map.2 ⟨_, List.getElem_mem (show i < elems.length by omega), rfl⟩)) (by
              have e3 : y3.1 = .slice (elems.map (·.1)) (rest.map (·.1)) := by rw [hy3]
              rw [← e3]
              exact bulk_agg (d := y3.1) (l := [y0, y1, y2, y3, y4].map (·.1)) (by simp)))
            refine ⟨(y, t, n'), fun j u hu => ?_, hvt, hsm2⟩
            have hj : j < 6 := by have := (List.getElem?_eq_some_iff.1 hu).1; simpa [Six.cells] using this
            rw [hcell j hj]
            exact hu
          obtain ⟨f, hfq⟩ := choose_lt' each
          obtain ⟨N, hN⟩ := Deep.fuel_lt (n := len) (q := fun i m => VT w m (f i).1 (f i).2.1) (fun i p q hpq h => VT.mono p hpq h) (fun i hi => ⟨(f i).2.2, (hfq i hi).2.1⟩)
          refine ⟨⟨k, c, s, st, _, v5⟩, .mk k c s st ((List.range len).map fun i => (f i).2.1) ks, N + 1, rfl, ⟨rfl, rfl, rfl, rfl, hks, hB, (List.range len).map fun i => (f i).1, ?_, by simp [JV.items], ?_⟩, SmA.mk hsb hkb (fun z hz => ?_)⟩
          · refine ⟨some a, cap, by simp, by simpa using hl', hm, fun h => by simp at h, fun h0 => ?_⟩
            have h0 : 0 < len := by simpa using h0
            have hc0 := (hfq 0 h0).1 0 _ rfl
            rw [Deep.add_add, Nat.zero_mul, Nat.zero_add] at hc0
            obtain ⟨b, off, rfl⟩ := spot_none hc0
            have hb := World.block_lt_of_cell? w _ hc0
            refine ⟨b, off, rfl, by simpa [Addr.add] using hb, fun j x hj => ?_⟩
            have hi : j < len := by have := (List.getElem?_eq_some_iff.1 hj).1; simpa using this
            obtain rfl : x = (f j).1 := by
              rw [List.getElem?_map, List.getElem?_range hi] at hj
              simpa using hj.symm
            have hh := (hfq j hi).1
            have e : ∀ p, (Addr.add (⟨b, off, none⟩ : Addr) (j * 6)).add p = ⟨b, off + j * 6 + p, none⟩ := fun p => by
              rw [Deep.add_add, Go.WideShapes.add_plain, Nat.add_assoc]
            have q0 := hh 0 _ rfl
            have q1 := hh 1 _ rfl
            have q2 := hh 2 _ rfl
            have q3 := hh 3 _ rfl
            have q4 := hh 4 _ rfl
            have q5 := hh 5 _ rfl
            rw [e] at q0 q1 q2 q3 q4 q5
            exact ⟨q0, q1, q2, q3, q4, q5⟩
          · intro j y z hy hz
            have hi : j < len := by have := (List.getElem?_eq_some_iff.1 hy).1; simpa using this
            obtain rfl : y = (f j).1 := by
              rw [List.getElem?_map, List.getElem?_range hi] at hy
              simpa using hy.symm
            obtain rfl : z = (f j).2.1 := by
              have hz' : ((List.range len).map fun i => (f i).2.1)[j]? = some z := hz
              rw [List.getElem?_map, List.getElem?_range hi] at hz'
              simpa using hz'.symm
            exact hN j hi
          · obtain ⟨i, hi, rfl⟩ := List.mem_map.1 hz
            exact (hfq i (by simpa using hi)).2.2
set_option maxRecDepth 100000 in
theorem open_valueU {r : Reach} {b0 : Nat} {v : Value} {d : DataW H} {p : List MemPlace} (hv : Value.okWide Try.prog w r b0 27 v) (h : DataW.Trod enc Try.prog w 0 spare held 27 v d p) : ∃ y t n, v = Six.val y ∧ VT w n y t ∧ SmA (Rows.uptoBulk d) t := by
  obtain ⟨fuel, hf⟩ := h
  obtain ⟨cs, rfl, _⟩ := okWide_struct Try.underlying27 hv
  obtain ⟨y, t, n, hc, hvt, hsm⟩ := open_valU fuel hf
  have e : cs.toList = Six.cells y := hc
  refine ⟨y, t, n, ?_, hvt, hsm⟩
  show Value.agg cs = _
  rw [← Array.toArray_toList (xs := cs), e]
  rfl
set_option maxRecDepth 100000 in
theorem open_two_vU {fuel : Nat} {cs : List Value} {x : DataW H × List MemPlace} (h : DataW.trod enc Try.prog w 0 spare held fuel 34 cs = some x) : ∃ y z ty tz n, cs = Six.cells y ++ Six.cells z ∧ VT w n y ty ∧ VT w n z tz ∧ SmA (Rows.uptoBulk x.1) ty ∧ SmA (Rows.uptoBulk x.1) tz := by
  obtain ⟨xs, n, hn, rfl, hl, hx, he⟩ := DataW.trod_array Try.underlying34 h
  rw [show Try.prog.cellsOf 34 = 12 by kernel_rfl] at hl
  have e0 := he 0 (by omega)
  have e1 := he 1 (by omega)
  rw [cellsV] at e0 e1
  match xs, hx with
  | [x0, x1], _ =>
    obtain ⟨y, ty, n1, h1, v1, q1⟩ := open_valU n e0
    obtain ⟨z, tz, n2, h2, v2, q2⟩ := open_valU n e1
    refine ⟨y, z, ty, tz, n1 + n2, ?_, VT.mono n1 (by omega) v1, VT.mono n2 (by omega) v2, q1.mono (bulk_agg (by simp)), q2.mono (bulk_agg (by simp))⟩
    rw [← h1, ← h2]
    have e : (cs.drop (1 * 6)).take 6 = cs.drop 6 := List.take_of_length_le (by rw [List.length_drop]; omega)
    rw [e, Nat.zero_mul, List.drop_zero, List.take_append_drop]
set_option maxRecDepth 100000 in
theorem open_arr2vU {r : Reach} {b0 : Nat} {v : Value} {d : DataW H} {p : List MemPlace} (hv : Value.okWide Try.prog w r b0 34 v) (h : DataW.Trod enc Try.prog w 0 spare held 34 v d p) :
    ∃ y z ty tz n, v = .agg (Six.cells y ++ Six.cells z).toArray ∧ VT w n y ty ∧ VT w n z tz ∧ SmA (Rows.uptoBulk d) ty ∧ SmA (Rows.uptoBulk d) tz := by
  obtain ⟨fuel, hf⟩ := h
  obtain ⟨cs, rfl⟩ : ∃ cs, v = .agg cs := by
    simp only [Value.okWide, Try.underlying34] at hv
    obtain ⟨cs, h1, _⟩ := hv
    exact ⟨cs, h1⟩
  obtain ⟨y, z, ty, tz, n, hab, h1, h2, h3, h4⟩ := open_two_vU hf
  simp only [Value.cells] at hab
  exact ⟨y, z, ty, tz, n, by rw [← hab], h1, h2, h3, h4⟩
end
end Jv
end Go.Proofs.Ytnlnogchbmpmaaa
