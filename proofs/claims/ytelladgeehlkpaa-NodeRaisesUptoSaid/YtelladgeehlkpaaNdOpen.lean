/- A node as an argument: what its reading gives, and how long its texts and rows are at most. -/
import Derived.Test.YtelladgeehlkpaaPn
import Derived.Test.YtelladgeehlkpaaPr
namespace Go.Proofs.Ytelladgeehlkpaa
open Go.ChangeShapes Go.WideShapes Go.ChangeAt Go.RowKit
namespace Nd
open _root_.Go.Proofs.Ytelladgeehlkpaa.Nm _root_.Go.Proofs.Ytelladgeehlkpaa.Jv
theorem SnA.mk {B : Nat} {la de k c s : Int} {st : ByteArray} {items : List NV} {ks : List ByteArray} (h1 : st.size ≤ B) (h2 : ∀ x ∈ ks, x.size ≤ B) (h3 : ks.length ≤ B) (h4 : ∀ z ∈ items, SnA B z) : SnA B (.mk la de k c s st items ks) := fun n => by
  cases n with
  | zero => exact trivial
  | succ n => exact ⟨h1, h2, h3, fun z hz => h4 z hz n⟩
theorem Sn.mono {B C : Nat} (h : B ≤ C) : ∀ (n : Nat) {t : NV}, Sn B n t → Sn C n t
  | 0, _, _ => trivial
  | n + 1, _, ⟨h1, h2, h3, h4⟩ => ⟨Nat.le_trans h1 h, fun x hx => Nat.le_trans (h2 x hx) h, Nat.le_trans h3 h, fun z hz => Sn.mono h n (h4 z hz)⟩
theorem SnA.mono {B C : Nat} {t : NV} (h : SnA B t) (hl : B ≤ C) : SnA C t := fun n => Sn.mono hl n (h n)
instance : Inhabited Eight := ⟨⟨0, 0, 0, 0, 0, ⟨#[]⟩, .int .i64 0, .int .i64 0⟩⟩
instance : Inhabited NV := ⟨.mk 0 0 0 0 0 ⟨#[]⟩ [] []⟩
section
variable {H : Type}
theorem bulk_pos (d : DataW H) : 1 ≤ Rows.uptoBulk d := by
  cases d with
  | lit l => cases l <;> simp [Rows.uptoBulk]
  | _ => simp [Rows.uptoBulk]
theorem bulk_len : ∀ (l : List (DataW H)), l.length ≤ Rows.uptoBulkAll l
  | [] => Nat.zero_le _
  | d :: l => by
    have h1 := bulk_pos d
    have h2 := bulk_len l
    simp only [Rows.uptoBulkAll, List.length_cons]
    omega
end
theorem cellsNo : Try.prog.cellsOf 27 = 8 := by kernel_rfl
theorem cellsSNo : Try.prog.cellsOf 24 = 1 := by kernel_rfl
section
variable {H : Type} {enc : TypeId × Value → H} {w : World} {spare : Nat → Bool} {held : Bool}
theorem open_keysN {fuel : Nat} {v : Value} {x : DataW H × List MemPlace} (h : DataW.trod enc Try.prog w 0 spare held fuel 25 [v] = some x) : ∃ l, Ks w v l ∧ (∀ s ∈ l, s.size ≤ maxLen) ∧ (∀ s ∈ l, s.size ≤ Rows.uptoBulk x.1) ∧ l.length ≤ Rows.uptoBulk x.1 := by
  rcases open_strings Try.underlying25 Try.underlying9 (by kernel_rfl) h with ⟨hv, _⟩ | ⟨a, len, cap, ss, hv, _, hl, hm, hlen, hx, hc, hs⟩
  · simp only [List.cons.injEq, and_true] at hv
    subst hv
    exact ⟨[], Ks.nil0 w, fun s hs => by simp at hs, fun s hs => by simp at hs, Nat.zero_le _⟩
  · simp only [List.cons.injEq, and_true] at hv
    subst hv
    have hge : len ≤ ss.length := by rw [hlen]; split <;> omega
    have hle : (ss.take len).length = len := by simp; omega
    refine ⟨ss.take len, ⟨some a, cap, by rw [hle], by rw [hle]; exact hl, hm, fun h => by simp at h, fun h0 => ?_⟩, fun s hs' => hs s (List.mem_of_mem_take hs'), fun s hs' => by
      subst hx
      exact Nat.le_trans bulk_str (bulk_slice (l := strs (ss.take len)) (List.mem_map.2 ⟨s, hs', rfl⟩)), by
      subst hx
      have h1 := bulk_len (H := H) (strs (ss.take len))
      have h2 : (strs (H := H) (ss.take len)).length = (ss.take len).length := by simp [strs]
      simp only [Rows.uptoBulk]
      omega⟩
    rw [hle] at h0
    obtain ⟨b, off, rfl⟩ := spot_none (hc 0 (by omega))
    have hb := World.block_lt_of_cell? w _ (hc 0 (by omega))
    refine ⟨b, off, rfl, by simpa [Addr.add] using hb, fun j s hj => ?_⟩
    have hi : j < len := by have := (List.getElem?_eq_some_iff.1 hj).1; omega
    have hx' : ss[j]? = some s := by rw [List.getElem?_take, if_pos hi] at hj; exact hj
    have h1 := hc j (by omega)
    rw [Go.WideShapes.add_plain] at h1
    rw [h1]; simp [List.getD, hx']
set_option maxRecDepth 100000 in
theorem open_nodU : ∀ (fuel : Nat) {cs : List Value} {x : DataW H × List MemPlace}, DataW.trod enc Try.prog w 0 spare held fuel 27 cs = some x → w.noneFrozen x.2 → ∃ y t n, cs = Eight.cells y ∧ NT w n y t ∧ SnA (Rows.uptoBulk x.1) t := by
  intro fuel
  induction fuel using Nat.strongRecOn with
  | _ fuel ih =>
    intro cs x h hnf
    obtain ⟨xs, n, hn, rfl, hl, hxl, hf⟩ := DataW.trod_struct Try.underlying27 h
    rw [cellsNo] at hl
    match cs, hl, xs, hxl with
    | [va, vd, v0, v1, v2, v3, v4, v5], _, [ya, yd, y0, y1, y2, y3, y4], _ =>
      have ha := hf 0 _ rfl
      have hd := hf 1 _ rfl
      have h0 := hf 2 _ rfl
      have h1 := hf 3 _ rfl
      have h2 := hf 4 _ rfl
      have h3 := hf 5 _ rfl
      have h4 := hf 6 _ rfl
      have hnf3 : w.noneFrozen y3.2 := fun b off hm => hnf b off (List.mem_flatMap.2 ⟨y3, by simp, hm⟩)
      simp only [List.getElem?_cons_zero, List.getElem?_cons_succ] at ha hd h0 h1 h2 h3 h4
      obtain ⟨la, hla, _, hlaw⟩ := DataW.trod_int Try.underlying3 ha
      obtain ⟨de, hde, _, hdew⟩ := DataW.trod_int Try.underlying3 hd
      obtain ⟨k, hk, _, hkw⟩ := DataW.trod_int Try.underlying3 h0
      obtain ⟨zs, n', hn', _, _, hzl, hg⟩ := DataW.trod_struct Try.underlying23 h1
      match zs, hzl with
      | [z0, z1], _ =>
        have g0 := hg 0 _ rfl
        have g1 := hg 1 _ rfl
        simp only [List.getElem?_cons_zero, List.getElem?_cons_succ] at g0 g1
        obtain ⟨c, hc, _, hcw⟩ := DataW.trod_int Try.underlying2 g0
        obtain ⟨s, hs, _, hsw⟩ := DataW.trod_int Try.underlying3 g1
        obtain ⟨st, hst, hsx, hstl⟩ := DataW.trod_string Try.underlying9 h2
        obtain ⟨ks, hks, hksl, hksb, hksn⟩ := open_keysN h4
        obtain rfl := (List.cons.inj hla).1
        obtain rfl := (List.cons.inj hde).1
        obtain rfl := (List.cons.inj hk).1
        obtain rfl := (List.cons.inj hc).1
        obtain rfl := (List.cons.inj hs).1
        obtain rfl := (List.cons.inj hst).1
        have hsb : st.size ≤ Rows.uptoBulk (DataW.agg (H := H) ([ya, yd, y0, y1, y2, y3, y4].map (·.1))) := by
          subst hsx
          exact Nat.le_trans bulk_str (bulk_agg (by simp))
        have hkb : ∀ x ∈ ks, x.size ≤ Rows.uptoBulk (DataW.agg (H := H) ([ya, yd, y0, y1, y2, y3, y4].map (·.1))) := fun x hx => Nat.le_trans (hksb x hx) (bulk_agg (by simp))
        have hkn : ks.length ≤ Rows.uptoBulk (DataW.agg (H := H) ([ya, yd, y0, y1, y2, y3, y4].map (·.1))) := Nat.le_trans hksn (bulk_agg (by simp))
        have hB : Bd k c s st ks := ⟨i64_of hkw, i64_of hcw, i64_of hsw, hstl, hksl⟩
        have hBl : Bl la de := ⟨i64_of hlaw, i64_of hdew⟩
        rcases DataW.trod_slice Try.underlying24 h3 with ⟨hv, _⟩ | ⟨a, len, cap, elems, rest, n2, hn2, hv, hy3, _, hl', hm, hel, hall, _, _⟩
        · obtain rfl := (List.cons.inj hv).1
          exact ⟨⟨la, de, k, c, s, st, _, v5⟩, .mk la de k c s st [] ks, 1, rfl, ⟨rfl, rfl, rfl, rfl, rfl, rfl, hks, hB, hBl, [], Ns.nil0 w, rfl, fun j y z h => by simp at h⟩, SnA.mk hsb hkb hkn (fun z hz => by simp at hz)⟩
        · obtain rfl := (List.cons.inj hv).1
          have each : ∀ i, i < len → ∃ q : Eight × NV × Nat, (∀ j u, (Eight.cells q.1)[j]? = some u → w.cell? ((a.add (i * 8)).add j) = some u) ∧ NT w q.2.2 q.1 q.2.1 ∧ SnA (Rows.uptoBulk (DataW.agg (H := H) ([ya, yd, y0, y1, y2, y3, y4].map (·.1)))) q.2.1 := by
            intro i hi
            have h1 := hall i hi
            rw [cellsNo, List.getElem?_eq_getElem (show i < elems.length by omega)] at h1
            obtain ⟨cs', g1, g2⟩ := Option.bind_eq_some_iff.1 h1
            have hnfe : w.noneFrozen (elems[i]'(by omega)).2 := fun b off hm => hnf3 b off (by rw [hy3]; exact List.mem_append.2 (.inr (List.mem_flatMap.2 ⟨elems[i]'(by omega), List.mem_append.2 (.inl (List.getElem_mem _)), hm⟩)))
            obtain ⟨y, t, n', rfl, hvt, hsm⟩ := ih n2 (by omega) g2 hnfe
            obtain ⟨_, _, hcell⟩ := World.cells?_some g1
            have hsm2 := hsm.mono (Nat.le_trans (bulk_slice (l := elems.map (·.1)) (r := rest.map (·.1)) (List.mem_map.2 ⟨_, List.getElem_mem (show i < elems.length by omega), rfl⟩)) (by
              have e3 : y3.1 = .slice (elems.map (·.1)) (rest.map (·.1)) := by rw [hy3]
              rw [← e3]
              exact bulk_agg (d := y3.1) (l := [ya, yd, y0, y1, y2, y3, y4].map (·.1)) (by simp)))
            refine ⟨(y, t, n'), fun j u hu => ?_, hvt, hsm2⟩
            have hj : j < 8 := by have := (List.getElem?_eq_some_iff.1 hu).1; simpa [Eight.cells] using this
            rw [hcell j hj]
            exact hu
          obtain ⟨f, hfq⟩ := choose_lt' each
          obtain ⟨N, hN⟩ := Deep.fuel_lt (n := len) (q := fun i m => NT w m (f i).1 (f i).2.1) (fun i p q hpq h => NT.mono p hpq h) (fun i hi => ⟨(f i).2.2, (hfq i hi).2.1⟩)
          refine ⟨⟨la, de, k, c, s, st, _, v5⟩, .mk la de k c s st ((List.range len).map fun i => (f i).2.1) ks, N + 1, rfl, ⟨rfl, rfl, rfl, rfl, rfl, rfl, hks, hB, hBl, (List.range len).map fun i => (f i).1, ?_, by simp [NV.items], ?_⟩, SnA.mk hsb hkb hkn (fun z hz => ?_)⟩
          · refine ⟨some a, cap, by simp, by simpa using hl', hm, fun h => by simp at h, fun h0 => ?_⟩
            have h0 : 0 < len := by simpa using h0
            have hc0 := (hfq 0 h0).1 0 _ rfl
            rw [Deep.add_add, Nat.zero_mul, Nat.zero_add] at hc0
            obtain ⟨b, off, rfl⟩ := spot_none hc0
            have hb := World.block_lt_of_cell? w _ hc0
            have hfr : w.frozen? ⟨b, off, none⟩ = false := hnf3 b off (by
              rw [hy3]
              refine List.mem_append.2 (.inl (List.mem_map.2 ⟨0, List.mem_range.2 ?_, by simp⟩))
              rw [cellsNo]
              omega)
            refine ⟨b, off, rfl, by simpa [Addr.add] using hb, hfr, fun j x hj => ?_⟩
            have hi : j < len := by have := (List.getElem?_eq_some_iff.1 hj).1; simpa using this
            obtain rfl : x = (f j).1 := by
              rw [List.getElem?_map, List.getElem?_range hi] at hj
              simpa using hj.symm
            have hh := (hfq j hi).1
            have e : ∀ p, (Addr.add (⟨b, off, none⟩ : Addr) (j * 8)).add p = ⟨b, off + j * 8 + p, none⟩ := fun p => by
              rw [Deep.add_add, Go.WideShapes.add_plain, Nat.add_assoc]
            have q0 := hh 0 _ rfl
            have q1 := hh 1 _ rfl
            have q2 := hh 2 _ rfl
            have q3 := hh 3 _ rfl
            have q4 := hh 4 _ rfl
            have q5 := hh 5 _ rfl
            have q6 := hh 6 _ rfl
            have q7 := hh 7 _ rfl
            rw [e] at q0 q1 q2 q3 q4 q5 q6 q7
            exact ⟨q0, q1, q2, q3, q4, q5, q6, q7⟩
          · intro j y z hy hz
            have hi : j < len := by have := (List.getElem?_eq_some_iff.1 hy).1; simpa using this
            obtain rfl : y = (f j).1 := by
              rw [List.getElem?_map, List.getElem?_range hi] at hy
              simpa using hy.symm
            obtain rfl : z = (f j).2.1 := by
              have hz' : ((List.range len).map fun i => (f i).2.1)[j]? = some z := hz
              rw [List.getElem?_map, List.getElem?_range hi] at hz'
              simpa using hz'.symm
            exact hN j hi
          · obtain ⟨i, hi, rfl⟩ := List.mem_map.1 hz
            exact (hfq i (by simpa using hi)).2.2
set_option maxRecDepth 100000 in
theorem open_nodeU {r : Reach} {b0 : Nat} {v : Value} {d : DataW H} {p : List MemPlace} (hv : Value.okWide Try.prog w r b0 27 v) (h : DataW.Trod enc Try.prog w 0 spare held 27 v d p) (hnf : w.noneFrozen p) : ∃ y t n, v = Eight.val y ∧ NT w n y t ∧ SnA (Rows.uptoBulk d) t := by
  obtain ⟨fuel, hf⟩ := h
  obtain ⟨cs, rfl, _⟩ := okWide_struct Try.underlying27 hv
  obtain ⟨y, t, n, hc, hvt, hsm⟩ := open_nodU fuel hf hnf
  have e : cs.toList = Eight.cells y := hc
  refine ⟨y, t, n, ?_, hvt, hsm⟩
  show Value.agg cs = _
  rw [← Array.toArray_toList (xs := cs), e]
  rfl
end
end Nd
end Go.Proofs.Ytelladgeehlkpaa
