/- What the document's Table makes: for each level a row of those that are above it. -/
import Derived.Test.YtmfdclnepmgmlaaLvTabMath
import Derived.Test.YtmfdclnepmgmlaaLvMem
import Derived.Lib.SmallJoins
namespace Go.Proofs.Ytmfdclnepmgmlaa
open Go.RowKit
namespace Lv
def rowA (n : Nat) (f : Nat → Bool) : Array Value := (Array.range n).map fun i => .bool (f i)
theorem rowA_at (n : Nat) (f : Nat → Bool) (i : Nat) (h : i < n) : (rowA n f)[i]? = some (.bool (f i)) := get_range h
theorem rowA_set (n : Nat) (f : Nat → Bool) (i : Nat) (v : Bool) : (rowA n f).setIfInBounds i (.bool v) = rowA n (fun z => if z = i then v else f z) := by
  apply Array.ext
  · simp [rowA]
  · intro k h1 h2
    have hk : k < (rowA n f).size := by simpa using h1
    rw [Array.getElem_setIfInBounds hk]
    simp only [rowA, Array.getElem_map, Array.getElem_range]
    by_cases h : i = k
    · subst h; simp
    · have : ¬ k = i := fun e => h e.symm
      simp [h, this]
theorem info_bool : (Try.prog.info? 4).map (fun i => (i.zero, i.size, i.bytes)) = some (some (.bool false), 1, 1) := by kernel_rfl
theorem info_row : (Try.prog.info? 46).map (fun i => (i.zero, i.size, i.bytes)) = some (some (.slice none 0 0), 1, 24) := by kernel_rfl
/-- a new row of bools -/
theorem wpList_makeRow {w : World} {ops : Array Oper} {rest : List Oper} {o : Oper} {a : Act} {Q : Exit → Act → World → Prop} (hg : o.guard = none) (l c : Operand) (hop : o.op = Op.makeSlice 46 l c) (n : Nat) (hl : a.eval l = .int .i64 (n : Int)) (hc : a.eval c = .int .i64 (n : Int)) (h8 : n ≤ 8)
    (hK : ∀ w', w'.heap[w.heap.size]? = some (.cells (rowA n fun _ => false) 4) → Below w.heap.size w w' → wpList Try.prog ops Q rest (a.put o.dst (.slice (some ⟨w.heap.size, 0, none⟩) n n)) w') :
    wpList Try.prog ops Q (o :: rest) a w := by
  obtain ⟨i0, hi, hz0, hz1, hz2⟩ := info_parts info_bool
  refine wpList_make_full w hg l c _ hop w.heap.size 4 i0 (.bool false) 1 Try.underlying46 hi hz0 hz1 .i64 .i64 n n n hl hc rfl rfl (by rw [hz2]; omega) (by unfold maxLen; omega) (Nat.le_refl _) fun w' h1 h2 => hK w' ?_ ?_
  · rcases h1.2 with ⟨hv, _⟩ | ⟨g, cap, cur, hv, _, hh, _, _, hs, ht⟩
    · cases hv
    · cases hv
      rw [hh]
      have e : cur = rowA n fun _ => false := by
        apply Array.toList_inj.1
        rw [← List.take_of_length_le (l := cur.toList) (i := n * 1) (by simp; omega), ht]
        simp [madeCells, rowA, Value.cells, Nat.mod_one]
      rw [e]
  · exact (Below.refl _ _).grown h2 (Nat.le_refl _) (fun k hk => by cases hk)
/-- only block g may have turned -/
structure Only (g : Nat) (w w' : World) : Prop where
  os : w'.os = w.os
  tape : w'.tape = w.tape
  output : w'.output = w.output
  size : w'.heap.size = w.heap.size
  block : ∀ k, k ≠ g → w'.heap[k]? = w.heap[k]?
theorem Only.refl (g : Nat) (w : World) : Only g w w := ⟨rfl, rfl, rfl, rfl, fun _ _ => rfl⟩
theorem Only.set {g : Nat} {w w' : World} (h : Only g w w') (o : Nat) (v : Value) : Only g w (w'.setCell ⟨g, o, none⟩ v) :=
  ⟨h.os, h.tape, h.output, by rw [← h.size]; simp [World.setCell], fun k hk => (heap_setCell_other _ _ _ _ hk).trans (h.block k hk)⟩
theorem Only.below {g B : Nat} {w0 w w' : World} (h : Only g w w') (hb : Below B w0 w) (hg : B ≤ g) : Below B w0 w' :=
  hb.trans ⟨h.os, h.tape, h.output, by rw [h.size]; exact Nat.le_refl _, fun k hk => h.block k (by omega)⟩
theorem Only.owns {g : Nat} {w w' : World} {base : Nat} {e : TypeId} {size n : Nat} {v : Value} {xs : List Value} (h : Only g w w') (ho : w.ownsRow base e size v n xs) (hne : w.heap.size ≤ g ∨ ∀ c t fr, w.heap[g]? = some (.cells c t fr) → t ≠ e) : w'.ownsRow base e size v n xs := by
  refine ⟨ho.1, ?_⟩
  rcases ho.2 with h0 | ⟨k, cap, cur, hv, hb, hh, r⟩
  · exact .inl h0
  · refine .inr ⟨k, cap, cur, hv, hb, ?_, r⟩
    rw [h.block k ?_]
    · exact hh
    · rintro rfl
      rcases hne with hne | hne
      · have := lt_of_some hh; omega
      · exact hne _ _ _ hh rfl
def slV (n g : Nat) : Value := .slice (some ⟨g, 0, none⟩) n n
/-- the rows that are made so far -/
structure RowsTo (ps : List (Int × Int)) (n base : Nat) (wr : World) (u : Value) (Rs : List Nat) : Prop where
  own : wr.ownsRow base 46 1 u Rs.length (Rs.map (slV n))
  row : ∀ (i g : Nat), Rs[i]? = some g → base ≤ g ∧ wr.heap[g]? = some (.cells (rowA n (tabR ps n i)) 4)
theorem RowsTo.go {ps : List (Int × Int)} {n base : Nat} {wr w1 : World} {u : Value} {Rs : List Nat} (h : RowsTo ps n base wr u Rs) (hb : Below wr.heap.size wr w1) : RowsTo ps n base w1 u Rs := by
  refine ⟨⟨h.own.1, ?_⟩, fun i g hi => ⟨(h.row i g hi).1, bkeep hb (h.row i g hi).2⟩⟩
  rcases h.own.2 with h0 | ⟨k, cap, cur, hv, hb', hh, r⟩
  · exact .inl h0
  · exact .inr ⟨k, cap, cur, hv, hb', bkeep hb hh, r⟩
theorem wpList_appendRow {ops : Array Oper} {rest : List Oper} {o : Oper} {a : Act} {w0 : World} {Q : Exit → Act → World → Prop} (hgd : o.guard = none) (s x : Operand)
    (ho : o.op = .call { callee := .builtin .append, args := #[s, x], argTypes := #[41, 41] }) (ps : List (Int × Int)) (n base : Nat) (u : Value) (Rs : List Nat) (g : Nat) (hs : a.eval s = u)
    (hx : a.eval x = .slice (some ⟨w0.heap.size, 0, none⟩) 1 1) (hR : RowsTo ps n base w0 u Rs) (hlen : Rs.length ≤ 8) (hbase : base ≤ w0.heap.size) (hg : base ≤ g) (hrow : w0.heap[g]? = some (.cells (rowA n (tabR ps n Rs.length)) 4))
    (h : ∀ v' w', RowsTo ps n base w' v' (Rs ++ [g]) → Below base w0 w' → wpList Try.prog ops Q rest (a.put o.dst v') w') :
    wpList Try.prog ops Q (o :: rest) a (w0.alloc (.cells #[.slice (some ⟨g, 0, none⟩) n n] 46)) := by
  obtain ⟨i0, hi, hz0, hz1, hz2⟩ := info_parts info_row
  refine wpList_append_own _ hgd s x 41 ho base 46 i0 (.slice none 0 0) 1 24 Try.underlying41 hi hz0 hz1 hz2 rfl (by decide) u Rs.length _ hs (hR.own.alloc _) ⟨w0.heap.size, 0, none⟩ 1 1 [slV n g] hx rfl ?_ ?_ ?_ ?_ ?_ ?_
  · intro j v hj
    match j, hj with
    | 0, hj =>
      cases hj
      exact cell_of_row _ _ 0 _ _ _ (al_new _ _)
  · intro v hv
    simp only [List.mem_singleton] at hv
    subst hv
    rfl
  · unfold maxLen; omega
  · omega
  · rw [al_size]; omega
  · intro v' w' h1 h2 _
    have keep : ∀ (k : Nat) (f : Nat → Bool), w0.heap[k]? = some (Obj.cells (rowA n f) 4) → w'.heap[k]? = some (Obj.cells (rowA n f) 4) := fun k f hk => by
      have hlt := lt_of_some hk
      rw [h2.block k (by rw [al_size]; omega) ?_, al_old _ _ _ hlt]
      · exact hk
      · intro e
        rcases hR.own.2 with ⟨h0, _⟩ | ⟨k', cap, cur, hv, _, hh, _⟩
        · rw [h0] at e; cases e
        · rw [hv] at e
          cases e
          rw [hk] at hh
          cases hh
    refine h v' w' ⟨by simpa using h1, fun i k hik => ?_⟩ (((Below.refl _ _).alloc hbase _).grown h2 (by rw [al_size]; omega) fun k hk => (hR.own.lt k hk).1)
    rw [List.getElem?_append] at hik
    split at hik
    · exact ⟨(hR.row i k hik).1, keep k _ (hR.row i k hik).2⟩
    · rename_i hge
      have hi0 : i - Rs.length < [g].length := (List.getElem?_eq_some_iff.1 hik).1
      simp only [List.length_singleton] at hi0
      obtain rfl : i = Rs.length := by omega
      rw [Nat.sub_self] at hik
      cases hik
      exact ⟨hg, keep g _ hrow⟩
theorem stepP_eq (n : Nat) (f : Nat → Bool) (p : Int × Int) (x y : Nat) (hp : p = ((x : Int), (y : Int))) : rowA n (stepP f p) = if f x = true then rowA n (fun z => if z = y then true else f z) else rowA n f := by
  subst hp
  unfold stepP
  simp only [Int.toNat_natCast]
  split
  · congr 1
    funext z
    by_cases h : z = y <;> simp [h]
  · rfl
theorem take_fold (ps : List (Int × Int)) (f : Nat → Bool) (i : Nat) (p : Int × Int) (h : ps[i]? = some p) : (ps.take (i + 1)).foldl stepP f = stepP ((ps.take i).foldl stepP f) p := by
  rw [List.take_add_one, h]
  simp
def TabPost (ps : List (Int × Int)) (n : Nat) (w : World) (e : Ending) (w' : World) : Prop := Below w.heap.size w w' ∧ ∃ v, e = .returned v ∧ TabAt w' v n (cl ps n)
theorem rows_tab {ps : List (Int × Int)} {n base : Nat} {wr : World} {u : Value} {Rs : List Nat} (h : RowsTo ps n base wr u Rs) (hl : Rs.length = n) (h1 : 1 ≤ n) (h8 : n ≤ 8) (hr : prB ps n = true) : TabAt wr u n (cl ps n) := by
  have ho := h.own
  rw [hl] at ho
  obtain ⟨g, cap, hv⟩ := Joins.ownsRow_form ho (by omega)
  subst hv
  refine ⟨g, cap, fun i => Rs.getD i 0, fun _ => n, rfl, fun a ha => ?_⟩
  obtain ⟨k, hk⟩ : ∃ k, Rs[a]? = some k := ⟨_, List.getElem?_eq_getElem (by omega)⟩
  have e : Rs.getD a 0 = k := by simp [List.getD, hk]
  dsimp only
  rw [e]
  refine ⟨by rw [ho.cellAt a (by omega), List.getElem?_map, hk]; rfl, fun b hb => ?_⟩
  rw [cell_of_row _ _ _ _ _ _ (h.row a k hk).2, rowA_at n _ b hb, tab_cl h8 hr a b ha]
set_option maxHeartbeats 2000000 in
set_option maxRecDepth 100000 in
theorem table_any (vn vb vp : Value) (ss : List ByteArray) (ps : List (Int × Int)) (w : World) (hs : NamesAt w vn ss) (hp : PairsAt w vb ps) (h1 : 1 ≤ ss.length) (h8 : ss.length ≤ 8) (hr : prB ps ss.length = true) :
    Calls Try.prog 14 #[.agg #[vn, vb, vp]] w (TabPost ps ss.length w) := by
  have hl : ps.length ≤ 64 := by
    have := hr
    unfold prB at this
    simp only [Bool.and_eq_true, decide_eq_true_eq] at this
    exact this.1
  have HR := Lib.hid hr
  clear hr
  obtain ⟨an, capn, rfl, _, _⟩ := hs.form
  obtain ⟨ab, capb, rfl, hc⟩ := hp.form
  have HC := Lib.hid hc
  clear hc hs hp
  go_enter Try.func14, Try.ntmps14
  go_wp2
  have kb0 : Below w.heap.size w (w.alloc (Obj.cells #[Value.slice an ss.length capn, Value.slice ab ps.length capb, vp] 28)) := (Below.refl _ _).alloc (Nat.le_refl _) _
  have f0 := al_new w (Obj.cells #[Value.slice an ss.length capn, Value.slice ab ps.length capb, vp] 28)
  have z0 := al_size w (Obj.cells #[Value.slice an ss.length capn, Value.slice ab ps.length capb, vp] 28)
  have F0 := Lib.hid f0
  have Z0 := Lib.hid z0
  clear f0 z0
  generalize w.alloc (Obj.cells #[Value.slice an ss.length capn, Value.slice ab ps.length capb, vp] 28) = w0 at kb0 F0 Z0
  generalize ss.length = n at *
  go_loopw [4, 5, 6, 7, 8] (fun u i _ _ _ wr => ∃ (a : Nat) (Rs : List Nat), a ≤ n ∧ i = .int .i64 a ∧ Rs.length = a ∧ Below w0.heap.size w0 wr ∧ RowsTo ps n w0.heap.size wr u Rs) (fun _ i _ _ _ _ => n - (intOf i).toNat)
  case atStart => exact ⟨0, [], by omega, rfl, rfl, Below.refl _ _, ⟨World.ownsRow_nil _ _ _ _, fun i g h => by simp at h⟩⟩
  case round =>
    obtain ⟨a, Rs, ha, rfl, hRl, kb, hR⟩ := hrel
    have HRl := Lib.hid hRl
    clear hRl
    obtain ⟨wo, rfl⟩ : ∃ wo : World, wo = wr := ⟨_, rfl⟩
    have HRs := Lib.hid hR
    clear hR
    by_cases hlt : a < n
    · go_wp2_with (refine wpList_makeRow rfl _ _ rfl n rfl rfl h8 ?_; intro w1 hrow hb1; have c0 := (cell_of_row w1 wo.heap.size a _ _ _ hrow).trans (rowA_at n _ a hlt); have c1 := frozen_of_row w1 wo.heap.size a _ _ hrow; have HW := Lib.hid hrow; clear hrow)
      have hgr : w0.heap.size ≤ wo.heap.size := kb.size
      have kA : Below w0.heap.size w0 (w1.setCell ⟨wo.heap.size, a, none⟩ (.bool true)) := (bt kb hb1).setCell hgr _
      have oA : Only wo.heap.size w1 (w1.setCell ⟨wo.heap.size, a, none⟩ (.bool true)) := (Only.refl _ _).set _ _
      have rA : (w1.setCell ⟨wo.heap.size, a, none⟩ (.bool true)).heap[wo.heap.size]? = some (.cells (rowA n (iterP ps a 0)) 4) := by
        rw [heap_setCell_same _ _ a _ _ _ HW.out, rowA_set]
        have e : (fun z => if z = a then true else false) = iterP ps a 0 := by
          funext z
          by_cases h : z = a <;> simp [iterP, h]
        rw [e]
      have RA : RowsTo ps n w0.heap.size (w1.setCell ⟨wo.heap.size, a, none⟩ (.bool true)) u4 Rs := by
        have h2 := HRs.out.go hb1
        refine ⟨oA.owns h2.own (.inr fun c t fr hh => by rw [HW.out] at hh; cases hh; decide), fun i g hi => ⟨(h2.row i g hi).1, ?_⟩⟩
        rw [oA.block g (by have := lt_of_some (HRs.out.row i g hi).2; omega)]
        exact (h2.row i g hi).2
      have hRlt : ∀ (i g : Nat), Rs[i]? = some g → g < wo.heap.size := fun i g hi => lt_of_some (HRs.out.row i g hi).2
      have HRlt := Lib.hid hRlt
      clear hRlt
      have hw0 : w.heap.size < w0.heap.size := by rw [Z0.out]; omega
      have FA := Lib.hid (((bkeep kA F0.out) : _ = _))
      have RAh := Lib.hid RA
      have rAh := Lib.hid rA
      clear RA rA oA HW c0 c1 hb1 HRs
      generalize w1.setCell ⟨wo.heap.size, a, none⟩ (.bool true) = wA at kA FA RAh rAh
      generalize wo.heap.size = gr at hgr rAh HRlt
      clear kb
      go_loopw [7, 8] (fun i _ wr => ∃ k : Nat, k ≤ n ∧ i = .int .i64 k ∧ Only gr wA wr ∧ wr.heap[gr]? = some (.cells (rowA n (iterP ps a k)) 4)) (fun i _ _ => n - (intOf i).toNat)
      case atStart => exact ⟨0, by omega, rfl, Only.refl _ _, rAh.out⟩
      case round =>
        obtain ⟨k, hk, rfl, ho, hrow⟩ := hrel
        obtain ⟨wp, rfl⟩ : ∃ wp : World, wp = wr := ⟨_, rfl⟩
        have HW := Lib.hid hrow
        clear hrow
        by_cases hlt2 : k < n
        · go_wp2
          go_loopw [8] (fun i wr => ∃ m : Nat, m ≤ ps.length ∧ i = .int .i64 m ∧ Only gr wA wr ∧ wr.heap[gr]? = some (.cells (rowA n ((ps.take m).foldl stepP (iterP ps a k))) 4)) (fun i _ => ps.length - (intOf i).toNat)
          case atStart => exact ⟨0, by omega, rfl, ho, HW.out⟩
          case round =>
            clear ho HW
            obtain ⟨m, hm, rfl, ho, hrow⟩ := hrel
            have HW := Lib.hid hrow
            clear hrow
            have fB : wr.heap[w.heap.size]? = some (Obj.cells #[Value.slice an n capn, Value.slice ab ps.length capb, vp] 28) := (ho.block _ (by omega)).trans FA.out
            have b1 := cell_of_row wr w.heap.size 1 _ _ _ fB
            clear fB
            by_cases hlt3 : m < ps.length
            · obtain ⟨⟨x, y⟩, hx⟩ : ∃ x, ps[m]? = some x := ⟨_, List.getElem?_eq_getElem hlt3⟩
              obtain ⟨b, off, rfl, c1, c2⟩ := HC.out m _ hx
              obtain ⟨x0, x1, y0, y1⟩ := prB_get HR.out hx
              dsimp only at x0 x1 y0 y1 c1 c2
              obtain ⟨x, rfl⟩ := Int.eq_ofNat_of_zero_le x0
              obtain ⟨y, rfl⟩ := Int.eq_ofNat_of_zero_le y0
              have kW : Below w.heap.size w wr := bt kb0 (ho.below kA hgr)
              have e1 := cellB kW c1
              have e2 := cellB kW c2
              have hst := take_fold ps (iterP ps a k) m _ hx
              have heq := stepP_eq n ((ps.take m).foldl stepP (iterP ps a k)) _ x y rfl
              rw [← hst] at heq
              have HS := Lib.hid heq
              clear c1 c2 hx hst heq
              generalize (ps.take m).foldl stepP (iterP ps a k) = f at HW HS
              have d1 := (cell_of_row wr gr x _ _ _ HW.out).trans (rowA_at n f x (by omega))
              have d2 := (cell_of_row wr gr y _ _ _ HW.out).trans (rowA_at n f y (by omega))
              have d3 := frozen_of_row wr gr y _ _ HW.out
              cases hf : f x
              · rw [hf] at d1
                go_wp2
                go_roundw
                case rel => exact ⟨m + 1, by omega, by go_num, ho, by rw [HS.out, if_neg (by rw [hf]; exact Bool.false_ne_true)]; exact HW.out⟩
                case measure => simp [intOf]; omega
              · rw [hf] at d1
                go_wp2
                go_roundw
                case rel => exact ⟨m + 1, by omega, by go_num, ho.set _ _, by rw [HS.out, if_pos hf, heap_setCell_same _ _ y _ _ _ HW.out, rowA_set]⟩
                case measure => simp [intOf]; omega
            · obtain rfl : m = ps.length := by omega
              go_wp2
              go_roundw
              case rel => exact ⟨k + 1, by omega, by go_num, ho, by have := HW.out; rw [List.take_length] at this; exact this⟩
              case measure => simp [intOf]; omega
        · obtain rfl : k = n := by omega
          have Rk : RowsTo ps k w0.heap.size wp u4 Rs := by
            have h2 := RAh.out
            refine ⟨ho.owns h2.own (.inr fun c t fr hh => by rw [rAh.out] at hh; cases hh; decide), fun i g hi => ⟨(h2.row i g hi).1, ?_⟩⟩
            rw [ho.block g (by have := HRlt.out i g hi; omega)]
            exact (h2.row i g hi).2
          have kp := ho.below kA hgr
          go_wp2_with (at_builtin; refine wpList_appendRow rfl _ _ rfl ps k w0.heap.size u4 Rs gr rfl rfl Rk (by rw [HRl.out]; omega) kp.size hgr (by rw [HRl.out]; exact HW.out) ?_; intro v' w' hR' hgrow)
          go_roundw
          case rel => exact ⟨a + 1, Rs ++ [gr], by omega, by go_num, by simp [HRl.out], kp.trans hgrow, hR'⟩
          case measure => simp [intOf]; omega
    · obtain rfl : a = n := by omega
      go_wp2
      go_ret
      exact ⟨bt kb0 kb, _, rfl, rows_tab HRs.out HRl.out h1 h8 HR.out⟩
end Lv
end Go.Proofs.Ytmfdclnepmgmlaa
