/- What auth's namesRight and Check tell, of a lattice whose cells are known. -/
import Derived.Test.YtmfdclnepmgmlaaAuLevels
import Derived.Deep.RegionHeld3
namespace Go.Proofs.Ytmfdclnepmgmlaa
open Go.RowKit
namespace Lv
theorem PrinsAt.take {w : World} {a : Option Addr} {n cap : Nat} {ps : List Prin} (h : PrinsAt w (.slice a n cap) ps) (k : Nat) (hk : k ≤ ps.length) : PrinsAt w (.slice a k cap) (ps.take k) := by
  obtain ⟨a', cap', hv, hl, hc⟩ := h.form
  cases hv
  have e : (ps.take k).length = k := by simp; omega
  refine ⟨a, cap, by rw [e], by omega, fun i x hx => hc i x ?_⟩
  have hi : i < k := by have := (List.getElem?_eq_some_iff.1 hx).1; omega
  rwa [List.getElem?_take, if_pos hi] at hx
/-- has the principal at i a name that none ahead of it has? -/
noncomputable def okAt (ps : List Prin) (i : Nat) : Bool := match ps[i]? with
  | none => true
  | some x => nameB x.1 && (fnd (ps.take i) x.1).isNone
noncomputable def okTo (ps : List Prin) (k : Nat) : Bool := (List.range k).all (okAt ps)
theorem okTo_succ (ps : List Prin) (k : Nat) : okTo ps (k + 1) = (okTo ps k && okAt ps k) := by simp [okTo, List.range_succ]
theorem okTo_no {ps : List Prin} {k m : Nat} (hk : k < m) (h : okAt ps k = false) : okTo ps m = false := by
  unfold okTo
  rw [List.all_eq_false]
  exact ⟨k, List.mem_range.2 hk, by rw [h]; decide⟩
noncomputable def pnB (ps : List Prin) : Bool := decide (ps.length ≤ 8) && okTo ps ps.length
set_option maxHeartbeats 1000000 in
theorem pnames_any (v : Value) (ps : List Prin) (w : World) (hp : PrinsAt w v ps) (hl : ps.length ≤ maxLen) :
    Calls Try.prog 28 #[v] w fun e w' => e = .returned (.bool (pnB ps)) ∧ Below w.heap.size w w' := by
  obtain ⟨a, cap, rfl, hcap, hc⟩ := hp.form
  unfold maxLen at hl
  have HC := Lib.hid hc
  have HP := Lib.hid hp
  clear hc hp
  by_cases h8 : 8 < ps.length
  · have d1 : decide ((8 : Int) < (ps.length : Int)) = true := by simp; omega
    go_enter Try.func28, Try.ntmps28
    go_wp2
    go_ret
    exact ⟨ret_bool (by unfold pnB; rw [decide_eq_false (by omega)]; rfl), Below.refl _ _⟩
  · have d1 : decide ((8 : Int) < (ps.length : Int)) = false := by simp; omega
    go_enter Try.func28, Try.ntmps28
    go_wp2
    go_loopw [3, 4, 5, 6, 12] (fun _ _ _ _ i wr => ∃ k : Nat, k ≤ ps.length ∧ i = .int .i64 k ∧ Below w.heap.size w wr ∧ okTo ps k = true) (fun _ _ _ _ i _ => ps.length - (intOf i).toNat)
    case atStart => exact ⟨0, by omega, rfl, Below.refl _ _, rfl⟩
    case round =>
      obtain ⟨k, hk, rfl, hb, hok⟩ := hrel
      have HK := Lib.hid hok
      clear hok
      by_cases hlt : k < ps.length
      · obtain ⟨⟨t, l⟩, hx⟩ : ∃ x, ps[k]? = some x := ⟨_, List.getElem?_eq_getElem hlt⟩
        obtain ⟨b, off, u, rfl, c1, c2, hu, hs⟩ := HC.out k _ hx
        obtain ⟨ua, ucap, rfl, _, _⟩ := hu.form
        have HX := Lib.hid hx
        clear hx hu
        have e1 := cellB hb c1
        have e2 := cellB hb c2
        have h0 := block_lt_of_cell c1
        clear c1 c2
        dsimp only at e1 e2 h0 hs
        have hsz := hb.size
        have hok : okAt ps k = (nameB t && (fnd (ps.take k) t).isNone) := by unfold okAt; rw [HX.out]
        have HO := Lib.hid hok
        clear hok
        cases q : nameB t
        · go_wp2_with (go_at_call 32; refine (name_any _ _ hs).mono ?_; rintro e w' ⟨rfl, rfl⟩)
          go_ret
          exact ⟨ret_bool (by unfold pnB; rw [okTo_no hlt (HO.out.trans (by rw [q]; rfl)), Bool.and_false]), hb.alloc hsz _⟩
        · have hcell : (wr.alloc (Obj.cells #[Value.string t, Value.slice ua l.length ucap] 36)).cell? ⟨wr.heap.size, 0, none⟩ = some (.string t) := cell_of_row _ _ _ _ _ _ (al_new _ _)
          have hb1 : Below wr.heap.size wr (wr.alloc (Obj.cells #[Value.string t, Value.slice ua l.length ucap] 36)).drew := ((Below.refl _ _).alloc (Nat.le_refl _) _).drew
          have HP1 := Lib.hid (((HP.out.go hb).go hb1).take k hk)
          have k1 := bt hb hb1
          have hkc : (k : Int) ≤ (cap : Int) := by omega
          have hlk : (ps.take k).length ≤ maxLen := by unfold maxLen; simp; omega
          go_wp2_with (go_at_call 32; refine (name_any _ _ hs).mono ?_; rintro e w' ⟨rfl, rfl⟩)
          go_region_held3 (fun w' => w'.cell? ⟨wr.heap.size, 0, none⟩ = some (.string t)) (first | go_keep | (exact cellB hb2 hcell)) ((go_at_call 15; refine (find_any' _ (ps.take k) t _ HP1.out hlk).mono ?_; rintro e w2 ⟨rfl, hb2⟩))
          have k2 := bt k1 hb2
          cases q2 : fnd (ps.take k) t with
          | none =>
            dsimp only [Option.isSome, fndN]
            go_wp2
            go_roundw
            case rel => exact ⟨k + 1, by omega, by go_num, k2, by rw [okTo_succ, HK.out, HO.out, q, q2]; rfl⟩
            case measure => simp [intOf]; omega
          | some i =>
            dsimp only [Option.isSome, fndN]
            go_wp2
            go_ret
            exact ⟨ret_bool (by unfold pnB; rw [okTo_no hlt (HO.out.trans (by rw [q, q2]; rfl)), Bool.and_false]), k2⟩
      · obtain rfl : k = ps.length := by omega
        go_wp2
        go_ret
        exact ⟨ret_bool (by unfold pnB; rw [HK.out, decide_eq_true (by omega)]; rfl), hb⟩
def allLr (n : Nat) (ps : List Prin) (k : Nat) : Bool := (ps.take k).all fun x => lrB n x.2
theorem allLr_succ {n : Nat} {ps : List Prin} {k : Nat} {x : Prin} (hx : ps[k]? = some x) : allLr n ps (k + 1) = (allLr n ps k && lrB n x.2) := by
  unfold allLr
  rw [List.take_add_one, hx]
  simp
theorem allLr_no {n : Nat} {ps : List Prin} {k : Nat} {x : Prin} (hx : ps[k]? = some x) (h : lrB n x.2 = false) : allLr n ps ps.length = false := by
  unfold allLr
  rw [List.take_length, List.all_eq_false]
  exact ⟨x, List.mem_of_getElem? hx, by rw [h]; decide⟩
/-- what is wrong with principals -/
noncomputable def authErr (n : Nat) (ps : List Prin) : Int := if pnB ps = true then (if allLr n ps ps.length = true then 0 else 2) else 10
section
variable {g n : Nat} {nm : Nat → ByteArray} {r : Nat → Nat → Bool} {j m : Nat → Nat → Nat} {bo tp : Nat}
set_option maxHeartbeats 1000000 in
theorem acheck_any (v : Value) (ps : List Prin) (w : World) (hL : LatAt w g n nm r j m bo tp) (hp : PrinsAt w v ps) (hl : ps.length ≤ maxLen) :
    Calls Try.prog 13 #[.pointer (some ⟨g, 0, none⟩), v] w fun e w' => e = .returned (.int .i64 (authErr n ps)) ∧ Below w.heap.size w w' := by
  cases q : pnB ps
  · go_enter Try.func13, Try.ntmps13
    go_wp2_with fail
    refine (pnames_any v ps _ hp hl).mono ?_
    rw [q]
    rintro e w1 ⟨rfl, hb1⟩
    go_wp2
    go_ret
    exact ⟨ret_int (by unfold authErr; rw [q]; rfl), hb1⟩
  · have Q := Lib.hid q
    obtain ⟨a, cap, rfl, hcap, hc⟩ := hp.form
    have HC := Lib.hid hc
    clear hc
    go_enter Try.func13, Try.ntmps13
    go_wp2_with fail
    refine (pnames_any _ ps _ hp hl).mono ?_
    rw [q]
    rintro e w1 ⟨rfl, hb1⟩
    unfold maxLen at hl
    clear hp q
    go_wp2
    go_loopw [6, 12] (fun _ i wr => ∃ k : Nat, k ≤ ps.length ∧ i = .int .i64 k ∧ Below w.heap.size w wr ∧ allLr n ps k = true) (fun _ i _ => ps.length - (intOf i).toNat)
    case atStart => exact ⟨0, by omega, rfl, hb1, by simp [allLr]⟩
    case round =>
      obtain ⟨k, hk, rfl, hb, hok⟩ := hrel
      have HK := Lib.hid hok
      clear hok
      by_cases hlt : k < ps.length
      · obtain ⟨⟨t, l⟩, hx⟩ : ∃ x, ps[k]? = some x := ⟨_, List.getElem?_eq_getElem hlt⟩
        obtain ⟨b, off, u, rfl, c1, c2, hu, hs⟩ := HC.out k _ hx
        have hb2 := fun o => (hb.alloc (o := o) hb.size)
        have HU := Lib.hid fun o => hu.go (hb2 o)
        obtain ⟨ua, ucap, rfl, _, _⟩ := hu.form
        have HX := Lib.hid hx
        clear hx hu
        have e1 := cellB hb c1
        have e2 := cellB hb c2
        have h0 := block_lt_of_cell c1
        clear c1 c2
        dsimp only at e1 e2 h0 hs HU
        have hsz := hb.size
        cases q : lrB n l
        · go_wp2_with (go_at_call 29; refine (levelsRight_any _ l _ (hL.go (hb2 _)) (HU.out _)).mono ?_; rintro e w' ⟨rfl, rfl⟩)
          go_ret
          exact ⟨ret_int (by unfold authErr; rw [if_pos Q.out, allLr_no HX.out q]; rfl), hb2 _⟩
        · go_wp2_with (go_at_call 29; refine (levelsRight_any _ l _ (hL.go (hb2 _)) (HU.out _)).mono ?_; rintro e w' ⟨rfl, rfl⟩)
          go_roundw
          case rel => exact ⟨k + 1, by omega, by go_num, hb2 _, by rw [allLr_succ HX.out, HK.out, q]; rfl⟩
          case measure => simp [intOf]; omega
      · obtain rfl : k = ps.length := by omega
        go_wp2
        go_ret
        exact ⟨ret_int (by unfold authErr; rw [if_pos Q.out, if_pos HK.out]), hb⟩
end
end Lv
end Go.Proofs.Ytmfdclnepmgmlaa
