/- The chapter's example of layer 2, and what the law's light tells. No condition. -/
import Derived.Test.YtmfdclnepmgmlaaLvSortNew
import Derived.Test.YtmfdclnepmgmlaaAuReach
import Derived.Test.YtmfdclnepmgmlaaAuCheck
namespace Go.Proofs.Ytmfdclnepmgmlaa
open Go.RowKit
namespace Lv
def ann : ByteArray := ⟨#[97, 110, 110]⟩
def ps0 : List Prin := [(ann, [1])]
theorem fnd0 : fnd ps0 ann = some 0 := fnd_some (x := (ann, [1])) rfl (bytes_eq.2 rfl) fun i y hi => by omega
theorem over0 : overL ps0 ann = [1] := overL_some (x := (ann, [1])) fnd0 rfl
theorem sz0 : sz 0 = 2 := rfl
theorem err0' : authErr (sz 0) ps0 = 0 := by
  have h1 : pnB ps0 = true := by
    unfold pnB okTo
    show (decide (1 ≤ 8) && ((List.range 1).all (okAt ps0))) = true
    have h2 : okAt ps0 0 = true := by
      show (nameB ann && (fnd (ps0.take 0) ann).isNone) = true
      rw [name_of (by decide)]
      rfl
    simp only [List.range_succ, List.range_zero, List.nil_append, List.all_cons, List.all_nil, h2]
    rfl
  have h3 : allLr (sz 0) ps0 ps0.length = true := by rw [sz0]; decide
  unfold authErr
  rw [if_pos h1, if_pos h3]
theorem reach0 : (reachL (sz 0) (sr 0) [1] (sz 0)).length = 2 := by
  have e0 : covB 2 (sr 0) [1] ((0 : Nat) : Int) = true := by
    show (leqB 2 (sr 0) 0 1 || false) = true
    have : leqB 2 (sr 0) 0 1 = sr 0 0 1 := by simp [leqB, inI]
    rw [this, sr_is 0 0 1 (by decide) (by decide)]
    decide
  have e1 : covB 2 (sr 0) [1] ((1 : Nat) : Int) = true := by
    show (leqB 2 (sr 0) 1 1 || false) = true
    have : leqB 2 (sr 0) 1 1 = sr 0 1 1 := by simp [leqB, inI]
    rw [this, sr_is 0 1 1 (by decide) (by decide)]
    decide
  rw [sz0, reachL_succ, if_pos e1, reachL_succ, if_pos e0]
  rfl
theorem ps0_at {w : World} {g h : Nat} (h1 : w.heap[g]? = some (.cells #[.int .i64 1] 3)) (h2 : w.heap[h]? = some (.cells #[.string ann, .slice (some ⟨g, 0, none⟩) 1 1] 36)) :
    PrinsAt w (.slice (some ⟨h, 0, none⟩) 1 1) ps0 := by
  refine ⟨_, _, rfl, Nat.le_refl _, fun i x hx => ?_⟩
  match i, hx with
  | 0, hx =>
    cases hx
    refine ⟨_, _, _, rfl, cell_of_row _ _ _ _ _ _ h2, cell_of_row _ _ _ _ _ _ h2, ⟨_, _, rfl, by decide, fun i x hx => ?_⟩, by decide⟩
    match i, hx with
    | 0, hx =>
      cases hx
      exact ⟨_, _, rfl, cell_of_row _ _ _ _ _ _ h1⟩
    | i + 1, hx => simp at hx
  | i + 1, hx => simp [ps0] at hx
theorem two (w : World) (A B : Obj) : Below w.heap.size w ((w.alloc A).alloc B) ∧ ((w.alloc A).alloc B).heap[w.heap.size]? = some A ∧ ((w.alloc A).alloc B).heap[w.heap.size + 1]? = some B := by
  have s1 := al_size w A
  refine ⟨((Below.refl _ _).alloc (Nat.le_refl _) _).alloc (by rw [s1]; omega) _, ?_, ?_⟩
  · rw [al_old _ _ _ (by rw [s1]; omega), al_new]
  · rw [← s1, al_new]
theorem mod00 : ((0 : Int) % 6).toNat = 0 := by decide
set_option maxHeartbeats 400000 in
theorem alives_any (w : World) : Calls Try.prog 8 #[] w fun e w' => e = .returned (.bool true) ∧ Below w.heap.size w w' := by
  go_enter Try.func8, Try.ntmps8
  go_wp2_with fail
  refine (sort_any 0 _).mono ?_
  rw [mod00]
  rintro e w1 ⟨hb1, vn, vb, rfl, hn, hp⟩
  have HN := Lib.hid hn
  have HP := Lib.hid hp
  clear hn hp
  go_wp2_with fail
  refine (new_sort 0 vn vb _ _ HN.out HP.out).mono ?_
  rintro e w2 ⟨hb2, g, rfl, hg, hL⟩
  have k2 := bt hb1 hb2
  have HL := Lib.hid hL
  clear hb1 hb2 HN HP hL
  obtain ⟨hb3, a1, a2⟩ := two w2 (Obj.cells #[Value.int .i64 1] 3) (Obj.cells #[Value.string ann, Value.slice (some ⟨w2.heap.size, 0, none⟩) 1 1] 36)
  have HP3 := Lib.hid (ps0_at a1 a2)
  have k3 := bt k2 hb3
  have HL3 := Lib.hid (HL.out.go hb3)
  clear a1 a2
  unfold ann at HP3 HL3 k3
  go_wp2_with fail
  refine (acheck_any _ ps0 _ HL3.out HP3.out (by decide)).mono ?_
  rw [err0']
  rintro e w4 ⟨rfl, hb4⟩
  have k4 := bt k3 hb4
  go_wp2_with fail
  refine (reach_any _ ps0 ann _ (HL3.out.go hb4) (sz_le 0) (HP3.out.go hb4) (by decide)).mono ?_
  rw [over0]
  rintro e w5 ⟨hb5, v, rfl, hv⟩
  have k5 := bt k4 hb5
  rcases hv with ⟨h0, _⟩ | ⟨g5, cap5, rfl, _⟩
  · have := reach0
    rw [h0] at this
    cases this
  · rw [reach0]
    go_wp2
    go_ret
    exact ⟨rfl, k5⟩
/-- are principals few? -/
def liTo (ps : List Prin) (k : Nat) : Bool := (ps.take k).all fun x => decide (x.2.length ≤ 50)
def alB (ps : List Prin) : Bool := liTo ps 20 && decide (ps.length ≤ 20)
theorem liTo_succ {ps : List Prin} {k : Nat} {x : Prin} (hx : ps[k]? = some x) : liTo ps (k + 1) = (liTo ps k && decide (x.2.length ≤ 50)) := by
  unfold liTo
  rw [List.take_add_one, hx]
  simp
theorem liTo_no {ps : List Prin} {k m : Nat} {x : Prin} (hk : k < m) (hx : ps[k]? = some x) (h : 50 < x.2.length) : liTo ps m = false := by
  unfold liTo
  rw [List.all_eq_false]
  refine ⟨x, List.mem_of_getElem? (i := k) (by rw [List.getElem?_take, if_pos hk, hx]), ?_⟩
  simp
  omega
set_option maxHeartbeats 400000 in
theorem alight_any (v : Value) (ps : List Prin) (w : World) (hp : PrinsAt w v ps) (hl : ps.length ≤ maxLen) :
    Calls Try.prog 7 #[v] w fun e w' => e = .returned (.bool (alB ps)) ∧ w = w' := by
  obtain ⟨a, cap, rfl, hcap, hc⟩ := hp.form
  unfold maxLen at hl
  have HC := Lib.hid hc
  clear hc hp
  go_enter Try.func7, Try.ntmps7
  go_wp2
  go_loop [3] (fun i => ∃ k : Nat, k ≤ ps.length ∧ k ≤ 20 ∧ i = .int .i64 k ∧ liTo ps k = true) (fun i => ps.length - (intOf i).toNat)
  case atStart => exact ⟨0, by omega, by omega, rfl, by simp [liTo]⟩
  case round =>
    obtain ⟨k, hk, hk2, rfl, hok⟩ := hrel
    have HK := Lib.hid hok
    clear hok
    by_cases hlt : k < ps.length
    · have d0 : decide ((k : Int) < (ps.length : Int)) = true := by simp; omega
      by_cases h20 : k < 20
      · have d1 : decide ((k : Int) < 20) = true := by simp; omega
        obtain ⟨⟨t, l⟩, hx⟩ : ∃ x, ps[k]? = some x := ⟨_, List.getElem?_eq_getElem hlt⟩
        obtain ⟨b, off, u, rfl, c1, c2, hu, hs⟩ := HC.out k _ hx
        obtain ⟨ua, ucap, rfl, hul, _⟩ := hu.form
        have HX := Lib.hid hx
        clear hx hu
        dsimp only at c1 c2 hul
        by_cases h50 : 50 < l.length
        · have d2 : decide ((50 : Int) < (l.length : Int)) = true := by simp; omega
          go_wp2
          go_ret
          exact ⟨ret_bool (by unfold alB; rw [liTo_no h20 HX.out h50]; rfl), rfl⟩
        · have d2 : decide ((50 : Int) < (l.length : Int)) = false := by simp; omega
          go_wp2
          go_round
          case rel => exact ⟨k + 1, by omega, by omega, by go_num, by rw [liTo_succ HX.out, HK.out, decide_eq_true (show l.length ≤ 50 by omega)]; rfl⟩
          case measure => simp [intOf]; omega
      · obtain rfl : k = 20 := by omega
        have d2 : decide ((ps.length : Int) ≤ 20) = false := by simp; omega
        go_wp2
        go_ret
        exact ⟨ret_bool (by unfold alB; rw [decide_eq_false (show ¬ ps.length ≤ 20 by omega), Bool.and_false]), rfl⟩
    · obtain rfl : k = ps.length := by omega
      have d0 : decide ((ps.length : Int) < (ps.length : Int)) = false := by simp
      have d2 : decide ((ps.length : Int) ≤ 20) = true := by simp; omega
      have hli : liTo ps 20 = true := by
        have := HK.out
        unfold liTo at this ⊢
        rw [List.take_of_length_le hk2]
        rwa [List.take_length] at this
      have HLI := Lib.hid hli
      clear hli
      go_wp2
      go_ret
      exact ⟨ret_bool (by unfold alB; rw [HLI.out, decide_eq_true hk2]; rfl), rfl⟩
end Lv
end Go.Proofs.Ytmfdclnepmgmlaa
