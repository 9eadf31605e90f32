/- What the law AuthChecks does: it answers true. -/
import Derived.Test.YtmfdclnepmgmlaaAuLives
import Derived.Test.YtmfdclnepmgmlaaLvRefN
namespace Go.Proofs.Ytmfdclnepmgmlaa
open Go.RowKit
namespace Lv
theorem fnd_take {ps : List Prin} {i : Nat} {x : Prin} (hx : ps[i]? = some x) : fnd ps x.1 = some i ↔ fnd (ps.take i) x.1 = none := by
  obtain ⟨hi, hxi⟩ := List.getElem?_eq_some_iff.1 hx
  constructor
  · intro h
    refine fnd_none fun j y hj hy => ?_
    have hji : j < i := by simp at hj; omega
    rw [List.getElem?_take, if_pos hji] at hy
    unfold fnd at h
    rw [List.findIdx?_eq_some_iff_getElem] at h
    obtain ⟨_, _, h3⟩ := h
    have := h3 j hji
    rw [(List.getElem?_eq_some_iff.1 hy).2] at this
    simpa using this
  · intro h
    refine fnd_some hx (bytes_eq.2 rfl) fun j y hj hy => ?_
    unfold fnd at h
    rw [List.findIdx?_eq_none_iff] at h
    exact h y (List.mem_of_getElem? (i := j) (by rw [List.getElem?_take, if_pos hj, hy]))
/-- is the name at i wrong, as the law says it? -/
noncomputable def nbAt (ps : List Prin) (i : Nat) : Bool := match ps[i]? with
  | none => false
  | some x => decide (8 < ps.length) || !nameB x.1 || decide (fndI (fnd ps x.1) ≠ i)
noncomputable def nbTo (ps : List Prin) (k : Nat) : Bool := (List.range k).any (nbAt ps)
theorem nbTo_succ (ps : List Prin) (k : Nat) : nbTo ps (k + 1) = (nbTo ps k || nbAt ps k) := by simp [nbTo, List.range_succ]
theorem nbAt_ok {ps : List Prin} {i : Nat} (hi : i < ps.length) (h8 : ps.length ≤ 8) : nbAt ps i = !okAt ps i := by
  obtain ⟨x, hx⟩ : ∃ x, ps[i]? = some x := ⟨_, List.getElem?_eq_getElem hi⟩
  have h := fnd_take hx
  unfold nbAt okAt
  rw [hx]
  dsimp only
  rw [decide_eq_false (show ¬ 8 < ps.length by omega), Bool.false_or]
  cases q : nameB x.1
  · rfl
  · rw [Bool.not_true, Bool.false_or, Bool.true_and]
    cases q2 : fnd (ps.take i) x.1 with
    | none => rw [h.2 q2]; simp [fndI]
    | some j =>
      have : fnd ps x.1 ≠ some i := fun e => by rw [h.1 e] at q2; cases q2
      cases q3 : fnd ps x.1 with
      | none => exact decide_eq_true (show (-1 : Int) ≠ (i : Int) by omega)
      | some m =>
        rw [q3] at this
        have : m ≠ i := fun e => this (by rw [e])
        exact decide_eq_true (show (m : Int) ≠ (i : Int) by omega)
theorem nb_all (ps : List Prin) : pnB ps = !nbTo ps ps.length := by
  unfold pnB
  by_cases h8 : ps.length ≤ 8
  · rw [decide_eq_true h8, Bool.true_and, Bool.eq_iff_iff]
    unfold okTo nbTo
    rw [List.all_eq_true, Bool.not_eq_true', List.any_eq_false]
    constructor
    · intro h i hi
      rw [nbAt_ok (List.mem_range.1 hi) h8, h i hi]
      decide
    · intro h i hi
      have := h i hi
      rw [nbAt_ok (List.mem_range.1 hi) h8] at this
      simpa using this
  · rw [decide_eq_false h8, Bool.false_and]
    have : nbTo ps ps.length = true := by
      unfold nbTo
      rw [List.any_eq_true]
      refine ⟨0, List.mem_range.2 (by omega), ?_⟩
      unfold nbAt
      rw [List.getElem?_eq_getElem (show 0 < ps.length by omega)]
      dsimp only
      rw [decide_eq_true (show 8 < ps.length by omega)]
      rfl
    rw [this]
    rfl
def wi (a b : Bool) : Int := if (a && !b) = true then 0 else 2
theorem wi_bad (a : Bool) : wi a true = 2 := by cases a <;> rfl
def wn (c : Bool) (x : Int) : Int := if c = true then 10 else x
theorem err_is (n : Nat) (ps : List Prin) : authErr n ps = wn (nbTo ps ps.length) (wi (allLr n ps ps.length) false) := by
  unfold authErr wn wi
  rw [nb_all]
  cases nbTo ps ps.length <;> cases allLr n ps ps.length <;> rfl
theorem inI_not {x : Int} {n : Nat} (h : x < 0 ∨ (n : Int) ≤ x) : inI x n = false := by
  unfold inI
  simp
  omega
set_option maxHeartbeats 2000000 in
set_option maxRecDepth 100000 in
theorem checks_any (n : Int) (v : Value) (ps : List Prin) (w : World) (hp : PrinsAt w v ps) (hl : ps.length ≤ maxLen) :
    Calls Try.prog 3 #[.int .i64 n, v] w fun e w' => e = .returned (.bool true) ∧ Below w.heap.size w w' := by
  obtain ⟨pa, cap, rfl, hcap, _⟩ := hp.form
  go_enter Try.func3, Try.ntmps3
  go_wp2_with fail
  refine (alight_any _ ps _ hp hl).mono ?_
  rintro e w' ⟨rfl, rfl⟩
  cases hli : alB ps
  · go_wp2_with fail
    refine (alives_any _).mono ?_
    rintro e w3 ⟨rfl, hb3⟩
    go_wp2
    go_ret
    exact ⟨rfl, hb3⟩
  · go_wp2_with fail
    refine (sort_any n _).mono ?_
    generalize (n % 6).toNat = kk
    rintro e w1 ⟨hb1, vn, vb, rfl, hn, hpp⟩
    obtain ⟨an, capn, rfl, _, _⟩ := hn.form
    obtain ⟨ab, capb, rfl, _⟩ := hpp.form
    have hn8 := sz_le kk
    have hb2 : Below w1.heap.size w1 (w1.alloc (Obj.cells #[Value.slice an (sn kk).length capn, Value.slice ab (sp kk).length capb, Value.slice none 0 0] 28)) := (Below.refl _ _).alloc (Nat.le_refl _) _
    have f0 := al_new w1 (Obj.cells #[Value.slice an (sn kk).length capn, Value.slice ab (sp kk).length capb, Value.slice none 0 0] 28)
    have HN := Lib.hid (hn.go hb2)
    have HPP := Lib.hid (hpp.go hb2)
    have F0 := Lib.hid f0
    clear hn hpp f0
    go_wp2_with fail
    refine (new_sort kk _ _ _ _ HN.out HPP.out).mono ?_
    rintro e w2 ⟨hb3, g, rfl, hg, hL⟩
    have k2 := bt (bt hb1 hb2) hb3
    have HL2 := Lib.hid hL
    have HP2 := Lib.hid (hp.go k2)
    have F2 := Lib.hid (bkeep hb3 F0.out)
    have cn : w2.cell? ⟨w1.heap.size, 0, none⟩ = some (.slice an (sz kk) capn) := cell_of_row w2 w1.heap.size 0 _ _ _ F2.out
    clear hb1 hb2 hb3 HN HPP hL hp hg F0 F2
    obtain ⟨pa', cap', hv, _, hc⟩ := HP2.out.form
    cases hv
    have HC := Lib.hid hc
    clear hc
    have hl' := hl
    unfold maxLen at hl'
    go_wp2
    go_loop [8, 9, 10, 11] (fun u i _ _ => ∃ k : Nat, k ≤ ps.length ∧ i = .int .i64 k ∧ u = .int .i64 (wi (allLr (sz kk) ps k) false)) (fun _ i _ _ => ps.length - (intOf i).toNat)
    case atStart => exact ⟨0, by omega, rfl, by simp [allLr, wi]⟩
    case round =>
      obtain ⟨k, hk, rfl, rfl⟩ := hrel
      by_cases hlt : k < ps.length
      · obtain ⟨⟨t, l⟩, hx⟩ : ∃ x, ps[k]? = some x := ⟨_, List.getElem?_eq_getElem hlt⟩
        obtain ⟨b, off, u, rfl, c1, c2, hu, hs⟩ := HC.out k _ hx
        obtain ⟨ua, ucap, rfl, hul, hcu⟩ := hu.form
        have HU := Lib.hid hcu
        have hA := allLr_succ (n := sz kk) hx
        have HA := Lib.hid hA
        clear hx hu hcu hA
        dsimp only at c1 c2 hul HU HA
        unfold maxLen at hul
        generalize allLr (sz kk) ps k = A at HA
        go_wp2
        go_loop [8, 10, 11] (fun u i _ => ∃ m : Nat, m ≤ l.length ∧ i = .int .i64 m ∧ u = .int .i64 (wi A (badTo (sz kk) l m))) (fun _ i _ => l.length - (intOf i).toNat)
        case atStart => exact ⟨0, by omega, rfl, rfl⟩
        case round =>
          obtain ⟨m, hm, rfl, rfl⟩ := hrel
          by_cases hlt2 : m < l.length
          · obtain ⟨x, hx⟩ : ∃ x, l[m]? = some x := ⟨_, List.getElem?_eq_getElem hlt2⟩
            obtain ⟨bu, offu, rfl, c3⟩ := HU.out m _ hx
            have gx : l.getD m 0 = x := by rw [List.getD_eq_getElem?_getD, hx]; rfl
            have GX := Lib.hid gx
            clear gx hx
            have hB := badTo_succ (sz kk) l m
            have HB := Lib.hid hB
            clear hB
            by_cases h0 : x < 0
            · have d0 : decide (x < 0) = true := by simp; omega
              have hbad : badAt (sz kk) l m = true := by unfold badAt; rw [GX.out, inI_not (.inl h0)]; rfl
              have HD := Lib.hid hbad
              clear hbad
              go_wp2
              go_round
              case rel => exact ⟨m + 1, by omega, by go_num, by rw [HB.out, HD.out, Bool.or_true, wi_bad]⟩
              case measure => simp [intOf]; omega
            · have d0 : decide (x < 0) = false := by simp; omega
              by_cases h1 : (sz kk : Int) ≤ x
              · have d1 : decide ((sz kk : Int) ≤ x) = true := by simp; omega
                have hbad : badAt (sz kk) l m = true := by unfold badAt; rw [GX.out, inI_not (.inr h1)]; rfl
                have HD := Lib.hid hbad
                clear hbad
                go_wp2
                go_round
                case rel => exact ⟨m + 1, by omega, by go_num, by rw [HB.out, HD.out, Bool.or_true, wi_bad]⟩
                case measure => simp [intOf]; omega
              · have d1 : decide ((sz kk : Int) ≤ x) = false := by simp; omega
                have hin : inI x (sz kk) = true := by unfold inI; simp; omega
                have HI := Lib.hid hin
                clear hin
                cases m with
                | zero =>
                  rw [Nat.add_zero] at c3
                  have hbad : badAt (sz kk) l 0 = false := by unfold badAt; rw [GX.out, HI.out]; rfl
                  have HD := Lib.hid hbad
                  clear hbad
                  go_wp2
                  go_round
                  case rel => exact ⟨1, by omega, by go_num, by rw [HB.out, HD.out, Bool.or_false]⟩
                  case measure => simp [intOf]; omega
                | succ p =>
                  obtain ⟨y, hy⟩ : ∃ y, l[p]? = some y := ⟨_, List.getElem?_eq_getElem (by omega)⟩
                  obtain ⟨b', off', he, c4⟩ := HU.out p _ hy
                  cases he
                  have gy : l.getD p 0 = y := by rw [List.getD_eq_getElem?_getD, hy]; rfl
                  clear hy
                  have hbad : badAt (sz kk) l (p + 1) = decide (x ≤ y) := by unfold badAt; rw [GX.out, HI.out, Nat.add_sub_cancel, gy, decide_eq_true (Nat.succ_pos p)]; rfl
                  have HD := Lib.hid hbad
                  clear hbad gy
                  cases d : decide (x ≤ y)
                  · go_wp2
                    go_round
                    case rel => exact ⟨p + 1 + 1, by omega, by go_num, by rw [HB.out, HD.out, d, Bool.or_false]⟩
                    case measure => simp [intOf]; omega
                  · go_wp2
                    go_round
                    case rel => exact ⟨p + 1 + 1, by omega, by go_num, by rw [HB.out, HD.out, d, Bool.or_true, wi_bad]⟩
                    case measure => simp [intOf]; omega
          · obtain rfl : m = l.length := by omega
            go_wp2
            go_round
            case rel => exact ⟨k + 1, by omega, by go_num, by rw [HA.out]; unfold lrB; cases A <;> cases badTo (sz kk) l l.length <;> rfl⟩
            case measure => simp [intOf]; omega
      · obtain rfl : k = ps.length := by omega
        have HE := Lib.hid (err_is (sz kk) ps)
        generalize wi (allLr (sz kk) ps ps.length) false = W at HE
        go_wp2
        go_loop [8, 12] (fun u i => ∃ k : Nat, k ≤ ps.length ∧ i = .int .i64 k ∧ u = .int .i64 (wn (nbTo ps k) W)) (fun _ i => ps.length - (intOf i).toNat)
        case atStart => exact ⟨0, by omega, rfl, rfl⟩
        case round =>
          obtain ⟨k, hk, rfl, rfl⟩ := hrel
          by_cases hlt : k < ps.length
          · obtain ⟨⟨t, l⟩, hx⟩ : ∃ x, ps[k]? = some x := ⟨_, List.getElem?_eq_getElem hlt⟩
            obtain ⟨b, off, u, rfl, c1, c2, hu, hs⟩ := HC.out k _ hx
            have hB := nbTo_succ ps k
            have HB := Lib.hid hB
            have hD : nbAt ps k = (decide (8 < ps.length) || !nameB t || decide (fndI (fnd ps t) ≠ k)) := by unfold nbAt; rw [hx]
            have HD := Lib.hid hD
            clear hu hx hB hD
            dsimp only at c1 c2 hs
            by_cases h8 : 8 < ps.length
            · have d0 : decide ((8 : Int) < (ps.length : Int)) = true := by simp; omega
              have HT := Lib.hid (HD.out.trans (by rw [decide_eq_true h8]; rfl) : nbAt ps k = true)
              go_wp2
              go_round
              case rel => exact ⟨k + 1, by omega, by go_num, by rw [HB.out, HT.out, Bool.or_true]; rfl⟩
              case measure => simp [intOf]; omega
            · have d0 : decide ((8 : Int) < (ps.length : Int)) = false := by simp; omega
              cases q : nameB t
              · have HT := Lib.hid (HD.out.trans (by rw [decide_eq_false h8, q]; rfl) : nbAt ps k = true)
                go_wp2_with (go_at_call 11; refine (rname_any _ _ hs).mono ?_; rintro e w' ⟨rfl, rfl⟩)
                go_round
                case rel => exact ⟨k + 1, by omega, by go_num, by rw [HB.out, HT.out, Bool.or_true]; rfl⟩
                case measure => simp [intOf]; omega
              · go_wp2_with (go_at_call 11; refine (rname_any _ _ hs).mono ?_; rintro e w' ⟨rfl, rfl⟩)
                refine (rfind_any _ ps t _ HP2.out hl).mono ?_
                rintro e w' ⟨rfl, rfl⟩
                cases d : decide (fndI (fnd ps t) ≠ k)
                · have HT := Lib.hid (HD.out.trans (by rw [decide_eq_false h8, q, d]; rfl) : nbAt ps k = false)
                  have d' : (fndI (fnd ps t) != (k : Int)) = false := by simpa using d
                  go_wp2
                  go_round
                  case rel => exact ⟨k + 1, by omega, by go_num, by rw [HB.out, HT.out, Bool.or_false]⟩
                  case measure => simp [intOf]; omega
                · have HT := Lib.hid (HD.out.trans (by rw [decide_eq_false h8, q, d]; rfl) : nbAt ps k = true)
                  have d' : (fndI (fnd ps t) != (k : Int)) = true := by simpa using d
                  go_wp2
                  go_round
                  case rel => exact ⟨k + 1, by omega, by go_num, by rw [HB.out, HT.out, Bool.or_true]; rfl⟩
                  case measure => simp [intOf]; omega
          · obtain rfl : k = ps.length := by omega
            go_wp2_with fail
            refine (acheck_any _ ps _ HL2.out HP2.out hl).mono ?_
            rw [HE.out]
            rintro e w3 ⟨rfl, hb3⟩
            go_wp2_with fail
            refine (alives_any _).mono ?_
            rintro e w4 ⟨rfl, hb4⟩
            go_wp2
            go_ret
            exact ⟨rfl, bt (bt k2 hb3) hb4⟩
end Lv
end Go.Proofs.Ytmfdclnepmgmlaa
