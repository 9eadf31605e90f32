/- What the law LevelNames does: it answers true. -/
import Derived.Test.YtblmjhnkjbhdmaaLvMakes
import Derived.Test.YtblmjhnkjbhdmaaLvLaws
namespace Go.Proofs.Ytblmjhnkjbhdmaa
open Go.RowKit
namespace Lv
theorem quiet_same {P : Program} {f : FuncId} {args : Array Value} {w : World} {n : Nat} {v : Value}
    (h : Calls P f args (w.drewN n) fun e w' => e = .returned v ∧ w.drewN n = w') : Calls P f args (w.drewN n) fun e w'' => e = .returned v ∧ ∃ m, w'' = w.drewN m :=
  h.mono fun _ _ ⟨he, hm⟩ => ⟨he, n, hm.symm⟩
theorem text_is {w : World} {g n : Nat} {nm : Nat → ByteArray} {r : Nat → Nat → Bool} {j m : Nat → Nat → Nat} {bo tp : Nat} (h : LatAt w g n nm r j m bo tp) (hn : n ≤ 8) (x : Nat) (t : ByteArray) (hx : x < n) (ht : nm x = t) :
    Calls Try.prog 25 #[.pointer (some ⟨g, 0, none⟩), .int .i64 x] w fun e w' => e = .returned (.string t) ∧ w = w' := by
  have := text_any w g n nm r j m bo tp x h hn
  rwa [show textV n nm x = t by simp [textV, inI_nat hx, ht]] at this
theorem LatAt.drewN {w : World} {g n : Nat} {nm : Nat → ByteArray} {r : Nat → Nat → Bool} {j m : Nat → Nat → Nat} {bo tp : Nat} (h : LatAt w g n nm r j m bo tp) (k : Nat) : LatAt (w.drewN k) g n nm r j m bo tp := h
theorem nm_get {ss : List ByteArray} {i : Nat} (h : i < ss.length) : ss[i]? = some (nmOf ss i) := by
  rw [List.getElem?_eq_getElem h]
  simp [nmOf, List.getD, h]
theorem nm_inj {ss : List ByteArray} (h : NamesP ss) {i j : Nat} (hi : i < ss.length) (hj : j < ss.length) (he : nmOf ss i = nmOf ss j) : i = j := by
  have hi' := nm_get hi
  have hj' := nm_get hj
  rcases Nat.lt_trichotomy i j with h1 | h1 | h1
  · exact absurd (he ▸ hi') (h.2.2.2 j i _ h1 hj')
  · exact h1
  · exact absurd (he ▸ hj') (h.2.2.2 i j _ h1 (he ▸ hi'))
theorem find_same {ss : List ByteArray} {s : ByteArray} {k at0 : Nat} {ok is : Bool} (h : NamesP ss) (hf : FindP ss.length (nmOf ss) s k ok) (hs : (is = false ∧ at0 = 0 ∧ ∀ q, q < ss.length → nmOf ss q ≠ s) ∨ (is = true ∧ at0 < ss.length ∧ nmOf ss at0 = s)) : k = at0 ∧ ok = is := by
  rcases hf with ⟨rfl, h1, h2, _⟩ | ⟨rfl, rfl, h1⟩
  · rcases hs with ⟨_, _, g⟩ | ⟨rfl, g1, g2⟩
    · exact absurd h2 (g k h1)
    · exact ⟨nm_inj h h1 g1 (h2.trans g2.symm), rfl⟩
  · rcases hs with ⟨rfl, rfl, _⟩ | ⟨_, g1, g2⟩
    · exact ⟨rfl, rfl⟩
    · exact absurd g2 (h1 at0 g1)
set_option maxHeartbeats 2000000 in
set_option maxRecDepth 100000 in
theorem lnames_any (vn vb vp : Value) (ss : List ByteArray) (ps : List (Int × Int)) (x y : Int) (s : ByteArray) (w : World) (hs : NamesAt w vn ss) (hp : PairsAt w vb ps) (hl : ss.length ≤ maxLen) (hl2 : ps.length ≤ maxLen) :
    Calls Try.prog 5 #[.agg #[vn, vb, vp], .agg #[.int .i64 x, .int .i64 y], .string s] w fun e w' => e = .returned (.bool true) ∧ Below w.heap.size w w' := by
  obtain ⟨an, capn, rfl, _, hcn⟩ := hs.form
  obtain ⟨ab, capb, rfl, _⟩ := hp.form
  have HCN := Lib.hid hcn
  clear hcn
  go_enter Try.func5, Try.ntmps5
  go_wp2
  have kb0 : Below w.heap.size w ((w.alloc (Obj.cells #[Value.slice an ss.length capn, Value.slice ab ps.length capb, vp] 26)).alloc (Obj.cells #[Value.int .i64 x, Value.int .i64 y] 44)) := ((Below.refl _ _).alloc (Nat.le_refl _) _).alloc (by simp) _
  have f0 : ((w.alloc (Obj.cells #[Value.slice an ss.length capn, Value.slice ab ps.length capb, vp] 26)).alloc (Obj.cells #[Value.int .i64 x, Value.int .i64 y] 44)).heap[w.heap.size]? = some (Obj.cells #[Value.slice an ss.length capn, Value.slice ab ps.length capb, vp] 26) := by
    rw [al_old _ _ _ (by rw [al_size]; omega), al_new]
  have f1 : ((w.alloc (Obj.cells #[Value.slice an ss.length capn, Value.slice ab ps.length capb, vp] 26)).alloc (Obj.cells #[Value.int .i64 x, Value.int .i64 y] 44)).heap[w.heap.size + 1]? = some (Obj.cells #[Value.int .i64 x, Value.int .i64 y] 44) := by
    have := al_new (w.alloc (Obj.cells #[Value.slice an ss.length capn, Value.slice ab ps.length capb, vp] 26)) (Obj.cells #[Value.int .i64 x, Value.int .i64 y] 44)
    rwa [al_size] at this
  generalize (w.alloc (Obj.cells #[Value.slice an ss.length capn, Value.slice ab ps.length capb, vp] 26)).alloc (Obj.cells #[Value.int .i64 x, Value.int .i64 y] 44) = w0 at kb0 f0 f1
  have x0 := cell_of_row w0 (w.heap.size + 1) 0 _ _ _ f1
  have x1 := cell_of_row w0 (w.heap.size + 1) 1 _ _ _ f1
  have HF0 := Lib.hid f0
  clear f0 f1
  go_quiet (fail)
  clear x0 x1
  have kb1 : Below w.heap.size w (w0.drewN nq) := below_drewN kb0 nq
  have F1 : (w0.drewN nq).heap[w.heap.size]? = some (Obj.cells #[Value.slice an ss.length capn, Value.slice ab ps.length capb, vp] 26) := HF0.out
  clear kb0 HF0
  generalize w0.drewN nq = w1 at kb1 F1
  have q0 := cell_of_row w1 w.heap.size 0 _ _ _ F1
  have q1 := cell_of_row w1 w.heap.size 1 _ _ _ F1
  have q2 := cell_of_row w1 w.heap.size 2 _ _ _ F1
  have HF1 := Lib.hid F1
  clear F1
  go_wp2_with (first | (go_at_call 23; refine (find_nil _ _).mono ?_; rintro e w' ⟨rfl, rfl⟩) | (go_at_call 15; refine (size_nil _).mono ?_; rintro e w' ⟨rfl, rfl⟩) | (go_at_call 24; refine (is_nil _ _).mono ?_; rintro e w' ⟨rfl, rfl⟩) | (go_at_call 16; refine (leq_nil _ _ _).mono ?_; rintro e w' ⟨rfl, rfl⟩) | (go_at_call 17; refine (join_nil _ _ _).mono ?_; rintro e w' ⟨rfl, rfl⟩) | (go_at_call 19; refine (meet_nil _ _ _).mono ?_; rintro e w' ⟨rfl, rfl⟩) | (go_at_call 25; refine (text_nil _ _).mono ?_; rintro e w' ⟨rfl, rfl⟩))
  refine (light_any an ab ss.length ps.length capn capb vp _).mono ?_
  rintro e w2 ⟨rfl, hb2⟩
  have k2 := bt kb1 hb2
  have F2 := bkeep hb2 HF1.out
  clear q0 q1 q2 kb1 hb2 HF1
  have q0 := cell_of_row w2 w.heap.size 0 _ _ _ F2
  have q1 := cell_of_row w2 w.heap.size 1 _ _ _ F2
  have q2 := cell_of_row w2 w.heap.size 2 _ _ _ F2
  have HF2 := Lib.hid F2
  clear F2
  cases hli : liB ss.length ps.length
  · go_wp2_with fail
    refine (lives_any _).mono ?_
    rintro e w3 ⟨rfl, hb3⟩
    go_wp2
    go_ret
    exact ⟨rfl, bt k2 hb3⟩
  go_wp2_with fail
  refine (check_any _ _ vp ss ps _ (hs.go k2) (hp.go k2) hl hl2).mono ?_
  rw [ErrPostEq]
  rintro e w3 ⟨rfl, hb3⟩
  have k3 := bt k2 hb3
  have F3 := bkeep hb3 HF2.out
  clear q0 q1 q2 k2 hb3 HF2
  have q0 := cell_of_row w3 w.heap.size 0 _ _ _ F3
  have q1 := cell_of_row w3 w.heap.size 1 _ _ _ F3
  have q2 := cell_of_row w3 w.heap.size 2 _ _ _ F3
  have HF3 := Lib.hid F3
  clear F3
  by_cases hg : Good ss ps
  · have HG := Lib.hid hg
    rw [err0 hg]
    go_wp2_with fail
    refine (new_any _ _ vp ss ps _ (hs.go k3) (hp.go k3) hl hl2).mono ?_
    rintro e w4 ⟨hb4, hcase⟩
    obtain ⟨_, g, rfl, _, hL⟩ := hcase.resolve_right fun h => h.1 hg
    clear hg
    have k4 := bt k3 hb4
    have F4 := bkeep hb4 HF3.out
    have n8 := HG.out.names.2.1
    have n1 := HG.out.names.1
    have hLat : LatAt w4 g ss.length (nmOf ss) (cl ps ss.length) (joinT (cl ps ss.length) ss.length) (joinT (trn (cl ps ss.length)) ss.length) _ _ := hL
    generalize cl ps ss.length = c at hLat
    generalize foldT (joinT (trn c) ss.length) ss.length = bo at hLat
    generalize foldT (joinT c ss.length) ss.length = tp at hLat
    generalize joinT (trn c) ss.length = m at hLat
    generalize joinT c ss.length = j at hLat
    have HL := Lib.hid hLat
    clear hL hLat q0 q1 q2 k3 hb4 HF3
    have HF4 := Lib.hid F4
    clear F4
    go_wp2_with fail
    refine (find_any _ _ _ _ _ _ _ _ _ s HL.out n8).mono ?_
    rintro e w' ⟨rfl, kf, okf, rfl, hfind⟩
    have HFI := Lib.hid hfind
    clear hfind
    obtain ⟨bn, offn, rfl, _, _⟩ := HCN.out 0 _ (List.getElem?_eq_getElem n1)
    go_wp2_with fail
    go_loopw [16, 17, 18] (fun u v i wr => ∃ (i0 at0 : Nat) (is : Bool), i0 ≤ ss.length ∧ i = .int .i64 i0 ∧ u = .int .i64 at0 ∧ v = .bool is ∧ Hp w4 wr ∧ ((is = false ∧ at0 = 0 ∧ ∀ q, q < i0 → nmOf ss q ≠ s) ∨ (is = true ∧ at0 < i0 ∧ nmOf ss at0 = s))) (fun _ _ i _ => ss.length - (intOf i).toNat)
    case atStart => exact ⟨0, 0, false, by omega, rfl, rfl, rfl, Hp.refl _, .inl ⟨rfl, rfl, fun q h => by omega⟩⟩
    case round =>
      obtain ⟨i0, at0, is, hi0, rfl, rfl, rfl, hh, hst⟩ := hrel
      have HST := Lib.hid hst
      clear hst
      have q0 := hh.cell (cell_of_row w4 w.heap.size 0 _ _ _ HF4.out)
      by_cases hlt : i0 < ss.length
      · obtain ⟨t, hy⟩ : ∃ x, ss[i0]? = some x := ⟨_, List.getElem?_eq_getElem hlt⟩
        obtain ⟨b', off', hbb, c2, ht⟩ := HCN.out i0 _ hy
        cases hbb
        have e2 := hh.cell (cellB k4 c2)
        have hnm : nmOf ss i0 = t := by simp [nmOf, List.getD, hy]
        have HNM := Lib.hid hnm
        clear hy c2 hnm
        have hLr : LatAt wr g ss.length (nmOf ss) c j m bo tp := by
          have := HL.out
          unfold LatAt at this ⊢
          rw [hh.heap]
          exact this
        have HLr := Lib.hid hLr
        clear hLr
        have i1 : (i0 : Int) < (ss.length : Int) := by omega
        cases g2 : (t.toList == s.toList)
        · go_wp2
          go_quiet ((go_at_call 25; exact quiet_same (text_is (HLr.out.drewN _) n8 i0 t hlt HNM.out)))
          go_wp2
          go_roundw
          case rel =>
            refine ⟨i0 + 1, at0, is, by omega, by go_num, rfl, rfl, hh.drewN _, ?_⟩
            rcases HST.out with ⟨h1, h2, h3⟩ | ⟨h1, h2, h3⟩
            · refine .inl ⟨h1, h2, fun q hq => ?_⟩
              by_cases e : q < i0
              · exact h3 q e
              · obtain rfl : q = i0 := by omega
                rw [HNM.out]
                intro hts
                rw [bytes_eq.2 hts] at g2
                cases g2
            · exact .inr ⟨h1, by omega, h3⟩
          case measure => simp [intOf]; omega
        · go_wp2
          go_quiet ((go_at_call 25; exact quiet_same (text_is (HLr.out.drewN _) n8 i0 t hlt HNM.out)))
          go_wp2
          go_roundw
          case rel => exact ⟨i0 + 1, i0, true, by omega, by go_num, rfl, rfl, hh.drewN _, .inr ⟨rfl, by omega, by rw [HNM.out, bytes_eq.1 g2]⟩⟩
          case measure => simp [intOf]; omega
      · obtain rfl : i0 = ss.length := by omega
        obtain ⟨hke, hoe⟩ : kf = at0 ∧ okf = is := find_same HG.out.names HFI.out HST.out
        subst hke
        subst hoe
        have hLr : LatAt wr g ss.length (nmOf ss) c j m bo tp := by
          have := HL.out
          unfold LatAt at this ⊢
          rw [hh.heap]
          exact this
        have HLr := Lib.hid hLr
        clear hLr HST HFI hi0 hlt
        have k5 := bt k4 hh.below
        cases hin : inI x ss.length
        · have HIN := Lib.hid hin
          have hz := inI_nat (show 0 < ss.length by omega)
          have hpos : decide (0 ≤ x) = false ∨ (decide (0 ≤ x) = true ∧ decide (x < (ss.length : Int)) = false) := by
            simp [inI] at hin ⊢
            omega
          have hleq1 := leq_any _ _ _ _ _ _ _ _ _ x 0 HLr.out n8
          have hleq2 := leq_any _ _ _ _ _ _ _ _ _ 0 x HLr.out n8
          have hjo1 := join_any _ _ _ _ _ _ _ _ _ x 0 HLr.out n8
          have hjo2 := join_any _ _ _ _ _ _ _ _ _ 0 x HLr.out n8
          have hme1 := meet_any _ _ _ _ _ _ _ _ _ x 0 HLr.out n8
          have htx1 := text_any _ _ _ _ _ _ _ _ _ x HLr.out n8
          have his1 := is_any _ _ _ _ _ _ _ _ _ x HLr.out
          rw [show leqB ss.length c x 0 = false by simp [leqB, hin]] at hleq1
          rw [show leqB ss.length c 0 x = false by simp [leqB, hin]] at hleq2
          rw [show joinV ss.length j tp x 0 = tp by simp [joinV, hin]] at hjo1
          rw [show joinV ss.length j tp 0 x = tp by simp [joinV, hin]] at hjo2
          rw [show meetV ss.length m bo x 0 = bo by simp [meetV, hin]] at hme1
          rw [show textV ss.length (nmOf ss) x = ByteArray.empty by simp [textV, hin]] at htx1
          rw [hin] at his1
          have H1 := Lib.hid hleq1
          have H2 := Lib.hid hleq2
          have H3 := Lib.hid hjo1
          have H4 := Lib.hid hjo2
          have H5 := Lib.hid hme1
          have H6 := Lib.hid htx1
          have H7 := Lib.hid his1
          clear hleq1 hleq2 hjo1 hjo2 hme1 htx1 his1 hin hz
          rcases hpos with d1 | ⟨d1, d2⟩
          all_goals
            go_wp2_with (first | (go_at_call 24; (with_reducible refine H7.out.mono ?_); rintro e w' ⟨rfl, rfl⟩) | (go_at_call 16; (with_reducible refine H1.out.mono ?_); rintro e w' ⟨rfl, rfl⟩) | (go_at_call 16; (with_reducible refine H2.out.mono ?_); rintro e w' ⟨rfl, rfl⟩) | (go_at_call 17; (with_reducible refine H3.out.mono ?_); rintro e w' ⟨rfl, rfl⟩) | (go_at_call 17; (with_reducible refine H4.out.mono ?_); rintro e w' ⟨rfl, rfl⟩) | (go_at_call 19; (with_reducible refine H5.out.mono ?_); rintro e w' ⟨rfl, rfl⟩) | (go_at_call 25; (with_reducible refine H6.out.mono ?_); rintro e w' ⟨rfl, rfl⟩) | (go_at_call 22; refine (top_any _ _ _ _ _ _ _ _ _ HLr.out).mono ?_; rintro e w' ⟨rfl, rfl⟩) | (go_at_call 21; refine (bottom_any _ _ _ _ _ _ _ _ _ HLr.out).mono ?_; rintro e w' ⟨rfl, rfl⟩))
            refine (lives_any _).mono ?_
            rintro e w6 ⟨rfl, hb6⟩
            go_wp2
            go_ret
            exact ⟨rfl, bt k5 hb6⟩
        · have i1 : decide (0 ≤ x) = true ∧ decide (x < (ss.length : Int)) = true := by
            simp [inI] at hin ⊢
            omega
          obtain ⟨d1, d2⟩ := i1
          go_wp2_with (go_at_call 24; refine (is_any _ _ _ _ _ _ _ _ _ _ HLr.out).mono ?_; rintro e w' ⟨rfl, rfl⟩)
          refine (lives_any _).mono ?_
          rintro e w6 ⟨rfl, hb6⟩
          go_wp2
          go_ret
          exact ⟨rfl, bt k5 hb6⟩
  · have HE := Lib.hid (errOf_ne hg)
    clear hg
    generalize errOf ss ps = er at HE
    have g1 : (er != 0) = true := by simpa using HE.out
    go_wp2_with fail
    refine (lives_any _).mono ?_
    rintro e w4 ⟨rfl, hb4⟩
    go_wp2
    go_ret
    exact ⟨rfl, bt k3 hb4⟩
end Lv
end Go.Proofs.Ytblmjhnkjbhdmaa
