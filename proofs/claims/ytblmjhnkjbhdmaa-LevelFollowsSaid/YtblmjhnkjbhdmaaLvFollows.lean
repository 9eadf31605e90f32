/- What the law LevelFollows does: it answers true. -/
import Derived.Test.YtblmjhnkjbhdmaaLvFolMath
namespace Go.Proofs.Ytblmjhnkjbhdmaa
open Go.RowKit
namespace Lv
set_option linter.unusedSimpArgs false in
set_option maxHeartbeats 4000000 in
set_option maxRecDepth 100000 in
theorem lfollows_any (vn vb vp : Value) (ss : List ByteArray) (ps : List (Int × Int)) (x y : Int) (w : World) (hs : NamesAt w vn ss) (hp : PairsAt w vb ps) (hl : ss.length ≤ maxLen) (hl2 : ps.length ≤ maxLen) (hnil : ∀ n cap, vb = .slice none n cap → cap = 0) (hvp : ∃ a n c, vp = .slice a n c) :
    Calls Try.prog 7 #[.agg #[vn, vb, vp], .agg #[.int .i64 x, .int .i64 y]] w fun e w' => e = .returned (.bool true) ∧ Below w.heap.size w w' := by
  obtain ⟨an, capn, rfl, _, _⟩ := hs.form
  obtain ⟨ab, capb, rfl, _⟩ := hp.form
  obtain ⟨ap, np, cp, rfl⟩ := hvp
  have HNIL : Hid (ab = none → capb = 0) := fun h => hnil ps.length capb (by rw [h])
  clear hnil
  go_enter Try.func7, Try.ntmps7
  go_wp2_with fail
  have kb1 : Below w.heap.size w ((w.alloc (Obj.cells #[Value.slice an ss.length capn, Value.slice ab ps.length capb, Value.slice ap np cp] 26)).alloc (Obj.cells #[Value.int .i64 x, Value.int .i64 y] 44)) := ((Below.refl _ _).alloc (Nat.le_refl _) _).alloc (by simp) _
  have f0 : ((w.alloc (Obj.cells #[Value.slice an ss.length capn, Value.slice ab ps.length capb, Value.slice ap np cp] 26)).alloc (Obj.cells #[Value.int .i64 x, Value.int .i64 y] 44)).heap[w.heap.size]? = some (Obj.cells #[Value.slice an ss.length capn, Value.slice ab ps.length capb, Value.slice ap np cp] 26) := by
    rw [al_old _ _ _ (by rw [al_size]; omega), al_new]
  have f1 : ((w.alloc (Obj.cells #[Value.slice an ss.length capn, Value.slice ab ps.length capb, Value.slice ap np cp] 26)).alloc (Obj.cells #[Value.int .i64 x, Value.int .i64 y] 44)).heap[w.heap.size + 1]? = some (Obj.cells #[Value.int .i64 x, Value.int .i64 y] 44) := by
    have := al_new (w.alloc (Obj.cells #[Value.slice an ss.length capn, Value.slice ab ps.length capb, Value.slice ap np cp] 26)) (Obj.cells #[Value.int .i64 x, Value.int .i64 y] 44)
    rwa [al_size] at this
  generalize (w.alloc (Obj.cells #[Value.slice an ss.length capn, Value.slice ab ps.length capb, Value.slice ap np cp] 26)).alloc (Obj.cells #[Value.int .i64 x, Value.int .i64 y] 44) = w1 at kb1 f0 f1
  refine (new_any _ _ _ ss ps _ (hs.go kb1) (hp.go kb1) hl hl2).mono ?_
  rintro e w2 ⟨hb2, hcase⟩
  have k2 := bt kb1 hb2
  have F2 := Lib.hid (bkeep hb2 f0)
  have X2 := Lib.hid (bkeep hb2 f1)
  clear kb1 hb2 f0 f1
  have q0 := cell_of_row w2 w.heap.size 0 _ _ _ F2.out
  have q1 := cell_of_row w2 w.heap.size 1 _ _ _ F2.out
  have q2 := cell_of_row w2 w.heap.size 2 _ _ _ F2.out
  rcases hcase with ⟨hg, g, rfl, _, hL⟩ | ⟨hg, rfl⟩
  · have HG := Lib.hid hg
    have n8 := hg.names.2.1
    have n1 := hg.names.1
    clear hg
    have HL2 := Lib.hid hL
    clear hL
    go_wp2_with fail
    refine (light_any an ab ss.length ps.length capn capb _ _).mono ?_
    rintro e w3 ⟨rfl, hb3⟩
    have k3 := bt k2 hb3
    have F3 := Lib.hid (bkeep hb3 F2.out)
    have X3 := Lib.hid (bkeep hb3 X2.out)
    have HL3 : Hid (LatAt w3 g ss.length (nmOf ss) (cl ps ss.length) (joinT (cl ps ss.length) ss.length) (joinT (trn (cl ps ss.length)) ss.length) (foldT (joinT (trn (cl ps ss.length)) ss.length) ss.length) (foldT (joinT (cl ps ss.length) ss.length) ss.length)) := bkeep hb3 HL2.out
    clear q0 q1 q2 k2 hb3 F2 X2 HL2
    have q1 := cell_of_row w3 w.heap.size 1 _ _ _ F3.out
    have x0 := cell_of_row w3 (w.heap.size + 1) 0 _ _ _ X3.out
    have x1 := cell_of_row w3 (w.heap.size + 1) 1 _ _ _ X3.out
    cases hli : liB ss.length ps.length
    · go_wp2_with fail
      refine (lives_any _).mono ?_
      rintro e w4 ⟨rfl, hb4⟩
      go_wp2
      go_ret
      exact ⟨rfl, bt k3 hb4⟩
    · by_cases h64 : 64 ≤ ps.length
      · have d1 : decide ((64 : Int) ≤ (ps.length : Int)) = true := by simp; omega
        go_wp2_with fail
        refine (lives_any _).mono ?_
        rintro e w4 ⟨rfl, hb4⟩
        go_wp2
        go_ret
        exact ⟨rfl, bt k3 hb4⟩
      · have d1 : decide ((64 : Int) ≤ (ps.length : Int)) = false := by simp; omega
        cases hle : leqB ss.length (cl ps ss.length) x y
        · go_wp2_with (go_at_call 16; refine (leq_any _ _ _ _ _ _ _ _ _ _ _ HL3.out n8).mono ?_; rintro e w' ⟨rfl, rfl⟩)
          refine (lives_any _).mono ?_
          rintro e w4 ⟨rfl, hb4⟩
          go_wp2
          go_ret
          exact ⟨rfl, bt k3 hb4⟩
        · obtain ⟨x', y', rfl, rfl, hx', hy', hcxy⟩ : ∃ x' y' : Nat, x = x' ∧ y = y' ∧ x' < ss.length ∧ y' < ss.length ∧ cl ps ss.length x' y' = true := by
            simp only [leqB, inI, Bool.and_eq_true, decide_eq_true_eq] at hle
            exact ⟨x.toNat, y.toNat, by omega, by omega, by omega, by omega, hle.2⟩
          have HCXY := Lib.hid hcxy
          clear hcxy
          have q0 := cell_of_row w3 w.heap.size 0 _ _ _ F3.out
          have q2 := cell_of_row w3 w.heap.size 2 _ _ _ F3.out
          go_wp2_with (go_at_call 16; refine (leq_any _ _ _ _ _ _ _ _ _ _ _ HL3.out n8).mono ?_; rintro e w' ⟨rfl, rfl⟩)
          have hbq : Below w3.heap.size w3 (w3.alloc (Obj.cells #[Value.slice an ss.length capn, Value.slice ab ps.length capb, Value.slice ap np cp] 26)) := (Below.refl _ _).alloc (Nat.le_refl _) _
          have GQ := Lib.hid (al_new w3 (Obj.cells #[Value.slice an ss.length capn, Value.slice ab ps.length capb, Value.slice ap np cp] 26))
          have kq := bt k3 hbq
          have y1 := cellB hbq q1
          have y2 := cellB hbq x0
          have y3 := cellB hbq x1
          have HLq := Lib.hid (bkeep hbq HL3.out)
          have hgq : w.heap.size + 1 < w3.heap.size := lt_of_some X3.out
          have hgl : g < w3.heap.size := lt_of_some HL3.out
          clear q0 q1 q2 x0 x1 F3 X3 hbq HL3
          generalize hwq : w3.alloc (Obj.cells #[Value.slice an ss.length capn, Value.slice ab ps.length capb, Value.slice ap np cp] 26) = wq at GQ kq y1 y2 y3 HLq
          clear hwq k3
          generalize w3.heap.size = gq at GQ hgq hgl
          have hgz : gq < wq.heap.size := lt_of_some GQ.out
          have hpq : PairsAt wq.drew (.slice ab ps.length capb) ps := (hp.go kq).go (Below.refl _ _).drew
          have HPQ0 := Lib.hid hpq
          clear hpq
          refine wp_region_held_drew (S := (fun w' => w'.cell? ⟨w.heap.size, 1, none⟩ = some (.slice ab ps.length capb) ∧ w'.cell? ⟨w.heap.size + 1, 0, none⟩ = some (.int .i64 (x' : Nat)) ∧ w'.cell? ⟨w.heap.size + 1, 1, none⟩ = some (.int .i64 (y' : Nat)))) (by kernel_rfl) ⟨y1, y2, y3⟩ (fun hHeld => ?_)
          refine take_put (i := 0) (d := 42) (oi := _) (v := ?v0) rfl rfl (by kernel_rfl) (by kernel_rfl) (by kernel_rfl) (fun _ _ _ h => h) (Or.inl ⟨by rfl, ?y0⟩) hHeld ?r0
          case y0 => (intro w hSw; (try dsimp only at hSw); go_simp; try with_reducible rfl)
          simp only [Act.put, List.setIfInBounds_toArray, List.set_cons_zero, List.set_cons_succ]
          refine take_put (i := 1) (d := 43) (oi := _) (v := ?v1) rfl rfl (by kernel_rfl) (by kernel_rfl) (by kernel_rfl) (fun _ _ _ h => h) (Or.inl ⟨by rfl, ?y1⟩) hHeld ?r1
          case y1 => (intro w hSw; (try dsimp only at hSw); go_simp; try with_reducible rfl)
          simp only [Act.put, List.setIfInBounds_toArray, List.set_cons_zero, List.set_cons_succ]
          refine take_put (i := 2) (d := 44) (oi := _) (v := ?v2) rfl rfl (by kernel_rfl) (by kernel_rfl) (by kernel_rfl) (fun _ _ _ h => h) (Or.inl ⟨by rfl, ?y2⟩) hHeld ?r2
          case y2 => (intro w hSw; (try dsimp only at hSw); go_simp; try with_reducible rfl)
          simp only [Act.put, List.setIfInBounds_toArray, List.set_cons_zero, List.set_cons_succ]
          refine take_put (i := 4) (d := 46) (oi := _) (v := ?v4) rfl rfl (by kernel_rfl) (by kernel_rfl) (by kernel_rfl) (fun _ _ _ h => h) (Or.inl ⟨by rfl, ?y4⟩) hHeld ?r4
          case y4 => (intro w hSw; (try dsimp only at hSw); go_simp; try with_reducible rfl)
          simp only [Act.put, List.setIfInBounds_toArray, List.set_cons_zero, List.set_cons_succ]
          refine wpAnyH_ready (rs := [3, 5]) (by kernel_rfl) (by simp) (AllReadyH.cons (o := _) rfl (fun K hK => ?_) (AllReadyH.cons (o := _) rfl (fun K hK => ?_) AllReadyH.nil))
          · rw [if_pos (by rfl)]
            refine wp_appA _ _ rfl 45 rfl rfl ab capb ps rfl HPQ0.out HNIL.out (by omega) fun v5 w5 ho5 hb5 => ?_
            have z1 := cellB hb5 (show wq.drew.cell? _ = _ from y1)
            have z2 := cellB hb5 (show wq.drew.cell? _ = _ from y2)
            have z3 := cellB hb5 (show wq.drew.cell? _ = _ from y3)
            have HO5 := Lib.hid ho5
            clear ho5
            refine hK.out _ _ ⟨z1, z2, z3⟩ (fun hHeld => ?_)
            clear hK K
            simp only [Act.put, List.setIfInBounds_toArray, List.set_cons_zero, List.set_cons_succ]
            refine wpAnyH_ready (rs := [5]) (by kernel_rfl) (by simp) (AllReadyH.cons (o := _) rfl (fun K hK => ?_) AllReadyH.nil)
            go_simp
            have hbx : Below w5.heap.size w5 (w5.alloc (.cells #[.int .i64 (x' : Nat), .int .i64 (y' : Nat)] 44)) := (Below.refl _ _).alloc (Nat.le_refl _) _
            refine hK.out _ _ ⟨cellB hbx z1, cellB hbx z2, cellB hbx z3⟩ (fun hHeld => ?_)
            clear hK K
            refine wpAnyH_ready (rs := [6]) (by kernel_rfl) (by simp) (AllReadyH.cons (o := _) rfl (fun K hK => ?_) AllReadyH.nil)
            rw [if_pos (by rfl)]
            refine wp_appB _ _ rfl 48 rfl wq.drew.heap.size v5 rfl ps w5.heap.size x' y' rfl (HO5.out.alloc _) (al_new _ _) (by omega) (Nat.le_trans hb5.size hbx.size) fun v6 w6 hp6 hb6 => ?_
            have kE : Below wq.heap.size wq w6 := ((Below.refl wq.heap.size wq).drew.trans (hb5.trans (hbx.mono hb5.size))).trans hb6
            refine hK.out _ _ ⟨cellB kE y1, cellB kE y2, cellB kE y3⟩ (fun hHeld => ?_)
            clear hK K
            simp only [Act.put, List.setIfInBounds_toArray, List.set_cons_zero, List.set_cons_succ]
            obtain ⟨a6, cap6, hv6, _⟩ := (hp6 w6 fun _ _ => rfl).form
            rw [show (ps ++ [((x' : Int), (y' : Int))]).length = ps.length + 1 by simp] at hv6
            subst hv6
            have G6 := bkeep kE GQ.out
            have c8 := cell_of_row w6 gq 1 _ _ _ G6
            have f8 := frozen_of_row w6 gq 1 _ _ G6
            have HP6 := Lib.hid hp6
            have HG6 := Lib.hid G6
            clear hp6 G6
            refine take_put (i := 7) (d := 49) (oi := _) (v := ?v7) rfl rfl (by kernel_rfl) (by kernel_rfl) (by kernel_rfl) (fun _ _ _ h => h) (Or.inl ⟨by rfl, ?y7⟩) hHeld ?r7
            case y7 => (intro w hSw; (try dsimp only at hSw); go_simp; try with_reducible rfl)
            simp only [Act.put, List.setIfInBounds_toArray, List.set_cons_zero, List.set_cons_succ]
            refine wpAnyH_ready (rs := [8]) (by kernel_rfl) (by simp) (AllReadyH.cons (o := _) rfl (fun K hK => ?_) AllReadyH.nil)
            go_simp
            have kS : Below gq wq (w6.setCell ⟨gq, 1, none⟩ (.slice a6 (ps.length + 1) cap6)) := (kE.mono (show gq ≤ wq.heap.size by omega)).setCell (Nat.le_refl _) _
            have s1 := (kS.cell (p := ⟨w.heap.size, 1, none⟩) (by show w.heap.size < gq; omega)).trans y1
            have s2 := (kS.cell (p := ⟨w.heap.size + 1, 0, none⟩) hgq).trans y2
            have s3 := (kS.cell (p := ⟨w.heap.size + 1, 1, none⟩) hgq).trans y3
            refine hK.out _ _ ⟨s1, s2, s3⟩ (fun hHeld => ?_)
            clear hK K
            refine wpAnyH_done (by kernel_rfl) ?_ _
            have hpE : PairsAt (w6.setCell ⟨gq, 1, none⟩ (.slice a6 (ps.length + 1) cap6)) (.slice a6 (ps.length + 1) cap6) (ps ++ [((x' : Int), (y' : Int))]) := HP6.out _ fun k hk => heap_setCell_other _ _ _ _ (by
              have hz : wq.heap.size ≤ k := Nat.le_trans (Nat.le_refl _) hk
              show k ≠ gq
              omega)
            have kF : Below w.heap.size w (w6.setCell ⟨gq, 1, none⟩ (.slice a6 (ps.length + 1) cap6)) := kq.trans (kS.mono (by omega))
            have GE : (w6.setCell ⟨gq, 1, none⟩ (.slice a6 (ps.length + 1) cap6)).heap[gq]? = some (Obj.cells #[Value.slice an ss.length capn, Value.slice a6 (ps.length + 1) cap6, Value.slice ap np cp] 26) := by
              rw [heap_setCell_same _ _ 1 _ _ _ HG6.out]; rfl
            have hLE := (kS.block g hgl).trans HLq.out
            generalize (w6.setCell ⟨gq, 1, none⟩ (.slice a6 (ps.length + 1) cap6)) = wE at hpE kF GE hLE
            clear s1 s2 s3 kS c8 f8 HG6 HP6 kE hb6 hb5 hHeld y1 y2 y3 GQ
            have p0 := cell_of_row wE gq 0 _ _ _ GE
            have p1 := cell_of_row wE gq 1 _ _ _ GE
            have p2 := cell_of_row wE gq 2 _ _ _ GE
            clear GE
            have HPE := Lib.hid hpE
            have HLE := Lib.hid hLE
            clear hpE hLE
            go_wp2_with fail
            refine (new_any _ _ _ ss (ps ++ [((x' : Int), (y' : Int))]) _ (hs.go kF) HPE.out hl (by unfold maxLen; simp; omega)).mono ?_
            rintro e w7 ⟨hb7, hcase⟩
            obtain ⟨_, g7, rfl, _, hL7⟩ := hcase.resolve_right fun h => h.1 (good_follow HG.out (by omega) hx' hy' HCXY.out)
            have k7 := bt kF hb7
            have hLa : LatAt w7 g ss.length (nmOf ss) (cl ps ss.length) (joinT (cl ps ss.length) ss.length) (joinT (trn (cl ps ss.length)) ss.length) (foldT (joinT (trn (cl ps ss.length)) ss.length) ss.length) (foldT (joinT (cl ps ss.length) ss.length) ss.length) := bkeep hb7 HLE.out
            have hLb : LatAt w7 g7 ss.length (nmOf ss) (cl (ps ++ [((x' : Int), (y' : Int))]) ss.length) (joinT (cl ps ss.length) ss.length) (joinT (trn (cl ps ss.length)) ss.length) (foldT (joinT (trn (cl ps ss.length)) ss.length) ss.length) (foldT (joinT (cl ps ss.length) ss.length) ss.length) := by
              have h7 := hL7
              unfold latOf at h7
              rw [(tabs_follow n8 HCXY.out).1, (tabs_follow n8 HCXY.out).2] at h7
              exact h7
            have hcc := cl_follow HCXY.out
            generalize cl (ps ++ [((x' : Int), (y' : Int))]) ss.length = c' at hLb hcc
            generalize cl ps ss.length = c at hLa hLb hcc
            generalize foldT (joinT (trn c) ss.length) ss.length = bo at hLa hLb
            generalize foldT (joinT c ss.length) ss.length = tp at hLa hLb
            generalize joinT (trn c) ss.length = m at hLa hLb
            generalize joinT c ss.length = j at hLa hLb
            generalize nmOf ss = nm at hLa hLb
            have HLa := Lib.hid hLa
            have HLb := Lib.hid hLb
            have HCC := Lib.hid hcc
            clear hLa hLb hcc hL7 hb7 HLE HPE kF
            go_wp2_with (first | (go_at_call 21; (with_reducible refine (bottom_any w7 g7 _ _ _ _ _ _ _ HLb.out).mono ?_); rintro e w' ⟨rfl, rfl⟩) | (go_at_call 21; (with_reducible refine (bottom_any w7 g _ _ _ _ _ _ _ HLa.out).mono ?_); rintro e w' ⟨rfl, rfl⟩) | (go_at_call 22; (with_reducible refine (top_any w7 g7 _ _ _ _ _ _ _ HLb.out).mono ?_); rintro e w' ⟨rfl, rfl⟩) | (go_at_call 22; (with_reducible refine (top_any w7 g _ _ _ _ _ _ _ HLa.out).mono ?_); rintro e w' ⟨rfl, rfl⟩))
            go_loop [11, 12] (fun i _ => ∃ a : Nat, a ≤ ss.length ∧ i = .int .i64 a) (fun i _ => ss.length - (intOf i).toNat)
            case atStart => exact ⟨0, by omega, rfl⟩
            case round =>
              obtain ⟨a, ha, rfl⟩ := hrel
              by_cases hlt : a < ss.length
              · go_wp2_with (go_at_call 15; refine (size_any _ _ _ _ _ _ _ _ _ HLa.out).mono ?_; rintro e w' ⟨rfl, rfl⟩)
                go_loop [12] (fun i => ∃ b : Nat, b ≤ ss.length ∧ i = .int .i64 b) (fun i => ss.length - (intOf i).toNat)
                case atStart => exact ⟨0, by omega, rfl⟩
                case round =>
                  obtain ⟨b, hb, rfl⟩ := hrel
                  by_cases hlt2 : b < ss.length
                  · have hc1 := HCC.out a b (by omega) (by omega)
                    have HC1 := Lib.hid hc1
                    clear hc1
                    go_wp2_with (first | (go_at_call 15; refine (size_any _ _ _ _ _ _ _ _ _ HLa.out).mono ?_; rintro e w' ⟨rfl, rfl⟩) | (go_at_call 16; (with_reducible refine (leq_is HLa.out n8 a b (c a b) hlt hlt2 rfl ).mono ?_); rintro e w' ⟨rfl, rfl⟩) | (go_at_call 16; (with_reducible refine (leq_is HLb.out n8 a b (c a b) hlt hlt2 HC1.out ).mono ?_); rintro e w' ⟨rfl, rfl⟩) | (go_at_call 17; (with_reducible refine (join_is HLa.out n8 a b (j a b) hlt hlt2 rfl ).mono ?_); rintro e w' ⟨rfl, rfl⟩) | (go_at_call 17; (with_reducible refine (join_is HLb.out n8 a b (j a b) hlt hlt2 rfl ).mono ?_); rintro e w' ⟨rfl, rfl⟩) | (go_at_call 19; (with_reducible refine (meet_is HLa.out n8 a b (m a b) hlt hlt2 rfl ).mono ?_); rintro e w' ⟨rfl, rfl⟩) | (go_at_call 19; (with_reducible refine (meet_is HLb.out n8 a b (m a b) hlt hlt2 rfl ).mono ?_); rintro e w' ⟨rfl, rfl⟩))
                    go_round
                    case rel => exact ⟨b + 1, by omega, by go_num⟩
                    case measure => simp [intOf]; omega
                  · obtain rfl : b = ss.length := by omega
                    go_wp2_with (go_at_call 15; refine (size_any _ _ _ _ _ _ _ _ _ HLa.out).mono ?_; rintro e w' ⟨rfl, rfl⟩)
                    go_round
                    case rel => exact ⟨a + 1, by omega, by go_num⟩
                    case measure => simp [intOf]; omega
              · obtain rfl : a = ss.length := by omega
                go_wp2_with (go_at_call 15; refine (size_any _ _ _ _ _ _ _ _ _ HLa.out).mono ?_; rintro e w' ⟨rfl, rfl⟩)
                refine (lives_any _).mono ?_
                rintro e w8 ⟨rfl, hb8⟩
                go_wp2
                go_ret
                exact ⟨rfl, bt k7 hb8⟩
          · go_simp
            have hbx : Below wq.heap.size wq (wq.alloc (.cells #[.int .i64 (x' : Nat), .int .i64 (y' : Nat)] 44)).drew := ((Below.refl _ _).alloc (Nat.le_refl _) _).drew
            have hgx : (wq.alloc (.cells #[.int .i64 (x' : Nat), .int .i64 (y' : Nat)] 44)).drew.heap[wq.heap.size]? = some (.cells #[.int .i64 (x' : Nat), .int .i64 (y' : Nat)] 44) := al_new _ _
            refine hK.out _ _ ⟨cellB hbx y1, cellB hbx y2, cellB hbx y3⟩ (fun hHeld => ?_)
            clear hK K
            refine wpAnyH_ready (rs := [3]) (by kernel_rfl) (by simp) (AllReadyH.cons (o := _) rfl (fun K hK => ?_) AllReadyH.nil)
            rw [if_pos (by rfl)]
            refine wp_appA _ _ rfl 45 rfl rfl ab capb ps rfl ((hp.go kq).go hbx) HNIL.out (by omega) fun v5 w5 ho5 hb5 => ?_
            have HO5 := Lib.hid ho5
            clear ho5
            have kD : Below wq.heap.size wq w5 := hbx.trans (hb5.mono hbx.size)
            refine hK.out _ _ ⟨cellB kD y1, cellB kD y2, cellB kD y3⟩ (fun hHeld => ?_)
            clear hK K
            simp only [Act.put, List.setIfInBounds_toArray, List.set_cons_zero, List.set_cons_succ]
            refine wpAnyH_ready (rs := [6]) (by kernel_rfl) (by simp) (AllReadyH.cons (o := _) rfl (fun K hK => ?_) AllReadyH.nil)
            rw [if_pos (by rfl)]
            refine wp_appB _ _ rfl 48 rfl (wq.alloc (.cells #[.int .i64 (x' : Nat), .int .i64 (y' : Nat)] 44)).drew.heap.size v5 rfl ps wq.heap.size x' y' rfl HO5.out (bkeep hb5 hgx) (by omega) hb5.size fun v6 w6 hp6 hb6 => ?_
            have kE : Below wq.heap.size wq w6 := kD.trans (hb6.mono hbx.size)
            refine hK.out _ _ ⟨cellB kE y1, cellB kE y2, cellB kE y3⟩ (fun hHeld => ?_)
            clear hK K
            simp only [Act.put, List.setIfInBounds_toArray, List.set_cons_zero, List.set_cons_succ]
            obtain ⟨a6, cap6, hv6, _⟩ := (hp6 w6 fun _ _ => rfl).form
            rw [show (ps ++ [((x' : Int), (y' : Int))]).length = ps.length + 1 by simp] at hv6
            subst hv6
            have G6 := bkeep kE GQ.out
            have c8 := cell_of_row w6 gq 1 _ _ _ G6
            have f8 := frozen_of_row w6 gq 1 _ _ G6
            have HP6 := Lib.hid hp6
            have HG6 := Lib.hid G6
            clear hp6 G6
            refine take_put (i := 7) (d := 49) (oi := _) (v := ?v7b) rfl rfl (by kernel_rfl) (by kernel_rfl) (by kernel_rfl) (fun _ _ _ h => h) (Or.inl ⟨by rfl, ?y7b⟩) hHeld ?r7b
            case y7b => (intro w hSw; (try dsimp only at hSw); go_simp; try with_reducible rfl)
            simp only [Act.put, List.setIfInBounds_toArray, List.set_cons_zero, List.set_cons_succ]
            refine wpAnyH_ready (rs := [8]) (by kernel_rfl) (by simp) (AllReadyH.cons (o := _) rfl (fun K hK => ?_) AllReadyH.nil)
            go_simp
            have kS : Below gq wq (w6.setCell ⟨gq, 1, none⟩ (.slice a6 (ps.length + 1) cap6)) := (kE.mono (show gq ≤ wq.heap.size by omega)).setCell (Nat.le_refl _) _
            have s1 := (kS.cell (p := ⟨w.heap.size, 1, none⟩) (by show w.heap.size < gq; omega)).trans y1
            have s2 := (kS.cell (p := ⟨w.heap.size + 1, 0, none⟩) hgq).trans y2
            have s3 := (kS.cell (p := ⟨w.heap.size + 1, 1, none⟩) hgq).trans y3
            refine hK.out _ _ ⟨s1, s2, s3⟩ (fun hHeld => ?_)
            clear hK K
            refine wpAnyH_done (by kernel_rfl) ?_ _
            have hpE : PairsAt (w6.setCell ⟨gq, 1, none⟩ (.slice a6 (ps.length + 1) cap6)) (.slice a6 (ps.length + 1) cap6) (ps ++ [((x' : Int), (y' : Int))]) := HP6.out _ fun k hk => heap_setCell_other _ _ _ _ (by
              have hz : wq.heap.size ≤ k := Nat.le_trans (hbx.size) hk
              show k ≠ gq
              omega)
            have kF : Below w.heap.size w (w6.setCell ⟨gq, 1, none⟩ (.slice a6 (ps.length + 1) cap6)) := kq.trans (kS.mono (by omega))
            have GE : (w6.setCell ⟨gq, 1, none⟩ (.slice a6 (ps.length + 1) cap6)).heap[gq]? = some (Obj.cells #[Value.slice an ss.length capn, Value.slice a6 (ps.length + 1) cap6, Value.slice ap np cp] 26) := by
              rw [heap_setCell_same _ _ 1 _ _ _ HG6.out]; rfl
            have hLE := (kS.block g hgl).trans HLq.out
            generalize (w6.setCell ⟨gq, 1, none⟩ (.slice a6 (ps.length + 1) cap6)) = wE at hpE kF GE hLE
            clear s1 s2 s3 kS c8 f8 HG6 HP6 kE hb6 hb5 hHeld y1 y2 y3 GQ
            have p0 := cell_of_row wE gq 0 _ _ _ GE
            have p1 := cell_of_row wE gq 1 _ _ _ GE
            have p2 := cell_of_row wE gq 2 _ _ _ GE
            clear GE
            have HPE := Lib.hid hpE
            have HLE := Lib.hid hLE
            clear hpE hLE
            go_wp2_with fail
            refine (new_any _ _ _ ss (ps ++ [((x' : Int), (y' : Int))]) _ (hs.go kF) HPE.out hl (by unfold maxLen; simp; omega)).mono ?_
            rintro e w7 ⟨hb7, hcase⟩
            obtain ⟨_, g7, rfl, _, hL7⟩ := hcase.resolve_right fun h => h.1 (good_follow HG.out (by omega) hx' hy' HCXY.out)
            have k7 := bt kF hb7
            have hLa : LatAt w7 g ss.length (nmOf ss) (cl ps ss.length) (joinT (cl ps ss.length) ss.length) (joinT (trn (cl ps ss.length)) ss.length) (foldT (joinT (trn (cl ps ss.length)) ss.length) ss.length) (foldT (joinT (cl ps ss.length) ss.length) ss.length) := bkeep hb7 HLE.out
            have hLb : LatAt w7 g7 ss.length (nmOf ss) (cl (ps ++ [((x' : Int), (y' : Int))]) ss.length) (joinT (cl ps ss.length) ss.length) (joinT (trn (cl ps ss.length)) ss.length) (foldT (joinT (trn (cl ps ss.length)) ss.length) ss.length) (foldT (joinT (cl ps ss.length) ss.length) ss.length) := by
              have h7 := hL7
              unfold latOf at h7
              rw [(tabs_follow n8 HCXY.out).1, (tabs_follow n8 HCXY.out).2] at h7
              exact h7
            have hcc := cl_follow HCXY.out
            generalize cl (ps ++ [((x' : Int), (y' : Int))]) ss.length = c' at hLb hcc
            generalize cl ps ss.length = c at hLa hLb hcc
            generalize foldT (joinT (trn c) ss.length) ss.length = bo at hLa hLb
            generalize foldT (joinT c ss.length) ss.length = tp at hLa hLb
            generalize joinT (trn c) ss.length = m at hLa hLb
            generalize joinT c ss.length = j at hLa hLb
            generalize nmOf ss = nm at hLa hLb
            have HLa := Lib.hid hLa
            have HLb := Lib.hid hLb
            have HCC := Lib.hid hcc
            clear hLa hLb hcc hL7 hb7 HLE HPE kF
            go_wp2_with (first | (go_at_call 21; (with_reducible refine (bottom_any w7 g7 _ _ _ _ _ _ _ HLb.out).mono ?_); rintro e w' ⟨rfl, rfl⟩) | (go_at_call 21; (with_reducible refine (bottom_any w7 g _ _ _ _ _ _ _ HLa.out).mono ?_); rintro e w' ⟨rfl, rfl⟩) | (go_at_call 22; (with_reducible refine (top_any w7 g7 _ _ _ _ _ _ _ HLb.out).mono ?_); rintro e w' ⟨rfl, rfl⟩) | (go_at_call 22; (with_reducible refine (top_any w7 g _ _ _ _ _ _ _ HLa.out).mono ?_); rintro e w' ⟨rfl, rfl⟩))
            go_loop [11, 12] (fun i _ => ∃ a : Nat, a ≤ ss.length ∧ i = .int .i64 a) (fun i _ => ss.length - (intOf i).toNat)
            case atStart => exact ⟨0, by omega, rfl⟩
            case round =>
              obtain ⟨a, ha, rfl⟩ := hrel
              by_cases hlt : a < ss.length
              · go_wp2_with (go_at_call 15; refine (size_any _ _ _ _ _ _ _ _ _ HLa.out).mono ?_; rintro e w' ⟨rfl, rfl⟩)
                go_loop [12] (fun i => ∃ b : Nat, b ≤ ss.length ∧ i = .int .i64 b) (fun i => ss.length - (intOf i).toNat)
                case atStart => exact ⟨0, by omega, rfl⟩
                case round =>
                  obtain ⟨b, hb, rfl⟩ := hrel
                  by_cases hlt2 : b < ss.length
                  · have hc1 := HCC.out a b (by omega) (by omega)
                    have HC1 := Lib.hid hc1
                    clear hc1
                    go_wp2_with (first | (go_at_call 15; refine (size_any _ _ _ _ _ _ _ _ _ HLa.out).mono ?_; rintro e w' ⟨rfl, rfl⟩) | (go_at_call 16; (with_reducible refine (leq_is HLa.out n8 a b (c a b) hlt hlt2 rfl ).mono ?_); rintro e w' ⟨rfl, rfl⟩) | (go_at_call 16; (with_reducible refine (leq_is HLb.out n8 a b (c a b) hlt hlt2 HC1.out ).mono ?_); rintro e w' ⟨rfl, rfl⟩) | (go_at_call 17; (with_reducible refine (join_is HLa.out n8 a b (j a b) hlt hlt2 rfl ).mono ?_); rintro e w' ⟨rfl, rfl⟩) | (go_at_call 17; (with_reducible refine (join_is HLb.out n8 a b (j a b) hlt hlt2 rfl ).mono ?_); rintro e w' ⟨rfl, rfl⟩) | (go_at_call 19; (with_reducible refine (meet_is HLa.out n8 a b (m a b) hlt hlt2 rfl ).mono ?_); rintro e w' ⟨rfl, rfl⟩) | (go_at_call 19; (with_reducible refine (meet_is HLb.out n8 a b (m a b) hlt hlt2 rfl ).mono ?_); rintro e w' ⟨rfl, rfl⟩))
                    go_round
                    case rel => exact ⟨b + 1, by omega, by go_num⟩
                    case measure => simp [intOf]; omega
                  · obtain rfl : b = ss.length := by omega
                    go_wp2_with (go_at_call 15; refine (size_any _ _ _ _ _ _ _ _ _ HLa.out).mono ?_; rintro e w' ⟨rfl, rfl⟩)
                    go_round
                    case rel => exact ⟨a + 1, by omega, by go_num⟩
                    case measure => simp [intOf]; omega
              · obtain rfl : a = ss.length := by omega
                go_wp2_with (go_at_call 15; refine (size_any _ _ _ _ _ _ _ _ _ HLa.out).mono ?_; rintro e w' ⟨rfl, rfl⟩)
                refine (lives_any _).mono ?_
                rintro e w8 ⟨rfl, hb8⟩
                go_wp2
                go_ret
                exact ⟨rfl, bt k7 hb8⟩
  · have HE := Lib.hid (errOf_ne hg)
    clear hg
    generalize errOf ss ps = er at HE
    have g1 : (er != 0) = true := by simpa using HE.out
    go_wp2_with fail
    refine (light_any an ab ss.length ps.length capn capb _ _).mono ?_
    rintro e w3 ⟨rfl, hb3⟩
    have k3 := bt k2 hb3
    cases hli : liB ss.length ps.length
    all_goals
      go_wp2_with fail
      refine (lives_any _).mono ?_
      rintro e w4 ⟨rfl, hb4⟩
      go_wp2
      go_ret
      exact ⟨rfl, bt k3 hb4⟩
end Lv
end Go.Proofs.Ytblmjhnkjbhdmaa
