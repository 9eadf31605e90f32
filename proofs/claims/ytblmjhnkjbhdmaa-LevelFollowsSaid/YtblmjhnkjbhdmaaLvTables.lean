/- What the law LevelTables does: it answers true. -/
import Derived.Test.YtblmjhnkjbhdmaaLvNamesLaw
import Derived.Deep.RegionWith
import Derived.Deep.RegionHeld3
import Derived.RegionTactic
namespace Go.Proofs.Ytblmjhnkjbhdmaa
open Go.RowKit
namespace Lv
theorem joins_list {r : Nat → Nat → Bool} {n a b : Nat} (J : AllL r n) (o : Ord r n) (ha : a < n) (hb : b < n) : joinsL r n a b = [joinT r n a b] := by
  have h1 := joins_one o (J a b ha hb)
  obtain ⟨k, hk⟩ := Option.isSome_iff_exists.1 (J a b ha hb)
  have hp := List.find?_some (p := fun c => r a c && r b c && bbB r n a b c) hk
  have hm : k ∈ joinsL r n a b := List.mem_filter.2 ⟨List.mem_of_find?_eq_some hk, hp⟩
  have hj : joinT r n a b = k := by simp [joinT, ha, hb, hk]
  rw [hj]
  match hl : joinsL r n a b, h1 with
  | [x], _ =>
    rw [hl] at hm
    simp only [List.mem_singleton] at hm
    rw [hm]
def OnePost (k : Nat) (w : World) (e : Ending) (w' : World) : Prop := ∃ g cap, e = .returned (.slice (some ⟨g, 0, none⟩) 1 cap) ∧ w'.cell? ⟨g, 0, none⟩ = some (.int .i64 (k : Nat)) ∧ Below w.heap.size w w'
theorem one_post {k : Nat} {l : List Nat} (hl : l = [k]) {w : World} {e : Ending} {w' : World} (h : IntsPost l w e w') : OnePost k w e w' := by
  subst hl
  obtain ⟨hb, v, rfl, h | ⟨g, cap, rfl, hc⟩⟩ := h
  · cases h.1
  · exact ⟨g, cap, rfl, hc 0 k rfl, hb⟩
/-- what stays in memory while the table is gone through -/
structure St (g : Nat) (v : Value) (n : Nat) (nm : Nat → ByteArray) (c : Nat → Nat → Bool) (j m : Nat → Nat → Nat) (bo tp : Nat) (w : World) : Prop where
  lat : LatAt w g n nm c j m bo tp
  tab : TabAt w v n c
theorem St.go {g : Nat} {v : Value} {n : Nat} {nm : Nat → ByteArray} {c : Nat → Nat → Bool} {j m : Nat → Nat → Nat} {bo tp : Nat} {w w1 : World} (h : St g v n nm c j m bo tp w) (hb : Below w.heap.size w w1) : St g v n nm c j m bo tp w1 :=
  ⟨bkeep hb h.lat, h.tab.go hb⟩
theorem St.drew {g : Nat} {v : Value} {n : Nat} {nm : Nat → ByteArray} {c : Nat → Nat → Bool} {j m : Nat → Nat → Nat} {bo tp : Nat} {w : World} (h : St g v n nm c j m bo tp w) : St g v n nm c j m bo tp w.drew := h.go (Below.refl _ _).drew
/-- the bottom, by folding meets, is below all; likewise the top -/
theorem fold_below {r : Nat → Nat → Bool} {n : Nat} {j : Nat → Nat → Nat} (o : Ord r n) (J : IsJ r n j) (h0 : 0 < n) : ∀ k, k ≤ n → foldT j k < n ∧ ∀ a, a < k → r a (foldT j k) = true
  | 0, _ => ⟨by simpa [foldT] using h0, fun a h => by omega⟩
  | k + 1, hk => by
    obtain ⟨h1, h2⟩ := fold_below o J h0 k (by omega)
    rw [foldT_succ]
    refine ⟨J.lt _ _ h1 (by omega), fun a ha => ?_⟩
    by_cases e : a < k
    · exact o.trans _ _ _ (by omega) h1 (J.lt _ _ h1 (by omega)) (h2 a e) (J.left _ _ h1 (by omega))
    · obtain rfl : a = k := by omega
      exact J.right _ _ h1 (by omega)
theorem take_put {P : Program} {md : Region.Mode} {ops : Array Oper} {Q : Exit → Act → World → Prop} {S : World → Prop} {i d : Nat} {oi : Oper} {v : Value} {fuel : Nat} {listed : Array Bool} {a : Act} {w : World} (hi : ops[i]? = some oi) (hd : oi.dst = some d)
    (hs : Region.noSelect ops = true) (hf : Region.free md ops listed i = true) (hr : (Region.ready md ops listed).contains i = true)
    (hQ : ∀ c a w, Q (.panic c) (a.put (some d) v) w → Q (.panic c) a w) (hy : YieldsIf P ops S oi v a) (hS : S w)
    (h : wpAnyH P md ops Q S fuel (listed.setIfInBounds i true) (a.put (some d) v) w) : wpAnyH P md ops Q S (fuel + 1) listed a w :=
  wpAnyH_take hi hs hf hr (by rw [hd]; exact hQ) hy hS (by rw [hd]; exact h)
set_option linter.unusedSimpArgs false in
set_option maxHeartbeats 4000000 in
set_option maxRecDepth 100000 in
theorem ltables_any (vn vb vp : Value) (ss : List ByteArray) (ps : List (Int × Int)) (w : World) (hs : NamesAt w vn ss) (hp : PairsAt w vb ps) (hl : ss.length ≤ maxLen) (hl2 : ps.length ≤ maxLen) :
    Calls Try.prog 4 #[.agg #[vn, vb, vp]] w fun e w' => e = .returned (.bool true) ∧ Below w.heap.size w w' := by
  obtain ⟨an, capn, rfl, _, hcn⟩ := hs.form
  obtain ⟨ab, capb, rfl, _⟩ := hp.form
  clear hcn
  go_enter Try.func4, Try.ntmps4
  go_wp2_with fail
  have kb1 : Below w.heap.size w (w.alloc (Obj.cells #[Value.slice an ss.length capn, Value.slice ab ps.length capb, vp] 26)) := (Below.refl _ _).alloc (Nat.le_refl _) _
  have F1 := al_new w (Obj.cells #[Value.slice an ss.length capn, Value.slice ab ps.length capb, vp] 26)
  generalize w.alloc (Obj.cells #[Value.slice an ss.length capn, Value.slice ab ps.length capb, vp] 26) = w1 at kb1 F1
  refine (light_any an ab ss.length ps.length capn capb vp _).mono ?_
  rintro e w2 ⟨rfl, hb2⟩
  have k2 := bt kb1 hb2
  have F2 := bkeep hb2 F1
  clear kb1 hb2 F1
  have q0 := cell_of_row w2 w.heap.size 0 _ _ _ F2
  have q1 := cell_of_row w2 w.heap.size 1 _ _ _ F2
  have q2 := cell_of_row w2 w.heap.size 2 _ _ _ F2
  have HF2 := Lib.hid F2
  clear F2
  cases hli : liB ss.length ps.length
  · go_wp2_with fail
    refine (lives_any _).mono ?_
    rintro e w3 ⟨rfl, hb3⟩
    go_wp2
    go_ret
    exact ⟨rfl, bt k2 hb3⟩
  go_wp2_with fail
  refine (check_any _ _ vp ss ps _ (hs.go k2) (hp.go k2) hl hl2).mono ?_
  rw [ErrPostEq]
  rintro e w3 ⟨rfl, hb3⟩
  have k3 := bt k2 hb3
  have F3 := bkeep hb3 HF2.out
  clear q0 q1 q2 k2 hb3 HF2
  have q0 := cell_of_row w3 w.heap.size 0 _ _ _ F3
  have q1 := cell_of_row w3 w.heap.size 1 _ _ _ F3
  have q2 := cell_of_row w3 w.heap.size 2 _ _ _ F3
  have HF3 := Lib.hid F3
  clear F3
  by_cases hg : Good ss ps
  · have HG := Lib.hid hg
    rw [err0 hg]
    go_wp2_with fail
    refine (new_any _ _ vp ss ps _ (hs.go k3) (hp.go k3) hl hl2).mono ?_
    rintro e w4 ⟨hb4, hcase⟩
    obtain ⟨_, g, rfl, _, hL⟩ := hcase.resolve_right fun h => h.1 hg
    have n8 := hg.names.2.1
    have n1 := hg.names.1
    have hpr := hg.pairs
    clear hg
    have k4 := bt k3 hb4
    have F4 := bkeep hb4 HF3.out
    clear q0 q1 q2 k3 hb4 HF3
    have q0 := cell_of_row w4 w.heap.size 0 _ _ _ F4
    have q1 := cell_of_row w4 w.heap.size 1 _ _ _ F4
    have q2 := cell_of_row w4 w.heap.size 2 _ _ _ F4
    clear F4
    have HPR := Lib.hid hpr
    have HL4 := Lib.hid hL
    clear hL hpr
    go_wp2_with fail
    refine (table_any _ _ vp ss ps _ (hs.go k4) (hp.go k4) n1 n8 HPR.out).mono ?_
    rintro e w5 ⟨hb5, v, rfl, hT⟩
    have k5 := bt k4 hb5
    have hLat : LatAt w5 g ss.length (nmOf ss) (cl ps ss.length) (joinT (cl ps ss.length) ss.length) (joinT (trn (cl ps ss.length)) ss.length) (foldT (joinT (trn (cl ps ss.length)) ss.length) ss.length) (foldT (joinT (cl ps ss.length) ss.length) ss.length) := bkeep hb5 HL4.out
    have hord := good_ord HG.out
    have hjl : ∀ a b, a < ss.length → b < ss.length → joinsL (cl ps ss.length) ss.length a b = [joinT (cl ps ss.length) ss.length a b] := fun a b ha hb => joins_list HG.out.joins hord ha hb
    have hml : ∀ a b, a < ss.length → b < ss.length → joinsL (trn (cl ps ss.length)) ss.length a b = [joinT (trn (cl ps ss.length)) ss.length a b] := fun a b ha hb => joins_list HG.out.meets hord.turn ha hb
    obtain ⟨tlt, htop⟩ := fold_below hord (good_j HG.out) (by omega) ss.length (Nat.le_refl _)
    obtain ⟨blt, hbot⟩ := fold_below hord.turn (good_m HG.out) (by omega) ss.length (Nat.le_refl _)
    clear hord HG HPR HL4 hb5 k4 q0 q1 q2
    generalize cl ps ss.length = c at hT hLat hjl hml htop hbot tlt blt
    generalize foldT (joinT (trn c) ss.length) ss.length = bo at hLat hbot blt
    generalize foldT (joinT c ss.length) ss.length = tp at hLat htop tlt
    generalize joinT (trn c) ss.length = m at hLat hml
    generalize joinT c ss.length = j at hLat hjl
    generalize nmOf ss = nm at hLat
    have hS : St g v ss.length nm c j m bo tp w5 := ⟨hLat, hT⟩
    have HJL := Lib.hid hjl
    have HML := Lib.hid hml
    have HTOP := Lib.hid htop
    have HBOT := Lib.hid hbot
    clear hjl hml htop hbot hLat
    obtain ⟨gt, capt, R, C, rfl, _⟩ := hT.form
    clear hT
    have HS5 := Lib.hid hS
    clear hS
    have e1 : ((ss.length : Int) != (ss.length : Int)) = false := by simp
    go_wp2_with (go_at_call 15; refine (size_any _ _ _ _ _ _ _ _ _ HS5.out.lat).mono ?_; rintro e w' ⟨rfl, rfl⟩)
    go_loopw [6, 7] (fun i _ wr => ∃ a : Nat, a ≤ ss.length ∧ i = .int .i64 a ∧ Below w5.heap.size w5 wr) (fun i _ _ => ss.length - (intOf i).toNat)
    case atStart => exact ⟨0, by omega, rfl, Below.refl _ _⟩
    case round =>
      obtain ⟨a, ha, rfl, kb⟩ := hrel
      obtain ⟨wo, rfl⟩ : ∃ wo : World, wo = wr := ⟨_, rfl⟩
      by_cases hlt : a < ss.length
      · go_wp2
        go_loopw [7] (fun i wr => ∃ b : Nat, b ≤ ss.length ∧ i = .int .i64 b ∧ Below w5.heap.size w5 wr) (fun i _ => ss.length - (intOf i).toNat)
        case atStart => exact ⟨0, by omega, rfl, kb⟩
        case round =>
          clear kb
          obtain ⟨b, hb, rfl, kb⟩ := hrel
          by_cases hlt2 : b < ss.length
          · have hSw := HS5.out.go kb
            obtain ⟨gt', capt', R', C', hv', htab⟩ := hSw.tab.form
            cases hv'
            have ra := (htab a hlt).1
            have cab := (htab a hlt).2 b hlt2
            clear htab
            have HS := Lib.hid hSw
            clear hSw
            obtain ⟨jv, hjv⟩ : ∃ k, j a b = k := ⟨_, rfl⟩
            obtain ⟨mv, hmv⟩ : ∃ k, m a b = k := ⟨_, rfl⟩
            have hjo : joinsL c ss.length a b = [jv] := by rw [HJL.out a b hlt hlt2, hjv]
            have hme : joinsL (trn c) ss.length a b = [mv] := by rw [HML.out a b hlt hlt2, hmv]
            have Hjv := Lib.hid hjv
            have Hmv := Lib.hid hmv
            have Hjo := Lib.hid hjo
            have Hme := Lib.hid hme
            clear hjv hmv hjo hme
            go_wp2
            have rad : wr.drew.cell? ⟨gt, a, none⟩ = some (.slice (some ⟨R' a, 0, none⟩) ss.length (C' a)) := ra
            have cabd : wr.drew.cell? ⟨R' a, b, none⟩ = some (.bool (c a b)) := cab
            refine wp_region_held_drew (S := (fun w' => w'.cell? ⟨gt, a, none⟩ = some (.slice (some ⟨R' a, 0, none⟩) ss.length (C' a)) ∧ w'.cell? ⟨R' a, b, none⟩ = some (.bool (c a b)))) (by kernel_rfl) ⟨rad, cabd⟩ (fun hHeld => ?_)
            refine take_put (i := 0) (d := 45) (oi := _) (v := ?v0) rfl rfl (by kernel_rfl) (by kernel_rfl) (by kernel_rfl) (fun _ _ _ h => h) (Or.inl ⟨by rfl, ?y0⟩) hHeld ?r0
            case y0 => (intro w hSw; (try dsimp only at hSw); go_simp; try with_reducible rfl)
            simp only [Act.put, List.setIfInBounds_toArray, List.set_cons_zero, List.set_cons_succ]
            refine take_put (i := 1) (d := 46) (oi := _) (v := ?v1) rfl rfl (by kernel_rfl) (by kernel_rfl) (by kernel_rfl) (fun _ _ _ h => h) (Or.inl ⟨by rfl, ?y1⟩) hHeld ?r1
            case y1 => (intro w hSw; (try dsimp only at hSw); go_simp; try with_reducible rfl)
            simp only [Act.put, List.setIfInBounds_toArray, List.set_cons_zero, List.set_cons_succ]
            refine take_put (i := 2) (d := 47) (oi := _) (v := ?v2) rfl rfl (by kernel_rfl) (by kernel_rfl) (by kernel_rfl) (fun _ _ _ h => h) (Or.inl ⟨by rfl, ?y2⟩) hHeld ?r2
            case y2 => (intro w hSw; (try dsimp only at hSw); go_simp; try with_reducible rfl)
            simp only [Act.put, List.setIfInBounds_toArray, List.set_cons_zero, List.set_cons_succ]
            refine take_put (i := 4) (d := 49) (oi := _) (v := ?v4) rfl rfl (by kernel_rfl) (by kernel_rfl) (by kernel_rfl) (fun _ _ _ h => h) (Or.inl ⟨by rfl, ?y4⟩) hHeld ?r4
            case y4 => (intro w hSw; (try dsimp only at hSw); go_simp; try with_reducible rfl)
            simp only [Act.put, List.setIfInBounds_toArray, List.set_cons_zero, List.set_cons_succ]
            refine take_put (i := 5) (d := 50) (oi := _) (v := ?v5) rfl rfl (by kernel_rfl) (by kernel_rfl) (by kernel_rfl) (fun _ _ _ h => h) (Or.inl ⟨by rfl, ?y5⟩) hHeld ?r5
            case y5 => (intro w hSw; (try dsimp only at hSw); go_simp; try with_reducible rfl)
            simp only [Act.put, List.setIfInBounds_toArray, List.set_cons_zero, List.set_cons_succ]
            refine take_put (i := 6) (d := 51) (oi := _) (v := ?v6) rfl rfl (by kernel_rfl) (by kernel_rfl) (by kernel_rfl) (fun _ _ _ h => h) (Or.inl ⟨by rfl, ?y6⟩) hHeld ?r6
            case y6 => (intro w hSw; (try dsimp only at hSw); go_simp; try with_reducible rfl)
            simp only [Act.put, List.setIfInBounds_toArray, List.set_cons_zero, List.set_cons_succ]
            refine take_put (i := 7) (d := 52) (oi := _) (v := ?v7) rfl rfl (by kernel_rfl) (by kernel_rfl) (by kernel_rfl) (fun _ _ _ h => h) (Or.inl ⟨by rfl, ?y7⟩) hHeld ?r7
            case y7 => (intro w hSw; (try dsimp only at hSw); go_simp; try with_reducible rfl)
            simp only [Act.put, List.setIfInBounds_toArray, List.set_cons_zero, List.set_cons_succ]
            refine take_put (i := 8) (d := 53) (oi := _) (v := ?v8) rfl rfl (by kernel_rfl) (by kernel_rfl) (by kernel_rfl) (fun _ _ _ h => h) (Or.inl ⟨by rfl, ?y8⟩) hHeld ?r8
            case y8 => (intro w hSw; (try dsimp only at hSw); go_simp; try with_reducible rfl)
            simp only [Act.put, List.setIfInBounds_toArray, List.set_cons_zero, List.set_cons_succ]
            refine take_put (i := 9) (d := 54) (oi := _) (v := ?v9) rfl rfl (by kernel_rfl) (by kernel_rfl) (by kernel_rfl) (fun _ _ _ h => h) (Or.inl ⟨by rfl, ?y9⟩) hHeld ?r9
            case y9 => (intro w hSw; (try dsimp only at hSw); go_simp; try with_reducible rfl)
            simp only [Act.put, List.setIfInBounds_toArray, List.set_cons_zero, List.set_cons_succ]
            refine take_put (i := 10) (d := 55) (oi := _) (v := ?v10) rfl rfl (by kernel_rfl) (by kernel_rfl) (by kernel_rfl) (fun _ _ _ h => h) (Or.inl ⟨by rfl, ?y10⟩) hHeld ?r10
            case y10 => (intro w hSw; (try dsimp only at hSw); go_simp; try with_reducible rfl)
            simp only [Act.put, List.setIfInBounds_toArray, List.set_cons_zero, List.set_cons_succ]
            refine wpAnyH_ready (rs := [3]) (by kernel_rfl) (by simp) (AllReadyH.cons (o := _) rfl (fun K hK => ?_) AllReadyH.nil)
            go_simp
            refine (leq_is HS.out.drew.lat n8 a b _ hlt hlt2 rfl).mono ?_
            rintro e w' ⟨rfl, rfl⟩
            dsimp only
            refine hK.out _ _ ⟨rad, cabd⟩ (fun hHeld => ?_)
            clear hK K
            refine take_put (i := 11) (d := 56) (oi := _) (v := ?v11) rfl rfl (by kernel_rfl) (by kernel_rfl) (by kernel_rfl) (fun _ _ _ h => h) (Or.inl ⟨by rfl, ?y11⟩) hHeld ?r11
            case y11 => (intro w hSw; (try dsimp only at hSw); go_simp; try with_reducible rfl)
            simp only [Act.put, List.setIfInBounds_toArray, List.set_cons_zero, List.set_cons_succ]
            refine take_put (i := 12) (d := 57) (oi := _) (v := ?v12) rfl rfl (by kernel_rfl) (by kernel_rfl) (by kernel_rfl) (fun _ _ _ h => h) (Or.inl ⟨by rfl, ?y12⟩) hHeld ?r12
            case y12 => (intro w hSw; (try dsimp only at hSw); go_simp; try with_reducible rfl)
            simp only [Act.put, List.setIfInBounds_toArray, List.set_cons_zero, List.set_cons_succ]
            refine take_put (i := 13) (d := 58) (oi := _) (v := ?v13) rfl rfl (by kernel_rfl) (by kernel_rfl) (by kernel_rfl) (fun _ _ _ h => h) (Or.inl ⟨by rfl, ?y13⟩) hHeld ?r13
            case y13 => (intro w hSw; (try dsimp only at hSw); go_simp; try with_reducible rfl)
            simp only [Act.put, List.setIfInBounds_toArray, List.set_cons_zero, List.set_cons_succ]
            refine take_put (i := 14) (d := 59) (oi := _) (v := ?v14) rfl rfl (by kernel_rfl) (by kernel_rfl) (by kernel_rfl) (fun _ _ _ h => h) (Or.inl ⟨by rfl, ?y14⟩) hHeld ?r14
            case y14 => (intro w hSw; (try dsimp only at hSw); go_simp; try with_reducible rfl)
            simp only [Act.put, List.setIfInBounds_toArray, List.set_cons_zero, List.set_cons_succ]
            refine take_put (i := 15) (d := 60) (oi := _) (v := ?v15) rfl rfl (by kernel_rfl) (by kernel_rfl) (by kernel_rfl) (fun _ _ _ h => h) (Or.inl ⟨by rfl, ?y15⟩) hHeld ?r15
            case y15 => (intro w hSw; (try dsimp only at hSw); go_simp; try with_reducible rfl)
            simp only [Act.put, List.setIfInBounds_toArray, List.set_cons_zero, List.set_cons_succ]
            refine take_put (i := 17) (d := 62) (oi := _) (v := ?v17) rfl rfl (by kernel_rfl) (by kernel_rfl) (by kernel_rfl) (fun _ _ _ h => h) (Or.inl ⟨by rfl, ?y17⟩) hHeld ?r17
            case y17 => (intro w hSw; (try dsimp only at hSw); go_simp; try with_reducible rfl)
            simp only [Act.put, List.setIfInBounds_toArray, List.set_cons_zero, List.set_cons_succ]
            refine take_put (i := 18) (d := 63) (oi := _) (v := ?v18) rfl rfl (by kernel_rfl) (by kernel_rfl) (by kernel_rfl) (fun _ _ _ h => h) (Or.inl ⟨by rfl, ?y18⟩) hHeld ?r18
            case y18 => (intro w hSw; (try dsimp only at hSw); go_simp; try with_reducible rfl)
            simp only [Act.put, List.setIfInBounds_toArray, List.set_cons_zero, List.set_cons_succ]
            refine take_put (i := 19) (d := 64) (oi := _) (v := ?v19) rfl rfl (by kernel_rfl) (by kernel_rfl) (by kernel_rfl) (fun _ _ _ h => h) (Or.inl ⟨by rfl, ?y19⟩) hHeld ?r19
            case y19 => (intro w hSw; (try dsimp only at hSw); go_simp; try with_reducible rfl)
            simp only [Act.put, List.setIfInBounds_toArray, List.set_cons_zero, List.set_cons_succ]
            refine wpAnyH_ready (rs := [16]) (by kernel_rfl) (by simp) (AllReadyH.cons (o := _) rfl (fun K hK => ?_) AllReadyH.nil)
            go_simp
            refine (join_is HS.out.drew.lat n8 a b jv hlt hlt2 Hjv.out).mono ?_
            rintro e w' ⟨rfl, rfl⟩
            dsimp only
            refine hK.out _ _ ⟨rad, cabd⟩ (fun hHeld => ?_)
            clear hK K
            refine wpAnyH_ready (rs := [20]) (by kernel_rfl) (by simp) (AllReadyH.cons (o := _) rfl (fun K hK => ?_) AllReadyH.nil)
            go_simp
            refine ((rjoin_any _ c ss.length a b _ HS.out.drew.tab n1 n8 hlt hlt2).mono fun _ _ h => one_post Hjo.out h).mono ?_
            rintro e w6 ⟨g6, cap6, rfl, hc6, hb6⟩
            have HS6 := Lib.hid (HS.out.drew.go hb6)
            have ra6 := cellB hb6 rad
            have cab6 := cellB hb6 cabd
            dsimp only
            refine hK.out _ _ ⟨ra6, cab6⟩ (fun hHeld => ?_)
            clear hK K
            refine take_put (i := 21) (d := 66) (oi := _) (v := ?v21) rfl rfl (by kernel_rfl) (by kernel_rfl) (by kernel_rfl) (fun _ _ _ h => h) (Or.inl ⟨by rfl, ?y21⟩) hHeld ?r21
            case y21 => (intro w hSw; (try dsimp only at hSw); go_simp; try with_reducible rfl)
            simp only [Act.put, List.setIfInBounds_toArray, List.set_cons_zero, List.set_cons_succ]
            refine wpAnyH_ready (rs := [22]) (by kernel_rfl) (by simp) (AllReadyH.cons (o := _) rfl (fun K hK => ?_) AllReadyH.nil)
            go_simp
            refine hK.out _ _ ⟨ra6, cab6⟩ (fun hHeld => ?_)
            clear hK K
            refine take_put (i := 23) (d := 68) (oi := _) (v := ?v23) rfl rfl (by kernel_rfl) (by kernel_rfl) (by kernel_rfl) (fun _ _ _ h => h) (Or.inl ⟨by rfl, ?y23⟩) hHeld ?r23
            case y23 => (intro w hSw; (try dsimp only at hSw); go_simp; try with_reducible rfl)
            simp only [Act.put, List.setIfInBounds_toArray, List.set_cons_zero, List.set_cons_succ]
            refine take_put (i := 24) (d := 69) (oi := _) (v := ?v24) rfl rfl (by kernel_rfl) (by kernel_rfl) (by kernel_rfl) (fun _ _ _ h => h) (Or.inl ⟨by rfl, ?y24⟩) hHeld ?r24
            case y24 => (intro w hSw; (try dsimp only at hSw); go_simp; try with_reducible rfl)
            simp only [Act.put, List.setIfInBounds_toArray, List.set_cons_zero, List.set_cons_succ]
            refine take_put (i := 25) (d := 70) (oi := _) (v := ?v25) rfl rfl (by kernel_rfl) (by kernel_rfl) (by kernel_rfl) (fun _ _ _ h => h) (Or.inl ⟨by rfl, ?y25⟩) hHeld ?r25
            case y25 => (intro w hSw; (try dsimp only at hSw); go_simp; try with_reducible rfl)
            simp only [Act.put, List.setIfInBounds_toArray, List.set_cons_zero, List.set_cons_succ]
            refine take_put (i := 26) (d := 71) (oi := _) (v := ?v26) rfl rfl (by kernel_rfl) (by kernel_rfl) (by kernel_rfl) (fun _ _ _ h => h) (Or.inl ⟨by rfl, ?y26⟩) hHeld ?r26
            case y26 => (intro w hSw; (try dsimp only at hSw); go_simp; try with_reducible rfl)
            simp only [Act.put, List.setIfInBounds_toArray, List.set_cons_zero, List.set_cons_succ]
            refine take_put (i := 27) (d := 72) (oi := _) (v := ?v27) rfl rfl (by kernel_rfl) (by kernel_rfl) (by kernel_rfl) (fun _ _ _ h => h) (Or.inl ⟨by rfl, ?y27⟩) hHeld ?r27
            case y27 => (intro w hSw; (try dsimp only at hSw); go_simp; try with_reducible rfl)
            simp only [Act.put, List.setIfInBounds_toArray, List.set_cons_zero, List.set_cons_succ]
            refine take_put (i := 28) (d := 73) (oi := _) (v := ?v28) rfl rfl (by kernel_rfl) (by kernel_rfl) (by kernel_rfl) (fun _ _ _ h => h) (Or.inl ⟨by rfl, ?y28⟩) hHeld ?r28
            case y28 => (intro w hSw; (try dsimp only at hSw); go_simp; try with_reducible rfl)
            simp only [Act.put, List.setIfInBounds_toArray, List.set_cons_zero, List.set_cons_succ]
            refine take_put (i := 30) (d := 75) (oi := _) (v := ?v30) rfl rfl (by kernel_rfl) (by kernel_rfl) (by kernel_rfl) (fun _ _ _ h => h) (Or.inl ⟨by rfl, ?y30⟩) hHeld ?r30
            case y30 => (intro w hSw; (try dsimp only at hSw); go_simp; try with_reducible rfl)
            simp only [Act.put, List.setIfInBounds_toArray, List.set_cons_zero, List.set_cons_succ]
            refine take_put (i := 31) (d := 76) (oi := _) (v := ?v31) rfl rfl (by kernel_rfl) (by kernel_rfl) (by kernel_rfl) (fun _ _ _ h => h) (Or.inl ⟨by rfl, ?y31⟩) hHeld ?r31
            case y31 => (intro w hSw; (try dsimp only at hSw); go_simp; try with_reducible rfl)
            simp only [Act.put, List.setIfInBounds_toArray, List.set_cons_zero, List.set_cons_succ]
            refine take_put (i := 32) (d := 77) (oi := _) (v := ?v32) rfl rfl (by kernel_rfl) (by kernel_rfl) (by kernel_rfl) (fun _ _ _ h => h) (Or.inl ⟨by rfl, ?y32⟩) hHeld ?r32
            case y32 => (intro w hSw; (try dsimp only at hSw); go_simp; try with_reducible rfl)
            simp only [Act.put, List.setIfInBounds_toArray, List.set_cons_zero, List.set_cons_succ]
            refine wpAnyH_ready (rs := [29]) (by kernel_rfl) (by simp) (AllReadyH.cons (o := _) rfl (fun K hK => ?_) AllReadyH.nil)
            go_simp
            refine (meet_is HS6.out.lat n8 a b mv hlt hlt2 Hmv.out).mono ?_
            rintro e w' ⟨rfl, rfl⟩
            dsimp only
            refine hK.out _ _ ⟨ra6, cab6⟩ (fun hHeld => ?_)
            clear hK K
            refine wpAnyH_ready (rs := [33]) (by kernel_rfl) (by simp) (AllReadyH.cons (o := _) rfl (fun K hK => ?_) AllReadyH.nil)
            go_simp
            refine ((rmeet_any _ c ss.length a b _ HS6.out.tab n1 n8 hlt hlt2).mono fun _ _ h => one_post Hme.out h).mono ?_
            rintro e w7 ⟨g7, cap7, rfl, hc7, hb7⟩
            have ra7 := cellB hb7 ra6
            have cab7 := cellB hb7 cab6
            dsimp only
            refine hK.out _ _ ⟨ra7, cab7⟩ (fun hHeld => ?_)
            clear hK K
            refine take_put (i := 34) (d := 79) (oi := _) (v := ?v34) rfl rfl (by kernel_rfl) (by kernel_rfl) (by kernel_rfl) (fun _ _ _ h => h) (Or.inl ⟨by rfl, ?y34⟩) hHeld ?r34
            case y34 => (intro w hSw; (try dsimp only at hSw); go_simp; try with_reducible rfl)
            simp only [Act.put, List.setIfInBounds_toArray, List.set_cons_zero, List.set_cons_succ]
            refine wpAnyH_ready (rs := [35]) (by kernel_rfl) (by simp) (AllReadyH.cons (o := _) rfl (fun K hK => ?_) AllReadyH.nil)
            go_simp
            refine hK.out _ _ ⟨ra7, cab7⟩ (fun hHeld => ?_)
            clear hK K
            refine take_put (i := 36) (d := 81) (oi := _) (v := ?v36) rfl rfl (by kernel_rfl) (by kernel_rfl) (by kernel_rfl) (fun _ _ _ h => h) (Or.inl ⟨by rfl, ?y36⟩) hHeld ?r36
            case y36 => (intro w hSw; (try dsimp only at hSw); go_simp; try with_reducible rfl)
            simp only [Act.put, List.setIfInBounds_toArray, List.set_cons_zero, List.set_cons_succ]
            refine take_put (i := 37) (d := 82) (oi := _) (v := ?v37) rfl rfl (by kernel_rfl) (by kernel_rfl) (by kernel_rfl) (fun _ _ _ h => h) (Or.inl ⟨by rfl, ?y37⟩) hHeld ?r37
            case y37 => (intro w hSw; (try dsimp only at hSw); go_simp; try with_reducible rfl)
            simp only [Act.put, List.setIfInBounds_toArray, List.set_cons_zero, List.set_cons_succ]
            refine wpAnyH_done (by kernel_rfl) ?_ _
            have k7 : Below w5.heap.size w5 w7 := bt (bt kb.drew hb6) hb7
            go_wp2
            go_roundw
            case rel => exact ⟨b + 1, by omega, by go_num, k7⟩
            case measure => simp [intOf]; omega
          · obtain rfl : b = ss.length := by omega
            have hSw := HS5.out.go kb
            obtain ⟨gt', capt', R', C', hv', htab⟩ := hSw.tab.form
            cases hv'
            have r1 := (htab bo blt).1
            have r2 := (htab bo blt).2 a hlt
            have r3 := (htab a hlt).1
            have r4 := (htab a hlt).2 tp tlt
            rw [show c bo a = true from HBOT.out a hlt] at r2
            rw [show c a tp = true from HTOP.out a hlt] at r4
            clear htab
            have HS := Lib.hid hSw
            clear hSw
            have i1 : (bo : Int) < (ss.length : Int) := by omega
            have i2 : (a : Int) < (ss.length : Int) := by omega
            have i3 : (tp : Int) < (ss.length : Int) := by omega
            go_wp2
            go_quiet ((first | (go_at_call 21; exact quiet_same (bottom_any _ _ _ _ _ _ _ _ _ (HS.out.lat.drewN _))) | (go_at_call 22; exact quiet_same (top_any _ _ _ _ _ _ _ _ _ (HS.out.lat.drewN _)))))
            go_wp2
            go_roundw
            case rel => exact ⟨a + 1, by omega, by go_num, below_drewN kb _⟩
            case measure => simp [intOf]; omega
      · go_wp2_with fail
        refine (lives_any _).mono ?_
        rintro e w8 ⟨rfl, hb8⟩
        go_wp2
        go_ret
        exact ⟨rfl, bt (bt k5 kb) hb8⟩
  · have HE := Lib.hid (errOf_ne hg)
    clear hg
    generalize errOf ss ps = er at HE
    have g1 : (er != 0) = true := by simpa using HE.out
    go_wp2_with fail
    refine (lives_any _).mono ?_
    rintro e w4 ⟨rfl, hb4⟩
    go_wp2
    go_ret
    exact ⟨rfl, bt k3 hb4⟩
end Lv
end Go.Proofs.Ytblmjhnkjbhdmaa
