/- What New does. -/
import Derived.Test.YtmfdclnepmgmlaaLvLat
import Derived.Test.YtmfdclnepmgmlaaLvLeasts
import Derived.Test.YtmfdclnepmgmlaaLvTurn
import Derived.Test.YtmfdclnepmgmlaaLvClo
import Derived.Deep.RegionLaw
namespace Go.Proofs.Ytmfdclnepmgmlaa
open Go.RowKit
namespace Lv
noncomputable def cl (ps : List (Int × Int)) (n : Nat) : Nat → Nat → Bool := clo (pairT ps n)
/-- no two unlike levels are below one another -/
def Anti (c : Nat → Nat → Bool) (n : Nat) : Prop := relA (shr c (trn c)) = relA (pairT [] n)
def foldT (j : Nat → Nat → Nat) (k : Nat) : Nat := (List.range k).foldl (fun t a => j t a) 0
theorem foldT_succ (j : Nat → Nat → Nat) (k : Nat) : foldT j (k + 1) = j (foldT j k) k := by simp [foldT, List.range_succ]
def latOf (ss : List ByteArray) (n : Nat) (c : Nat → Nat → Bool) : Array Value := latA n (nmOf ss) c (joinT c n) (joinT (trn c) n) (foldT (joinT (trn c) n) n) (foldT (joinT c n) n)
structure Good (ss : List ByteArray) (ps : List (Int × Int)) : Prop where
  names : NamesP ss
  pairs : prB ps ss.length = true
  anti : Anti (cl ps ss.length) ss.length
  joins : AllL (cl ps ss.length) ss.length
  meets : AllL (trn (cl ps ss.length)) ss.length
open Classical in
noncomputable def errOf (ss : List ByteArray) (ps : List (Int × Int)) : Int := if ¬ NamesP ss then 10 else if prB ps ss.length = false then 2 else if Good ss ps then 0 else 9
def NewPost (ss : List ByteArray) (ps : List (Int × Int)) (w : World) (e : Ending) (w' : World) : Prop :=
  Below w.heap.size w w' ∧ ((Good ss ps ∧ ∃ g, e = .returned (.tuple #[.pointer (some ⟨g, 0, none⟩), .int .i64 0]) ∧ w.heap.size ≤ g ∧ w'.heap[g]? = some (.cells (latOf ss ss.length (cl ps ss.length)) 69)) ∨
    (¬ Good ss ps ∧ e = .returned (.tuple #[.pointer none, .int .i64 (errOf ss ps)])))
theorem pairT_rf (ps : List (Int × Int)) (n : Nat) (h : prB ps n = true) : Rf (pairT ps n) := by
  intro a b ha hb hr
  unfold pairT at hr ⊢
  simp only [Bool.or_eq_true, Bool.and_eq_true, decide_eq_true_eq, List.any_eq_true] at hr ⊢
  rcases hr with ⟨_, h2⟩ | ⟨x, hx, h1, _⟩
  · exact .inl ⟨trivial, h2⟩
  · obtain ⟨i, hi⟩ := List.getElem?_of_mem hx
    have := prB_get h hi
    exact .inl ⟨trivial, by omega⟩
theorem leastO_lt {r : Nat → Nat → Bool} {n a b k : Nat} (h : leastO r n a b = some k) : k < n := by
  have := List.mem_of_find?_eq_some h
  simpa using this
theorem joinT_lt {r : Nat → Nat → Bool} {n a b : Nat} (h0 : 0 < n) : joinT r n a b < n := by
  unfold joinT
  split
  · cases h : leastO r n a b with
    | none => simpa using h0
    | some k => exact leastO_lt h
  · exact h0
theorem foldT_lt {r : Nat → Nat → Bool} {n k : Nat} (h0 : 0 < n) : foldT (joinT r n) k < n := by
  cases k with
  | zero => simpa [foldT] using h0
  | succ k => rw [foldT_succ]; exact joinT_lt h0
theorem nil_pr (n : Nat) : prB [] n = true := by simp [prB]
set_option maxHeartbeats 1000000 in
theorem new_noname (vn vb vp : Value) (ss : List ByteArray) (ps : List (Int × Int)) (w : World) (hs : NamesAt w vn ss) (hl : ss.length ≤ maxLen) (hn : ¬ NamesP ss) :
    Calls Try.prog 10 #[.agg #[vn, vb, vp]] w (NewPost ss ps w) := by
  have g1 := namesB_false hn
  have HN := Lib.hid hn
  clear hn
  go_enter Try.func10, Try.ntmps10
  go_wp2_with fail
  refine (namesRight_any vn ss _ (hs.go ((Below.refl _ _).alloc (Nat.le_refl _) _)) hl).mono ?_
  rintro e w' ⟨rfl, rfl⟩
  go_wp2
  go_ret2
  have he : errOf ss ps = 10 := by simp [errOf, HN.out]
  exact ⟨(Below.refl _ _).alloc (Nat.le_refl _) _, .inr ⟨fun h => HN.out h.names, by rw [he]; rfl⟩⟩
set_option maxHeartbeats 1000000 in
theorem new_nopair (vn vb vp : Value) (ss : List ByteArray) (ps : List (Int × Int)) (w : World) (hs : NamesAt w vn ss) (hp : PairsAt w vb ps) (hl : ss.length ≤ maxLen) (hl2 : ps.length ≤ maxLen) (hn : NamesP ss) (hr : prB ps ss.length = false) :
    Calls Try.prog 10 #[.agg #[vn, vb, vp]] w (NewPost ss ps w) := by
  have g1 := namesB_true hn
  have HN := Lib.hid hn
  clear hn
  obtain ⟨a, cap, rfl, hcap, hc⟩ := hs.form
  have HC := Lib.hid hc
  clear hc
  go_enter Try.func10, Try.ntmps10
  go_wp2_with fail
  refine (namesRight_any _ ss _ (hs.go ((Below.refl _ _).alloc (Nat.le_refl _) _)) hl).mono ?_
  rintro e w' ⟨rfl, rfl⟩
  go_wp2_with fail
  refine (pairsRight_any vb ps ss.length _ (hp.go ((Below.refl _ _).alloc (Nat.le_refl _) _)) hl2).mono ?_
  rintro e w1 ⟨rfl, hb1⟩
  go_wp2
  go_ret2
  have he : errOf ss ps = 2 := by simp [errOf, HN.out, hr]
  exact ⟨bt ((Below.refl _ _).alloc (Nat.le_refl _) _) hb1, .inr ⟨fun h => (Bool.false_ne_true (hr.symm.trans h.pairs)), by rw [he]; rfl⟩⟩
set_option maxHeartbeats 2000000 in
set_option maxRecDepth 100000 in
theorem new_rest (vn vb vp : Value) (ss : List ByteArray) (ps : List (Int × Int)) (w : World) (hs : NamesAt w vn ss) (hp : PairsAt w vb ps) (hl : ss.length ≤ maxLen) (hl2 : ps.length ≤ maxLen) (hn : NamesP ss) (hr : prB ps ss.length = true) :
    Calls Try.prog 10 #[.agg #[vn, vb, vp]] w (NewPost ss ps w) := by
  have g1 := namesB_true hn
  have n8 : ss.length ≤ 8 := hn.2.1
  have n1 : 1 ≤ ss.length := hn.1
  have HN := Lib.hid hn
  have HR := Lib.hid hr
  clear hn
  obtain ⟨a, cap, rfl, hcap, hc⟩ := hs.form
  obtain ⟨b, off, rfl, _, _⟩ := hc 0 _ (List.getElem?_eq_getElem n1)
  have HC := Lib.hid hc
  clear hc
  have hEq := fun (w : World) (r s : Nat → Nat → Bool) => run_eqR w r s
  go_enter Try.func10, Try.ntmps10
  go_wp2_with fail
  have hb0 : Below w.heap.size w (w.alloc (Obj.cells #[Value.slice (some ⟨b, off, none⟩) ss.length cap, vb, vp] 28)) := (Below.refl _ _).alloc (Nat.le_refl _) _
  have f0 := al_new w (Obj.cells #[Value.slice (some ⟨b, off, none⟩) ss.length cap, vb, vp] 28)
  have F0 := Lib.hid f0
  clear f0
  refine (namesRight_any _ ss _ (hs.go hb0) hl).mono ?_
  rintro e w' ⟨rfl, rfl⟩
  go_wp2_with fail
  refine (pairsRight_any vb ps ss.length _ (hp.go hb0) hl2).mono ?_
  rintro e w1 ⟨rfl, hb1⟩
  have k1 := bt hb0 hb1
  have F1 := Lib.hid (bkeep hb1 F0.out)
  have c1 := cell_of_row w1 w.heap.size 1 _ _ _ F1.out
  clear hb0 hb1 F0
  go_wp2_with fail
  refine (paired_any vb ps ss.length _ n8 (hp.go k1) HR.out).mono ?_
  rintro e w2 ⟨rfl, hb2⟩
  have k2 := bt k1 hb2
  have F2 := Lib.hid (bkeep hb2 F1.out)
  clear k1 hb2 F1 c1
  go_wp2_with fail
  refine (closed_any _ _ (pairT_rf ps ss.length HR.out)).mono ?_
  rintro e w3 ⟨rfl, hb3⟩
  have k3 := bt k2 hb3
  have F3 := Lib.hid (bkeep hb3 F2.out)
  clear k2 hb3 F2
  generalize hc0 : clo (pairT ps ss.length) = c
  have HC0 := Lib.hid hc0
  clear hc0
  go_wp2_with (first | (refine wpList_allocR rfl rfl ?_) | (refine wpList_storeRn rfl _ _ rfl _ _ rfl rfl _ ?_) | (refine wpList_loadR rfl _ rfl _ rfl c _ _ (al_new _ _) ?_))
  refine (turned_any c _).mono ?_
  rintro e w4 ⟨rfl, hb4⟩
  have hb3 : Below w3.heap.size w3 (w3.alloc (.cells (relA c) 58)) := (Below.refl _ _).alloc (Nat.le_refl _) _
  have k4 := bt (bt k3 hb3) hb4
  have F4 := Lib.hid (bkeep hb4 (bkeep hb3 F3.out))
  have G5 := Lib.hid (bkeep hb4 (al_new w3 (.cells (relA c) 58)))
  clear k3 hb3 hb4 F3
  generalize w3.heap.size = g5 at G5 ⊢
  go_wp2_with (first | (refine wpList_allocR rfl rfl ?_) | (refine wpList_storeRn rfl _ _ rfl _ _ rfl rfl _ ?_) | (refine wpList_loadR rfl _ rfl _ rfl (trn c) _ _ (al_new _ _) ?_) | (refine wpList_loadR rfl _ rfl _ rfl c _ _ (bkeep ((Below.refl _ _).alloc (Nat.le_refl _) _) G5.out) ?_))
  refine (shared_any c (trn c) _).mono ?_
  rintro e w5 ⟨rfl, hb5⟩
  have hb4 : Below w4.heap.size w4 (w4.alloc (.cells (relA (trn c)) 58)) := (Below.refl _ _).alloc (Nat.le_refl _) _
  have k5 := bt (bt k4 hb4) hb5
  have F5 := Lib.hid (bkeep hb5 (bkeep hb4 F4.out))
  have G5' := Lib.hid (bkeep hb5 (bkeep hb4 G5.out))
  have G6 := Lib.hid (bkeep hb5 (al_new w4 (.cells (relA (trn c)) 58)))
  clear k4 hb4 hb5 F4 G5
  generalize w4.heap.size = g6 at G6 ⊢
  go_wp2_with fail
  refine (paired_any _ [] ss.length _ n8 (PairsAt.nil _) (nil_pr _)).mono ?_
  rintro e w6 ⟨rfl, hb6⟩
  have k6 := bt k5 hb6
  have F6 := Lib.hid (bkeep hb6 F5.out)
  have G5 := Lib.hid (bkeep hb6 G5'.out)
  have G6' := Lib.hid (bkeep hb6 G6.out)
  clear k5 hb6 F5 G5' G6
  cases hq : eqR (shr c (trn c)) (pairT [] ss.length)
  · go_wp2
    go_ret2
    have hng : ¬ Good ss ps := fun h => by
      have h1 := h.anti
      unfold Anti cl at h1
      rw [HC0.out, ← eqR_iff, hq] at h1
      cases h1
    have he : errOf ss ps = 9 := by simp [errOf, HN.out, HR.out, hng]
    exact ⟨k6, .inr ⟨hng, by rw [he]; rfl⟩⟩
  · go_wp2_with (first | (refine wpList_loadR rfl _ rfl _ rfl c _ _ G5.out ?_))
    refine (leasts_any c ss.length _ n8).mono ?_
    rintro e w7 ⟨hb7, h7⟩
    have k7 := bt k6 hb7
    have F7 := Lib.hid (bkeep hb7 F6.out)
    have G5' := Lib.hid (bkeep hb7 G5.out)
    have G6 := Lib.hid (bkeep hb7 G6'.out)
    clear k6 hb7 F6 G5 G6'
    rcases h7 with ⟨hj, rfl⟩ | ⟨hj, rfl⟩
    · go_wp2_with (first | (refine wpList_allocC rfl rfl ?_) | (refine wpList_storeCn rfl _ _ rfl _ _ rfl rfl _ ?_) | (refine wpList_loadR rfl _ rfl _ rfl (trn c) _ _ (bkeep ((Below.refl _ _).alloc (Nat.le_refl _) _) G6.out) ?_))
      refine (leasts_any (trn c) ss.length _ n8).mono ?_
      rintro e w8 ⟨hb8, h8⟩
      have hb7 : Below w7.heap.size w7 (w7.alloc (.cells (chA (joinT c ss.length)) 64)) := (Below.refl _ _).alloc (Nat.le_refl _) _
      have k8 := bt (bt k7 hb7) hb8
      have F8 := Lib.hid (bkeep hb8 (bkeep hb7 F7.out))
      have G5 := Lib.hid (bkeep hb8 (bkeep hb7 G5'.out))
      have G7 := Lib.hid (bkeep hb8 (al_new w7 (.cells (chA (joinT c ss.length)) 64)))
      clear k7 hb7 hb8 F7 G5' G6
      generalize w7.heap.size = g7 at G7 ⊢
      rcases h8 with ⟨hm, rfl⟩ | ⟨hm, rfl⟩
      · go_wp2_with (first | (refine wpList_allocC rfl rfl ?_) | (refine wpList_storeCn rfl _ _ rfl _ _ rfl rfl _ ?_; have hb8 : Below w8.heap.size w8 (w8.alloc (.cells (chA (joinT (trn c) ss.length)) 64)) := (Below.refl _ _).alloc (Nat.le_refl _) _) | (refine wpList_loadR rfl _ rfl _ rfl c _ _ (bkeep hb8 G5.out) ?_) | (refine wpList_loadC rfl _ rfl _ rfl (joinT c ss.length) _ _ (bkeep hb8 G7.out) ?_) | (refine wpList_loadC rfl _ rfl _ rfl (joinT (trn c) ss.length) _ _ (al_new _ _) ?_) | (refine wpList_buildL rfl _ _ _ _ rfl ss.length c (joinT c ss.length) (joinT (trn c) ss.length) rfl rfl rfl rfl ?_))
        have hbL : Below (w8.alloc (.cells (chA (joinT (trn c) ss.length)) 64)).heap.size (w8.alloc (.cells (chA (joinT (trn c) ss.length)) 64)) ((w8.alloc (.cells (chA (joinT (trn c) ss.length)) 64)).alloc (.cells (latA ss.length (fun _ => ByteArray.empty) c (joinT c ss.length) (joinT (trn c) ss.length) 0 0) 69)) := (Below.refl _ _).alloc (Nat.le_refl _) _
        have k9 := bt (bt k8 hb8) hbL
        have F9 := Lib.hid (bkeep hbL (bkeep hb8 F8.out))
        have G7' := Lib.hid (bkeep hbL (bkeep hb8 G7.out))
        have G9 := Lib.hid (bkeep hbL (al_new w8 (.cells (chA (joinT (trn c) ss.length)) 64)))
        have GL := Lib.hid (al_new (w8.alloc (.cells (chA (joinT (trn c) ss.length)) 64)) (.cells (latA ss.length (fun _ => ByteArray.empty) c (joinT c ss.length) (joinT (trn c) ss.length) 0 0) 69))
        have hgl : w.heap.size ≤ w8.heap.size + 1 := Nat.le_trans k8.size (Nat.le_succ w8.heap.size)
        have hg9 : w8.heap.size < w8.heap.size + 1 := Nat.lt_succ_self _
        have hg7 : g7 < w8.heap.size := lt_of_some G7.out
        rw [al_size] at GL
        clear hbL hb8 k8 F8 G5 G7
        generalize (w8.alloc (.cells (chA (joinT (trn c) ss.length)) 64)).alloc (.cells (latA ss.length (fun _ => ByteArray.empty) c (joinT c ss.length) (joinT (trn c) ss.length) 0 0) 69) = w9 at k9 F9 G7' G9 GL ⊢
        generalize w8.heap.size + 1 = gl at GL hgl hg9 ⊢
        generalize w8.heap.size = g9 at G9 hg9 hg7 ⊢
        have c0 := cell_of_row w9 w.heap.size 0 _ _ _ F9.out
        have hsrc : ∀ (i : Nat) (x : ByteArray), ss[i]? = some x → w9.cell? ⟨b, off + i, none⟩ = some (.string x) := fun i x hx => by
          obtain ⟨b', off', e, h1, _⟩ := HC.out i x hx
          cases e
          exact cellB k9 h1
        have HSRC := Lib.hid hsrc
        clear hsrc
        go_region_law (refine step_copyL rfl _ _ rfl gl b off cap ss ss.length c (joinT c ss.length) (joinT (trn c) ss.length) 0 0 n8 rfl rfl GL.out HSRC.out ?_)
        have k10 := below_setRow k9.drew hgl (latA ss.length (nmOf ss) c (joinT c ss.length) (joinT (trn c) ss.length) 0 0)
        have GL' := Lib.hid (setRow_heap w9.drew gl _ (latA ss.length (nmOf ss) c (joinT c ss.length) (joinT (trn c) ss.length) 0 0) _ _ GL.out)
        have G7 := Lib.hid ((setRow_other w9.drew gl g7 (latA ss.length (nmOf ss) c (joinT c ss.length) (joinT (trn c) ss.length) 0 0) (by omega)).trans G7'.out)
        have G9' := Lib.hid ((setRow_other w9.drew gl g9 (latA ss.length (nmOf ss) c (joinT c ss.length) (joinT (trn c) ss.length) 0 0) (by omega)).trans G9.out)
        generalize w9.drew.setRow gl (latA ss.length (nmOf ss) c (joinT c ss.length) (joinT (trn c) ss.length) 0 0) = w10 at k10 GL' G7 G9' ⊢
        clear GL G9 G7' k9 F9 c0 HSRC
        have hgood : Good ss ps := ⟨HN.out, HR.out, by unfold Anti cl; rw [HC0.out]; exact eqR_iff.1 hq, by unfold cl; rw [HC0.out]; exact hj, by unfold cl; rw [HC0.out]; exact hm⟩
        go_wp2
        go_loopw [12, 70] (fun _ i wr => ∃ k : Nat, k ≤ ss.length ∧ i = .int .i64 k ∧ Below w.heap.size w wr ∧ wr.heap[g7]? = some (.cells (chA (joinT c ss.length)) 64) ∧ wr.heap[g9]? = some (.cells (chA (joinT (trn c) ss.length)) 64) ∧ wr.heap[gl]? = some (.cells (latA ss.length (nmOf ss) c (joinT c ss.length) (joinT (trn c) ss.length) (foldT (joinT (trn c) ss.length) k) (foldT (joinT c ss.length) k)) 69)) (fun _ i _ => ss.length - (intOf i).toNat)
        case atStart => exact ⟨0, by omega, rfl, k10, G7.out, G9'.out, GL'.out⟩
        case round =>
          clear GL' G7 G9' k10
          obtain ⟨k, hk, rfl, kb, G7, G9, GL⟩ := hrel
          have h7 := Lib.hid G7
          have h9 := Lib.hid G9
          have hL := Lib.hid GL
          clear G7 G9 GL
          by_cases hlt : k < ss.length
          · have t0 : foldT (joinT c ss.length) k < ss.length := foldT_lt (by omega)
            have t1 : foldT (joinT (trn c) ss.length) k < ss.length := foldT_lt (by omega)
            have s0 := foldT_succ (joinT c ss.length) k
            have s1 := foldT_succ (joinT (trn c) ss.length) k
            have S0 := Lib.hid s0
            have S1 := Lib.hid s1
            clear s0 s1
            generalize foldT (joinT c ss.length) k = tp at t0 S0 hL
            generalize foldT (joinT (trn c) ss.length) k = bo at t1 S1 hL
            have a1 := (cell_of_row wr gl 202 _ _ _ hL.out).trans (lat_top _ _ _ _ _ _ _)
            have a2 := (cell_of_row wr gl 201 _ _ _ hL.out).trans (lat_bot _ _ _ _ _ _ _)
            have a3 := (cell_of_row wr g7 (tp * 8 + k) _ _ _ h7.out).trans (chA_at (joinT c ss.length) tp k (by omega) (by omega))
            have a4 := (cell_of_row wr g9 (bo * 8 + k) _ _ _ h9.out).trans (chA_at (joinT (trn c) ss.length) bo k (by omega) (by omega))
            have a5 := frozen_of_row wr gl 202 _ _ hL.out
            have a6 := frozen_of_row wr gl 201 _ _ hL.out
            go_wp2
            go_roundw
            case rel =>
              refine ⟨k + 1, by omega, by go_num, (kb.setCell hgl _).setCell hgl _, ?_, ?_, ?_⟩
              · rw [heap_setCell_other _ _ _ _ (by dsimp only; omega), heap_setCell_other _ _ _ _ (by dsimp only; omega)]
                exact h7.out
              · rw [heap_setCell_other _ _ _ _ (by dsimp only; omega), heap_setCell_other _ _ _ _ (by dsimp only; omega)]
                exact h9.out
              · rw [heap_setCell_same _ gl 201 _ _ _ (heap_setCell_same wr gl 202 _ _ _ hL.out), lat_set_top, lat_set_bot, S0.out, S1.out]
            case measure => simp [intOf]; omega
          · obtain rfl : k = ss.length := by omega
            go_wp2
            go_ret2
            exact ⟨kb, .inl ⟨hgood, gl, rfl, hgl, by unfold latOf cl; rw [HC0.out]; exact hL.out⟩⟩
      · go_wp2_with (first | (refine wpList_allocC rfl rfl ?_) | (refine wpList_storeCn rfl _ _ rfl _ _ rfl rfl _ ?_))
        go_ret2
        have hng : ¬ Good ss ps := fun h => hm (by have := h.meets; unfold cl at this; rwa [HC0.out] at this)
        have he : errOf ss ps = 9 := by simp [errOf, HN.out, HR.out, hng]
        exact ⟨k8.alloc k8.size _, .inr ⟨hng, by rw [he]; rfl⟩⟩
    · go_wp2_with (first | (refine wpList_allocC rfl rfl ?_) | (refine wpList_storeCn rfl _ _ rfl _ _ rfl rfl _ ?_) | (refine wpList_loadR rfl _ rfl _ rfl (trn c) _ _ (bkeep ((Below.refl _ _).alloc (Nat.le_refl _) _) G6.out) ?_))
      refine (leasts_any (trn c) ss.length _ n8).mono ?_
      rintro e w8 ⟨hb8, h8⟩
      have k8 := bt (bt k7 ((Below.refl _ _).alloc (Nat.le_refl _) _)) hb8
      clear k7 hb8 F7 G5' G6
      have hng : ¬ Good ss ps := fun h => hj (by have := h.joins; unfold cl at this; rwa [HC0.out] at this)
      have he : errOf ss ps = 9 := by simp [errOf, HN.out, HR.out, hng]
      have HE := Lib.hid he
      clear he
      rcases h8 with ⟨hm, rfl⟩ | ⟨hm, rfl⟩
      · go_wp2_with (first | (refine wpList_allocC rfl rfl ?_) | (refine wpList_storeCn rfl _ _ rfl _ _ rfl rfl _ ?_))
        go_ret2
        exact ⟨k8.alloc k8.size _, .inr ⟨hng, by rw [HE.out]; rfl⟩⟩
      · go_wp2_with (first | (refine wpList_allocC rfl rfl ?_) | (refine wpList_storeCn rfl _ _ rfl _ _ rfl rfl _ ?_))
        go_ret2
        exact ⟨k8.alloc k8.size _, .inr ⟨hng, by rw [HE.out]; rfl⟩⟩
theorem new_any (vn vb vp : Value) (ss : List ByteArray) (ps : List (Int × Int)) (w : World) (hs : NamesAt w vn ss) (hp : PairsAt w vb ps) (hl : ss.length ≤ maxLen) (hl2 : ps.length ≤ maxLen) :
    Calls Try.prog 10 #[.agg #[vn, vb, vp]] w (NewPost ss ps w) := by
  by_cases hn : NamesP ss
  · cases hr : prB ps ss.length
    · exact new_nopair vn vb vp ss ps w hs hp hl hl2 hn hr
    · exact new_rest vn vb vp ss ps w hs hp hl hl2 hn hr
  · exact new_noname vn vb vp ss ps w hs hl hn
end Lv
end Go.Proofs.Ytmfdclnepmgmlaa
