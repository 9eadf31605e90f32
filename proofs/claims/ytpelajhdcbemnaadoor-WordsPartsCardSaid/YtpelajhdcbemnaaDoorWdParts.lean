/- WordsParts walked: it answers true for every list of texts and byte. -/
import Derived.Test.YtpelajhdcbemnaaDoorWdTimes
import Derived.Test.YtpelajhdcbemnaaDoorUtRSigns
import Derived.Deep.DeepCutAuto
namespace Go.Proofs.YtpelajhdcbemnaaDoor
open Go.RowKit
namespace Wd
open _root_.Go.Proofs.YtpelajhdcbemnaaDoor.Ut
theorem self_eq (a : ByteArray) : (a.toList == a.toList) = true := by simp
theorem map_tl {a b : List ByteArray} (h : a.map tl = b.map tl) : a = b := by
  induction a generalizing b with
  | nil => cases b with
    | nil => rfl
    | cons y b => simp at h
  | cons x a ih => cases b with
    | nil => simp at h
    | cons y b =>
      simp only [List.map_cons, List.cons.injEq] at h
      rw [tl_inj h.1, ih h.2]
theorem has_not {l : List UInt8} {c : UInt8} (h : hasL l [c] = false) : c ∉ l := by
  intro hc
  unfold hasL Lib.contains at h
  rw [decide_eq_false_iff_not] at h
  rcases Lib.index_spec l [c] with ⟨_, h2⟩ | ⟨i, h1, _⟩
  · obtain ⟨j, hj, e⟩ := List.getElem_of_mem hc
    have := h2 j (by omega)
    unfold Lib.occAt at this
    rw [List.drop_eq_getElem_cons hj, e] at this
    simp at this
  · omega
theorem split_join {l : List ByteArray} {D J : ByteArray} {c : UInt8} (hD : tl D = [c]) (hJ : tl J = jt l D) (h0 : l ≠ []) (hx : ∀ x ∈ l, c ∉ tl x) : spl J D = l := by
  have h1 : 1 ≤ D.size := by rw [← tl_len, hD]; exact Nat.le_refl _
  refine map_tl ?_
  rw [spl_ps h1, hJ, jt_all, hD]
  refine ps_of_join c _ (fun e => h0 (List.map_eq_nil_iff.1 e)) fun x h => ?_
  rw [List.mem_map] at h
  obtain ⟨y, hy, rfl⟩ := h
  exact hx y hy
set_option maxRecDepth 100000 in
set_option maxHeartbeats 8000000 in
theorem wordsParts_any (v : Value) (l : List ByteArray) (c : Nat) (w : World) (hv : Ts w v l) (hl : l.length ≤ maxLen) (hx : ∀ s ∈ l, s.size ≤ maxLen) (_hc : c < 256) (hT : St w) :
    Calls Tryd.prog 7 #[v, .int .u8 (c : Nat)] w fun e w' => e = .returned (.bool true) ∧ Below w.heap.size w w' := by
  unfold maxLen at hl hx
  have HT := Lib.hid hT
  have HV := Lib.hid hv
  have HX := Lib.hid hx
  obtain ⟨ao, cap, rfl, hcp, h⟩ := hv
  have H := Lib.hid h
  clear hT hx h
  by_cases c1 : 50 < l.length
  · go_enter Tryd.func7, Tryd.ntmps7
    go_wp2_with (go_at_call 8; refine (lives_any _ HT.out).mono ?_; rintro e w1 ⟨rfl, b1⟩)
    go_ret
    exact ⟨rfl, b1⟩
  by_cases c2 : l.length = 0
  · go_enter Tryd.func7, Tryd.ntmps7
    go_wp2_with (go_at_call 8; refine (lives_any _ HT.out).mono ?_; rintro e w1 ⟨rfl, b1⟩)
    go_ret
    exact ⟨rfl, b1⟩
  obtain ⟨D, hD⟩ : ∃ D, str [c] = D := ⟨_, rfl⟩
  have htd : tl D = [c.toUInt8] := by rw [← hD]; rfl
  have hds : D.size = 1 := by rw [← tl_len, htd]; rfl
  have HTD := Lib.hid htd
  have hcv0 : ∀ w : World, (convert 31 9 (.slice (some ⟨w.heap.size, 0, none⟩) 1 1)).run Tryd.prog (w.alloc (.cells #[.int .u8 (c : Nat)] 5)) = .ok (.string D) (w.alloc (.cells #[.int .u8 (c : Nat)] 5)) := fun w => by
    rw [← hD]; exact conv_put w [c] 1 rfl (by show 1 ≤ maxLen; decide)
  have hcv1 : ∀ w : World, (convert 31 9 (.slice (some ⟨w.heap.size, 0, none⟩) 1 1)).run Tryd.prog (w.alloc (.cells #[.int .u8 (c : Nat)] 5)).drew = .ok (.string D) (w.alloc (.cells #[.int .u8 (c : Nat)] 5)).drew := fun w => by
    rw [← hD]; exact conv_put_drew w [c] 1 rfl (by show 1 ≤ maxLen; decide)
  clear hD htd
  have hne : (((l.length : Nat) : Int) == 0) = false := by rw [beq_eq_false_iff_ne]; omega
  have hne2 : ((l.length : Nat) : Int) ≤ 50 := by omega
  go_enter Tryd.func7, Tryd.ntmps7
  go_upto_region 4 with (fail)
  go_loopw [5] (fun i wr => ∃ k : Nat, i = .int .i64 k ∧ k ≤ l.length ∧ Hid (Below w.heap.size w wr) ∧ Hid (∀ (j : Nat) x, j < k → l[j]? = some x → x.size ≤ 200 ∧ c.toUInt8 ∉ tl x)) (fun i _ => l.length - (intOf i).toNat)
  case atStart => exact ⟨0, rfl, by omega, Lib.hid (Below.refl _ _), Lib.hid (fun j x h => by omega)⟩
  case round =>
    obtain ⟨k, rfl, hk, HB, HK⟩ := hrel
    by_cases hlt : k < l.length
    · obtain ⟨x, hx⟩ : ∃ x, l[k]? = some x := ⟨_, List.getElem?_eq_getElem hlt⟩
      obtain ⟨g, o, rfl, hg0, hcl⟩ := H.out (by omega)
      have hg : g < wr.heap.size := Nat.lt_of_lt_of_le hg0 HB.out.size
      have e1 : wr.cell? ⟨g, o + k, none⟩ = some (.string x) := (HB.out.cell (p := ⟨g, o + k, none⟩) hg0).trans (hcl k x hx)
      have hxs := HX.out x (List.mem_of_getElem? hx)
      have i1 : (k : Int) < (l.length : Int) := by omega
      have HXK := Lib.hid hx
      clear hcl hx
      by_cases c3 : 200 < x.size
      · have hd : decide ((200 : Int) < (x.size : Nat)) = true := by simp; omega
        go_upto_region 6 with (fail)
        refine wp_region_held_drew (S := (fun w' => Below wr.heap.size wr w')) (by kernel_rfl) ((Below.refl _ _).drew) (fun hHeld => ?_)
        refine take_put (i := 0) (d := 26) (oi := _) (v := ?v0a) rfl rfl (by kernel_rfl) (by kernel_rfl) (by kernel_rfl) (fun _ _ _ h => h) (Or.inl ⟨by rfl, ?y0a⟩) hHeld ?r0a
        case y0a => (intro w hSw; (try dsimp only at hSw); go_simp; try with_reducible rfl)
        simp only [Act.put, List.setIfInBounds_toArray, List.set_cons_zero, List.set_cons_succ]
        refine take_put (i := 1) (d := 27) (oi := _) (v := ?v1a) rfl rfl (by kernel_rfl) (by kernel_rfl) (by kernel_rfl) (fun _ _ _ h => h) (Or.inl ⟨by rfl, ?y1a⟩) hHeld ?r1a
        case y1a => (intro w hSw; (try dsimp only at hSw); go_simp; try with_reducible rfl)
        simp only [Act.put, List.setIfInBounds_toArray, List.set_cons_zero, List.set_cons_succ]
        refine take_put (i := 2) (d := 28) (oi := _) (v := ?v2a) rfl rfl (by kernel_rfl) (by kernel_rfl) (by kernel_rfl) (fun _ _ _ h => h) (Or.inl ⟨by rfl, ?y2a⟩) hHeld ?r2a
        case y2a => (intro w hSw; (try dsimp only at hSw); go_simp; try with_reducible rfl)
        simp only [Act.put, List.setIfInBounds_toArray, List.set_cons_zero, List.set_cons_succ]
        refine take_put (i := 3) (d := 29) (oi := _) (v := ?v3a) rfl rfl (by kernel_rfl) (by kernel_rfl) (by kernel_rfl) (fun _ _ _ h => h) (Or.inl ⟨by rfl, ?y3a⟩) hHeld ?r3a
        case y3a => (intro w hSw; (try dsimp only at hSw); have c0 := (hSw.cell (p := ⟨g, o + k, none⟩) hg).trans e1; go_simp; try with_reducible rfl)
        simp only [Act.put, List.setIfInBounds_toArray, List.set_cons_zero, List.set_cons_succ]
        refine take_put (i := 4) (d := 30) (oi := _) (v := ?v4a) rfl rfl (by kernel_rfl) (by kernel_rfl) (by kernel_rfl) (fun _ _ _ h => h) (Or.inl ⟨by rfl, ?y4a⟩) hHeld ?r4a
        case y4a => (intro w hSw; (try dsimp only at hSw); go_simp; try with_reducible rfl)
        simp only [Act.put, List.setIfInBounds_toArray, List.set_cons_zero, List.set_cons_succ]
        refine take_put (i := 5) (d := 31) (oi := _) (v := ?v5a) rfl rfl (by kernel_rfl) (by kernel_rfl) (by kernel_rfl) (fun _ _ _ h => h) (Or.inl ⟨by rfl, ?y5a⟩) hHeld ?r5a
        case y5a => (intro w hSw; (try dsimp only at hSw); go_simp; try with_reducible rfl)
        simp only [Act.put, List.setIfInBounds_toArray, List.set_cons_zero, List.set_cons_succ]
        refine take_put (i := 6) (d := 32) (oi := _) (v := ?v6a) rfl rfl (by kernel_rfl) (by kernel_rfl) (by kernel_rfl) (fun _ _ _ h => h) (Or.inl ⟨by rfl, ?y6a⟩) hHeld ?r6a
        case y6a => (intro w hSw; (try dsimp only at hSw); go_simp; try with_reducible rfl)
        simp only [Act.put, List.setIfInBounds_toArray, List.set_cons_zero, List.set_cons_succ]
        refine take_put (i := 7) (d := 33) (oi := _) (v := undef) rfl rfl (by kernel_rfl) (by kernel_rfl) (by kernel_rfl) (fun _ _ _ h => h) (Or.inr ⟨by rfl, rfl⟩) hHeld ?r7a
        simp only [Act.put, List.setIfInBounds_toArray, List.set_cons_zero, List.set_cons_succ]
        refine take_put (i := 8) (d := 34) (oi := _) (v := undef) rfl rfl (by kernel_rfl) (by kernel_rfl) (by kernel_rfl) (fun _ _ _ h => h) (Or.inr ⟨by rfl, rfl⟩) hHeld ?r8a
        simp only [Act.put, List.setIfInBounds_toArray, List.set_cons_zero, List.set_cons_succ]
        refine take_put (i := 9) (d := 35) (oi := _) (v := undef) rfl rfl (by kernel_rfl) (by kernel_rfl) (by kernel_rfl) (fun _ _ _ h => h) (Or.inr ⟨by rfl, rfl⟩) hHeld ?r9a
        simp only [Act.put, List.setIfInBounds_toArray, List.set_cons_zero, List.set_cons_succ]
        refine take_put (i := 10) (d := 36) (oi := _) (v := undef) rfl rfl (by kernel_rfl) (by kernel_rfl) (by kernel_rfl) (fun _ _ _ h => h) (Or.inr ⟨by rfl, rfl⟩) hHeld ?r10a
        simp only [Act.put, List.setIfInBounds_toArray, List.set_cons_zero, List.set_cons_succ]
        refine take_put (i := 11) (d := 37) (oi := _) (v := undef) rfl rfl (by kernel_rfl) (by kernel_rfl) (by kernel_rfl) (fun _ _ _ h => h) (Or.inr ⟨by rfl, rfl⟩) hHeld ?r11a
        simp only [Act.put, List.setIfInBounds_toArray, List.set_cons_zero, List.set_cons_succ]
        refine take_put (i := 12) (d := 38) (oi := _) (v := undef) rfl rfl (by kernel_rfl) (by kernel_rfl) (by kernel_rfl) (fun _ _ _ h => h) (Or.inr ⟨by rfl, rfl⟩) hHeld ?r12a
        simp only [Act.put, List.setIfInBounds_toArray, List.set_cons_zero, List.set_cons_succ]
        refine take_put (i := 13) (d := 39) (oi := _) (v := undef) rfl rfl (by kernel_rfl) (by kernel_rfl) (by kernel_rfl) (fun _ _ _ h => h) (Or.inr ⟨by rfl, rfl⟩) hHeld ?r13a
        simp only [Act.put, List.setIfInBounds_toArray, List.set_cons_zero, List.set_cons_succ]
        refine take_put (i := 14) (d := 40) (oi := _) (v := undef) rfl rfl (by kernel_rfl) (by kernel_rfl) (by kernel_rfl) (fun _ _ _ h => h) (Or.inr ⟨by rfl, rfl⟩) hHeld ?r14a
        simp only [Act.put, List.setIfInBounds_toArray, List.set_cons_zero, List.set_cons_succ]
        refine take_put (i := 15) (d := 41) (oi := _) (v := ?v15a) rfl rfl (by kernel_rfl) (by kernel_rfl) (by kernel_rfl) (fun _ _ _ h => h) (Or.inl ⟨by rfl, ?y15a⟩) hHeld ?r15a
        case y15a => (intro w hSw; (try dsimp only at hSw); go_simp; try with_reducible rfl)
        simp only [Act.put, List.setIfInBounds_toArray, List.set_cons_zero, List.set_cons_succ]
        refine wpAnyH_done (by kernel_rfl) ?_ _
        have hb : Below w.heap.size w wr.drew := HB.out.drew
        have HB2 := Lib.hid hb
        clear hb
        go_wp2_with (go_at_call 8; refine (lives_any _ (HT.out.on HB2.out)).mono ?_; rintro e w4 ⟨rfl, b4⟩)
        go_ret
        exact ⟨rfl, HB2.out.trans (b4.mono HB2.out.size)⟩
      · have hhas := fun wx (hb : Below wr.heap.size wr wx) => has_any x D wx (by omega) (HT.out.on (HB.out.trans (hb.mono HB.out.size)))
        have hnot : hasL (tl x) (tl D) = false → c.toUInt8 ∉ tl x := fun h => has_not (by rw [HTD.out] at h; exact h)
        have HNOT := Lib.hid hnot
        clear hnot
        generalize hasL (tl x) (tl D) = b at hhas HNOT
        have hd : decide ((200 : Int) < (x.size : Nat)) = false := by simp; omega
        go_upto_region 6 with (fail)
        refine wp_region_held_drew (S := (fun w' => Below wr.heap.size wr w')) (by kernel_rfl) ((Below.refl _ _).drew) (fun hHeld => ?_)
        refine take_put (i := 0) (d := 26) (oi := _) (v := ?v0b) rfl rfl (by kernel_rfl) (by kernel_rfl) (by kernel_rfl) (fun _ _ _ h => h) (Or.inl ⟨by rfl, ?y0b⟩) hHeld ?r0b
        case y0b => (intro w hSw; (try dsimp only at hSw); go_simp; try with_reducible rfl)
        simp only [Act.put, List.setIfInBounds_toArray, List.set_cons_zero, List.set_cons_succ]
        refine take_put (i := 1) (d := 27) (oi := _) (v := ?v1b) rfl rfl (by kernel_rfl) (by kernel_rfl) (by kernel_rfl) (fun _ _ _ h => h) (Or.inl ⟨by rfl, ?y1b⟩) hHeld ?r1b
        case y1b => (intro w hSw; (try dsimp only at hSw); go_simp; try with_reducible rfl)
        simp only [Act.put, List.setIfInBounds_toArray, List.set_cons_zero, List.set_cons_succ]
        refine take_put (i := 2) (d := 28) (oi := _) (v := ?v2b) rfl rfl (by kernel_rfl) (by kernel_rfl) (by kernel_rfl) (fun _ _ _ h => h) (Or.inl ⟨by rfl, ?y2b⟩) hHeld ?r2b
        case y2b => (intro w hSw; (try dsimp only at hSw); go_simp; try with_reducible rfl)
        simp only [Act.put, List.setIfInBounds_toArray, List.set_cons_zero, List.set_cons_succ]
        refine take_put (i := 3) (d := 29) (oi := _) (v := ?v3b) rfl rfl (by kernel_rfl) (by kernel_rfl) (by kernel_rfl) (fun _ _ _ h => h) (Or.inl ⟨by rfl, ?y3b⟩) hHeld ?r3b
        case y3b => (intro w hSw; (try dsimp only at hSw); have c0 := (hSw.cell (p := ⟨g, o + k, none⟩) hg).trans e1; go_simp; try with_reducible rfl)
        simp only [Act.put, List.setIfInBounds_toArray, List.set_cons_zero, List.set_cons_succ]
        refine take_put (i := 4) (d := 30) (oi := _) (v := ?v4b) rfl rfl (by kernel_rfl) (by kernel_rfl) (by kernel_rfl) (fun _ _ _ h => h) (Or.inl ⟨by rfl, ?y4b⟩) hHeld ?r4b
        case y4b => (intro w hSw; (try dsimp only at hSw); go_simp; try with_reducible rfl)
        simp only [Act.put, List.setIfInBounds_toArray, List.set_cons_zero, List.set_cons_succ]
        refine take_put (i := 5) (d := 31) (oi := _) (v := ?v5b) rfl rfl (by kernel_rfl) (by kernel_rfl) (by kernel_rfl) (fun _ _ _ h => h) (Or.inl ⟨by rfl, ?y5b⟩) hHeld ?r5b
        case y5b => (intro w hSw; (try dsimp only at hSw); go_simp; try with_reducible rfl)
        simp only [Act.put, List.setIfInBounds_toArray, List.set_cons_zero, List.set_cons_succ]
        refine take_put (i := 6) (d := 32) (oi := _) (v := ?v6b) rfl rfl (by kernel_rfl) (by kernel_rfl) (by kernel_rfl) (fun _ _ _ h => h) (Or.inl ⟨by rfl, ?y6b⟩) hHeld ?r6b
        case y6b => (intro w hSw; (try dsimp only at hSw); go_simp; try with_reducible rfl)
        simp only [Act.put, List.setIfInBounds_toArray, List.set_cons_zero, List.set_cons_succ]
        refine take_put (i := 7) (d := 33) (oi := _) (v := ?v7b) rfl rfl (by kernel_rfl) (by kernel_rfl) (by kernel_rfl) (fun _ _ _ h => h) (Or.inl ⟨by rfl, ?y7b⟩) hHeld ?r7b
        case y7b => (intro w hSw; (try dsimp only at hSw); go_simp; try with_reducible rfl)
        simp only [Act.put, List.setIfInBounds_toArray, List.set_cons_zero, List.set_cons_succ]
        refine take_put (i := 8) (d := 34) (oi := _) (v := ?v8b) rfl rfl (by kernel_rfl) (by kernel_rfl) (by kernel_rfl) (fun _ _ _ h => h) (Or.inl ⟨by rfl, ?y8b⟩) hHeld ?r8b
        case y8b => (intro w hSw; (try dsimp only at hSw); go_simp; try with_reducible rfl)
        simp only [Act.put, List.setIfInBounds_toArray, List.set_cons_zero, List.set_cons_succ]
        refine take_put (i := 9) (d := 35) (oi := _) (v := ?v9b) rfl rfl (by kernel_rfl) (by kernel_rfl) (by kernel_rfl) (fun _ _ _ h => h) (Or.inl ⟨by rfl, ?y9b⟩) hHeld ?r9b
        case y9b => (intro w hSw; (try dsimp only at hSw); go_simp; try with_reducible rfl)
        simp only [Act.put, List.setIfInBounds_toArray, List.set_cons_zero, List.set_cons_succ]
        refine take_put (i := 10) (d := 36) (oi := _) (v := ?v10b) rfl rfl (by kernel_rfl) (by kernel_rfl) (by kernel_rfl) (fun _ _ _ h => h) (Or.inl ⟨by rfl, ?y10b⟩) hHeld ?r10b
        case y10b => (intro w hSw; (try dsimp only at hSw); have c0 := (hSw.cell (p := ⟨g, o + k, none⟩) hg).trans e1; go_simp; try with_reducible rfl)
        simp only [Act.put, List.setIfInBounds_toArray, List.set_cons_zero, List.set_cons_succ]
        refine take_put (i := 11) (d := 37) (oi := _) (v := ?v11b) rfl rfl (by kernel_rfl) (by kernel_rfl) (by kernel_rfl) (fun _ _ _ h => h) (Or.inl ⟨by rfl, ?y11b⟩) hHeld ?r11b
        case y11b => (intro w hSw; (try dsimp only at hSw); go_simp; try with_reducible rfl)
        simp only [Act.put, List.setIfInBounds_toArray, List.set_cons_zero, List.set_cons_succ]
        refine wpAnyH_ready (rs := [12]) (by kernel_rfl) (by simp) (AllReadyH.cons (o := _) rfl (fun K hK => ?_) AllReadyH.nil)
        go_simp
        skip
        (try dsimp only)
        refine hK.out _ _ (((Below.refl _ _).alloc (Nat.le_refl _) _).drew) (fun hHeld => ?_)
        clear hK K
        refine wpAnyH_ready (rs := [13]) (by kernel_rfl) (by simp) (AllReadyH.cons (o := _) rfl (fun K hK => ?_) AllReadyH.nil)
        go_simp
        skip
        (try dsimp only)
        refine hK.out _ _ (((Below.refl _ _).alloc (Nat.le_refl _) _).drew) (fun hHeld => ?_)
        clear hK K
        refine wpAnyH_ready (rs := [14]) (by kernel_rfl) (by simp) (AllReadyH.cons (o := _) rfl (fun K hK => ?_) AllReadyH.nil)
        go_simp
        refine (hhas _ (((Below.refl _ _).alloc (Nat.le_refl _) _).drew)).mono ?_
        rintro e w' ⟨rfl, rfl⟩
        (try dsimp only)
        refine hK.out _ _ (((Below.refl _ _).alloc (Nat.le_refl _) _).drew) (fun hHeld => ?_)
        clear hK K
        refine take_put (i := 15) (d := 41) (oi := _) (v := ?v15b) rfl rfl (by kernel_rfl) (by kernel_rfl) (by kernel_rfl) (fun _ _ _ h => h) (Or.inl ⟨by rfl, ?y15b⟩) hHeld ?r15b
        case y15b => (intro w hSw; (try dsimp only at hSw); go_simp; try with_reducible rfl)
        simp only [Act.put, List.setIfInBounds_toArray, List.set_cons_zero, List.set_cons_succ]
        refine wpAnyH_done (by kernel_rfl) ?_ _
        have hb : Below w.heap.size w (wr.alloc (.cells #[.int .u8 (c : Nat)] 5)).drew := (HB.out.alloc HB.out.size _).drew
        have HB2 := Lib.hid hb
        clear hb hhas
        cases b with
        | true =>
          go_wp2_with (go_at_call 8; refine (lives_any _ (HT.out.on HB2.out)).mono ?_; rintro e w4 ⟨rfl, b4⟩)
          go_ret
          exact ⟨rfl, HB2.out.trans (b4.mono HB2.out.size)⟩
        | false =>
          have HK2 : Hid (∀ (j : Nat) y, j < k + 1 → l[j]? = some y → y.size ≤ 200 ∧ c.toUInt8 ∉ tl y) := Lib.hid (fun j y hj hy => by
            by_cases e : j = k
            · subst e
              rw [HXK.out] at hy
              obtain rfl := Option.some.inj hy
              exact ⟨by omega, HNOT.out rfl⟩
            · exact HK.out j y (by omega) hy)
          go_wp2
          go_roundw
          case rel => exact ⟨k + 1, by go_num, by omega, HB2, HK2⟩
          case measure => simp [intOf]; omega
    · have hall : ∀ x ∈ l, x.size ≤ 200 ∧ c.toUInt8 ∉ tl x := fun x hx => by
        obtain ⟨j, hj, e⟩ := List.getElem_of_mem hx
        exact HK.out j x (by omega) (by rw [List.getElem?_eq_getElem hj, e])
      have hjn := fun wx (hb : Below wr.heap.size wr wx) => join_any _ l D wx (HV.out.on (HB.out.trans (hb.mono HB.out.size))) (by omega) (by omega) (fun x hx => by have := (hall x hx).1; omega)
      have hspl : ∀ J : ByteArray, tl J = jt l D → spl J D = l := fun J hJ => split_join HTD.out hJ (fun e => c2 (by rw [e]; rfl)) (fun x hx => (hall x hx).2)
      have HJN := Lib.hid hjn
      have HSPL := Lib.hid hspl
      have hb0 := (HB.out.alloc HB.out.size (.cells #[.int .u8 (c : Nat)] 5))
      have HB0 := Lib.hid hb0
      clear hjn hspl hall hb0 HK
      unfold JnP at HJN
      go_upto_region 9 with (go_at_call 9; refine (HJN.out _ ((Below.refl _ _).alloc (Nat.le_refl _) _)).mono ?_; rintro e w2 ⟨b2, ⟨hle, rfl⟩ | ⟨hgt, rfl⟩⟩)
      · have HB2 := Lib.hid (HB0.out.trans (b2.mono HB0.out.size))
        obtain ⟨J, hJ⟩ : ∃ J, (⟨(jt l D).toArray⟩ : ByteArray) = J := ⟨_, rfl⟩
        have hJt : tl J = jt l D := by rw [← hJ]; exact tl_mk _
        have hJs : J.size ≤ 1000000000 := by rw [← tl_len, hJt]; omega
        rw [hJ]
        have hsp := fun wx (hb : Below w2.heap.size w2 wx) => split_any J D wx hJs (by omega) (HT.out.on (HB2.out.trans (hb.mono HB2.out.size)))
        have hlJ := HSPL.out J hJt
        unfold SpP at hsp
        rw [hlJ] at hsp
        have HSP := Lib.hid hsp
        clear hJ hJt hJs hlJ hsp hle b2
        have hb3 := (HB2.out.alloc HB2.out.size (.cells #[.int .u8 (c : Nat)] 5))
        have HB3 := Lib.hid hb3
        clear hb3
        go_upto_region 12 with (go_at_call 14; refine (HSP.out _ ((Below.refl _ _).alloc (Nat.le_refl _) _)).mono ?_; rintro e w3 ⟨b3, ⟨_, v, rfl, hv3⟩ | ⟨hgt, rfl⟩⟩)
        · have HB4 := Lib.hid (HB3.out.trans (b3.mono HB3.out.size))
          obtain ⟨ao2, cap2, rfl, _, h6⟩ := hv3
          have H6 := Lib.hid h6
          clear h6 b3
          go_upto_region 15 with (fail)
          go_loopw [10] (fun i wx => ∃ k : Nat, i = .int .i64 k ∧ k ≤ l.length ∧ Hid (Below w3.heap.size w3 wx)) (fun i _ => l.length - (intOf i).toNat)
          case atStart => exact ⟨0, rfl, by omega, Lib.hid (Below.refl _ _)⟩
          case round =>
            obtain ⟨k, rfl, hk, HB5⟩ := hrel
            by_cases hlt : k < l.length
            · obtain ⟨x, hx⟩ : ∃ x, l[k]? = some x := ⟨_, List.getElem?_eq_getElem hlt⟩
              obtain ⟨g1, o1, rfl, hg1, hc1⟩ := H.out (by omega)
              obtain ⟨g2, o2, rfl, hg2, hc2⟩ := H6.out (by omega)
              have e1 : wr.cell? ⟨g1, o1 + k, none⟩ = some (.string x) := (HB5.out.cell (p := ⟨g1, o1 + k, none⟩) (Nat.lt_of_lt_of_le hg1 HB4.out.size)).trans ((HB4.out.cell (p := ⟨g1, o1 + k, none⟩) hg1).trans (hc1 k x hx))
              have e2 : wr.cell? ⟨g2, o2 + k, none⟩ = some (.string x) := (HB5.out.cell (p := ⟨g2, o2 + k, none⟩) hg2).trans (hc2 k x hx)
              have i1 : (k : Int) < (l.length : Int) := by omega
              have hself := self_eq x
              clear hc1 hc2 hx
              go_wp2
              go_quiet (fail)
              go_wp2
              go_roundw
              case rel => exact ⟨k + 1, by go_num, by omega, Lib.hid (Ut.bel_drewN HB5.out _)⟩
              case measure => simp [intOf]; omega
            · have hb6 := HB4.out.trans (HB5.out.mono HB4.out.size)
              have HB6 := Lib.hid hb6
              clear hb6
              go_wp2_with (go_at_call 8; refine (lives_any _ (HT.out.on HB6.out)).mono ?_; rintro e w6 ⟨rfl, b6⟩)
              go_ret
              exact ⟨rfl, HB6.out.trans (b6.mono HB6.out.size)⟩
        · omega
      · have HB2 := Lib.hid (HB0.out.trans (b2.mono HB0.out.size))
        clear b2
        go_wp2_with (go_at_call 8; refine (lives_any _ (HT.out.on HB2.out)).mono ?_; rintro e w4 ⟨rfl, b4⟩)
        go_ret
        exact ⟨rfl, HB2.out.trans (b4.mono HB2.out.size)⟩
end Wd
end Go.Proofs.YtpelajhdcbemnaaDoor
