/- UtfTexts walked: it answers true for every string and number. -/
import Derived.Test.YtbolnciofcmoaaaUtLives
import Derived.Deep.DeepCutAuto
namespace Go.Proofs.Ytbolnciofcmoaaa
open Go.RowKit
namespace Ut
theorem own_below {w w' : World} {B e z n : Nat} {v : Value} {xs : List Value} (hb : Below w.heap.size w w') (h : w.ownsRow B e z v n xs) : w'.ownsRow B e z v n xs := by
  refine ⟨h.1, ?_⟩
  rcases h.2 with h0 | ⟨g, cap, cur, hv, hB, hg, rest⟩
  · exact .inl h0
  · exact .inr ⟨g, cap, cur, hv, hB, (hb.block g (Array.getElem?_eq_some_iff.1 hg).1).trans hg, rest⟩
/-- a row of ints, its length in sight -/
theorem form_row {w : World} {B : Nat} {v : Value} {cs : List Nat} (h : w.ownsRow B 3 1 v cs.length (inl cs)) :
    ∃ ao cap, v = .slice ao cs.length cap ∧ (0 < cs.length → ∃ g, ao = some ⟨g, 0, none⟩ ∧ g < w.heap.size ∧ ∀ (j : Nat) u, (inl cs)[j]? = some u → w.cell? ⟨g, j, none⟩ = some u) := by
  rcases h.2 with ⟨rfl, hz⟩ | ⟨g, cap, cur, rfl, _, hgg, _⟩
  · exact ⟨none, 0, by rw [hz], fun h0 => by omega⟩
  · refine ⟨_, cap, rfl, fun _ => ⟨g, rfl, (Array.getElem?_eq_some_iff.1 hgg).1, fun j u hj => ?_⟩⟩
    have := h.cells rfl j u hj
    have hadd : (⟨g, 0, none⟩ : Addr).add j = ⟨g, j, none⟩ := by unfold Addr.add; split <;> simp_all
    rw [hadd] at this
    exact this
theorem inl_get {cs : List Nat} {k c : Nat} (h : cs[k]? = some c) : (inl cs)[k]? = some (.int .i64 (c : Nat)) := by unfold inl; rw [List.getElem?_map, h]; rfl
theorem rsigns_form (s : ByteArray) (w : World) (hs : s.size ≤ 1000000000) : Calls Try.prog 9 #[.string s] w fun e w' => ∃ ao cap, e = .returned (.tuple #[.slice ao (sgsOf s).length cap, .bool (vldB (byt s))]) ∧
    (0 < (sgsOf s).length → ∃ g, ao = some ⟨g, 0, none⟩ ∧ g < w'.heap.size ∧ ∀ (j : Nat) u, (inl (sgsOf s))[j]? = some u → w'.cell? ⟨g, j, none⟩ = some u) ∧ Below w.heap.size w w' := by
  refine (rsigns_any s w hs).mono ?_
  rintro e w' ⟨v, rfl, ho, hb⟩
  obtain ⟨ao, cap, rfl, h⟩ := form_row ho
  exact ⟨ao, cap, rfl, h, hb⟩
/-- how far the loop has come -/
structure TxRel (cs : List Nat) (w : World) (k : Nat) (v : Value) (wr : World) : Prop where
  buf : Buf w.heap.size wr v (puts (cs.take k))
  bel : Below w.heap.size w wr
theorem TxRel.next {cs : List Nat} {w wr w' : World} {k c : Nat} {v v' : Value} (h : TxRel cs w k v wr) (hc : cs[k]? = some c) (hg : Grew w.heap.size wr w' v' (puts (cs.take k) ++ put c)) : TxRel cs w (k + 1) v' w' := by
  refine ⟨?_, h.bel.trans hg.bel⟩
  rw [List.take_add_one, hc, Option.toList_some, puts_snoc]
  exact hg.buf
theorem puts_le (cs : List Nat) : (puts cs).length ≤ 4 * cs.length := by
  induction cs with
  | nil => simp [puts]
  | cons c cs ih =>
    have := put_len c
    rw [puts_cons, List.length_append, List.length_cons]; omega
set_option maxRecDepth 100000 in
set_option maxHeartbeats 4000000 in
theorem utfTexts_any (s : ByteArray) (n : Int) (w : World) (hs : s.size ≤ maxLen) (hn1 : -9223372036854775808 ≤ n) (hn2 : n ≤ 9223372036854775807) : Calls Try.prog 3 #[.string s, .int .i64 n] w fun e w' => e = .returned (.bool true) ∧ Below w.heap.size w w' := by
  have hs' := hs
  unfold maxLen at hs
  obtain ⟨i0, hi, hz0, hz1, hz2⟩ := info_parts info_b
  by_cases h2 : 2000 < s.size
  · go_enter Try.func3, Try.ntmps3
    go_wp2_with (go_at_call 8; refine (lives_any _).mono ?_; rintro e w1 ⟨rfl, b1⟩)
    go_ret
    exact ⟨rfl, b1⟩
  have hrs := fun w => rsigns_form s w (by omega)
  have hvl := fun w => valid_any s w hs'
  have hsn := fun w => signs_any s w hs'
  have hfs := fun w => first_any s n w hs' hn2
  have hsg := sgsOf_sg s
  have hln := sgsOf_len s
  have hfr : frst s n = puts ((sgsOf s).take n.toNat) := rfl
  generalize frst s n = T at hfs hfr
  generalize sgsOf s = cs at hrs hsn hsg hln hfr
  generalize vldB (byt s) = q at hrs hvl
  have HFR := Lib.hid hfr
  have HSG := Lib.hid hsg
  clear hfr hsg hs'
  have hqq : (q == q) = true := by simp
  have hTT := str_self (str T)
  go_enter Try.func3, Try.ntmps3
  go_wp2_with (go_at_call 9; refine (hrs _).mono ?_; rintro e w2 ⟨ao, cap, rfl, ho, b2⟩)
  have HB2 := Lib.hid b2
  have HO := Lib.hid ho
  clear b2 ho
  go_loopw [7, 8] (fun v i wr => ∃ k : Nat, i = .int .i64 k ∧ k ≤ cs.length ∧ (k = 0 ∨ (k : Int) ≤ n) ∧ TxRel cs w2 k v wr) (fun _ i _ => cs.length - (intOf i).toNat)
  case atStart => exact ⟨0, rfl, by omega, .inl rfl, ⟨World.ownsRow_nil _ _ _ _, Nat.le_refl _⟩, Below.refl _ _⟩
  case round =>
    obtain ⟨k, rfl, hk, hkn, hr⟩ := hrel
    have HR := Lib.hid hr
    clear hr
    have hpl := puts_le (cs.take k)
    rw [List.length_take] at hpl
    by_cases hlt : k < cs.length ∧ (k : Int) < n
    · obtain ⟨hlt, hltn⟩ := hlt
      obtain ⟨g, rfl, hg, hcell⟩ := HO.out (by omega)
      obtain ⟨c, hc⟩ : ∃ c, cs[k]? = some c := ⟨cs[k], List.getElem?_eq_getElem hlt⟩
      have HC := Lib.hid hc
      have hsg : Sg c := HSG.out c (List.mem_of_getElem? hc)
      have hcl : wr.cell? ⟨g, k, none⟩ = some (.int .i64 (c : Nat)) := by
        rw [HR.out.bel.cell (p := ⟨g, k, none⟩) hg]
        exact hcell k _ (inl_get hc)
      clear hc hcell
      have hsg' := hsg
      unfold Sg at hsg'
      have hpa := fun w => put_any c w (by omega)
      have hpl2 := put_len c
      obtain ⟨p, hp⟩ : ∃ p, put c = p := ⟨_, rfl⟩
      rw [hp] at hpa hpl2
      have HP := Lib.hid hp
      clear hp hkn
      go_wp2_with (first | (go_at_call 10; refine (hpa _).mono ?_; rintro e w' ⟨rfl, rfl⟩) | (at_builtin; refine wpList_append_own _ rfl _ _ 26 rfl w2.heap.size 5 i0 (.int .u8 0) 1 1 Try.underlying26 hi hz0 hz1 hz2 rfl (by decide) _ _ _ rfl (HR.out.buf.own.alloc _) ⟨wr.heap.size, 0, none⟩ p.length p.length (cel p) rfl (by rw [cel_len]; omega) ?p1 ?p2 ?p3 ?p4 ?p5 ?p6))
      case p1 => exact cells_put wr _
      case p2 => exact cel_one _
      case p3 => unfold maxLen; omega
      case p4 => omega
      case p5 => have := HR.out.buf.le; simp; omega
      case p6 =>
        intro v' w3 hown' hgrow _
        go_wp2
        go_roundw
        case rel => exact ⟨k + 1, by go_num, by omega, .inr (by omega), HR.out.next HC.out (by rw [HP.out]; exact HR.out.buf.grew rfl hown' hgrow)⟩
        case measure => simp [intOf]; omega
    · have hbf := HR.out.buf
      have e1 : cs.take k = cs.take n.toNat := by
        by_cases e : k < cs.length
        · congr 1; omega
        · rw [List.take_of_length_le (by omega), List.take_of_length_le (by omega)]
      rw [e1, ← HFR.out] at hbf
      have HBF := Lib.hid hbf
      clear hbf e1
      go_upto_region 6 with (fail)
      go_cut [26] (fun s26 wx => wr = wx ∧ s26 = .bool false)
      case first =>
        by_cases e : k < cs.length
        · have e2 : n ≤ (k : Int) := by omega
          go_wp2
          go_meet
          exact ⟨rfl, by simp; omega⟩
        · go_wp2
          go_meet
          exact ⟨rfl, rfl⟩
      case rest =>
      obtain ⟨rfl, rfl⟩ := hcut
      clear hlt
      go_upto_region 9 with (fail)
      refine wp_region_held_drew (S := fun w' => Below wr.heap.size wr w') (by kernel_rfl) (Below.refl _ _).drew (fun hHeld => ?_)
      refine take_put (i := 0) (d := 36) (oi := _) (v := ?v0) rfl rfl (by kernel_rfl) (by kernel_rfl) (by kernel_rfl) (fun _ _ _ h => h) (Or.inl ⟨by rfl, ?y0⟩) hHeld ?r0
      case y0 => (intro w hSw; (try dsimp only at hSw); go_simp; try with_reducible rfl)
      simp only [Act.put, List.setIfInBounds_toArray, List.set_cons_zero, List.set_cons_succ]
      refine take_put (i := 2) (d := 38) (oi := _) (v := ?v2) rfl rfl (by kernel_rfl) (by kernel_rfl) (by kernel_rfl) (fun _ _ _ h => h) (Or.inl ⟨by rfl, ?y2⟩) hHeld ?r2
      case y2 => (intro w hSw; (try dsimp only at hSw); go_simp; try with_reducible rfl)
      simp only [Act.put, List.setIfInBounds_toArray, List.set_cons_zero, List.set_cons_succ]
      refine wpAnyH_ready (rs := [1]) (by kernel_rfl) (by simp) (AllReadyH.cons (o := _) rfl (fun K hK => ?_) AllReadyH.nil)
      go_simp
      refine (hvl _).mono ?_
      rintro e w' ⟨rfl, rfl⟩
      (try dsimp only)
      refine hK.out _ _ hHeld (fun hHeld => ?_)
      clear hK K
      refine take_put (i := 3) (d := 39) (oi := _) (v := ?v3) rfl rfl (by kernel_rfl) (by kernel_rfl) (by kernel_rfl) (fun _ _ _ h => h) (Or.inl ⟨by rfl, ?y3⟩) hHeld ?r3
      case y3 => (intro w hSw; (try dsimp only at hSw); go_simp; try with_reducible rfl)
      simp only [Act.put, List.setIfInBounds_toArray, List.set_cons_zero, List.set_cons_succ]
      refine take_put (i := 4) (d := 40) (oi := _) (v := ?v4) rfl rfl (by kernel_rfl) (by kernel_rfl) (by kernel_rfl) (fun _ _ _ h => h) (Or.inl ⟨by rfl, ?y4⟩) hHeld ?r4
      case y4 => (intro w hSw; (try dsimp only at hSw); go_simp; try with_reducible rfl)
      simp only [Act.put, List.setIfInBounds_toArray, List.set_cons_zero, List.set_cons_succ]
      refine take_put (i := 5) (d := 41) (oi := _) (v := ?v5) rfl rfl (by kernel_rfl) (by kernel_rfl) (by kernel_rfl) (fun _ _ _ h => h) (Or.inl ⟨by rfl, ?y5⟩) hHeld ?r5
      case y5 => (intro w hSw; (try dsimp only at hSw); go_simp; try with_reducible rfl)
      simp only [Act.put, List.setIfInBounds_toArray, List.set_cons_zero, List.set_cons_succ]
      refine take_put (i := 7) (d := 43) (oi := _) (v := ?v7) rfl rfl (by kernel_rfl) (by kernel_rfl) (by kernel_rfl) (fun _ _ _ h => h) (Or.inl ⟨by rfl, ?y7⟩) hHeld ?r7
      case y7 => (intro w hSw; (try dsimp only at hSw); go_simp; try with_reducible rfl)
      simp only [Act.put, List.setIfInBounds_toArray, List.set_cons_zero, List.set_cons_succ]
      refine take_put (i := 8) (d := 44) (oi := _) (v := ?v8) rfl rfl (by kernel_rfl) (by kernel_rfl) (by kernel_rfl) (fun _ _ _ h => h) (Or.inl ⟨by rfl, ?y8⟩) hHeld ?r8
      case y8 => (intro w hSw; (try dsimp only at hSw); go_simp; try with_reducible rfl)
      simp only [Act.put, List.setIfInBounds_toArray, List.set_cons_zero, List.set_cons_succ]
      refine wpAnyH_ready (rs := [6]) (by kernel_rfl) (by simp) (AllReadyH.cons (o := _) rfl (fun K hK => ?_) AllReadyH.nil)
      go_simp
      refine (hsn _).mono ?_
      rintro e w5 ⟨rfl, b5⟩
      (try dsimp only)
      refine hK.out _ _ (hHeld.trans (b5.mono hHeld.size)) (fun hHeld => ?_)
      clear hK K
      refine take_put (i := 9) (d := 45) (oi := _) (v := ?v9) rfl rfl (by kernel_rfl) (by kernel_rfl) (by kernel_rfl) (fun _ _ _ h => h) (Or.inl ⟨by rfl, ?y9⟩) hHeld ?r9
      case y9 => (intro w hSw; (try dsimp only at hSw); go_simp; try with_reducible rfl)
      simp only [Act.put, List.setIfInBounds_toArray, List.set_cons_zero, List.set_cons_succ]
      refine take_put (i := 10) (d := 46) (oi := _) (v := ?v10) rfl rfl (by kernel_rfl) (by kernel_rfl) (by kernel_rfl) (fun _ _ _ h => h) (Or.inl ⟨by rfl, ?y10⟩) hHeld ?r10
      case y10 => (intro w hSw; (try dsimp only at hSw); go_simp; try with_reducible rfl)
      simp only [Act.put, List.setIfInBounds_toArray, List.set_cons_zero, List.set_cons_succ]
      refine take_put (i := 11) (d := 47) (oi := _) (v := ?v11) rfl rfl (by kernel_rfl) (by kernel_rfl) (by kernel_rfl) (fun _ _ _ h => h) (Or.inl ⟨by rfl, ?y11⟩) hHeld ?r11
      case y11 => (intro w hSw; (try dsimp only at hSw); go_simp; try with_reducible rfl)
      simp only [Act.put, List.setIfInBounds_toArray, List.set_cons_zero, List.set_cons_succ]
      refine take_put (i := 12) (d := 48) (oi := _) (v := ?v12) rfl rfl (by kernel_rfl) (by kernel_rfl) (by kernel_rfl) (fun _ _ _ h => h) (Or.inl ⟨by rfl, ?y12⟩) hHeld ?r12
      case y12 => (intro w hSw; (try dsimp only at hSw); go_simp; try with_reducible rfl)
      simp only [Act.put, List.setIfInBounds_toArray, List.set_cons_zero, List.set_cons_succ]
      refine take_put (i := 13) (d := 49) (oi := _) (v := ?v13) rfl rfl (by kernel_rfl) (by kernel_rfl) (by kernel_rfl) (fun _ _ _ h => h) (Or.inl ⟨by rfl, ?y13⟩) hHeld ?r13
      case y13 => (intro w hSw; (try dsimp only at hSw); go_simp; try with_reducible rfl)
      simp only [Act.put, List.setIfInBounds_toArray, List.set_cons_zero, List.set_cons_succ]
      refine take_put (i := 15) (d := 51) (oi := _) (v := ?v15) rfl rfl (by kernel_rfl) (by kernel_rfl) (by kernel_rfl) (fun _ _ _ h => h) (Or.inl ⟨by rfl, ?y15⟩) hHeld ?r15
      case y15 => (intro w hSw; (try dsimp only at hSw); go_simp; try with_reducible rfl)
      simp only [Act.put, List.setIfInBounds_toArray, List.set_cons_zero, List.set_cons_succ]
      refine take_put (i := 16) (d := 52) (oi := _) (v := ?v16) rfl rfl (by kernel_rfl) (by kernel_rfl) (by kernel_rfl) (fun _ _ _ h => h) (Or.inl ⟨by rfl, ?y16⟩) hHeld ?r16
      case y16 => (intro w hSw; (try dsimp only at hSw); have hcv := conv_own (own_below hSw HBF.out.own); go_simp; try with_reducible rfl)
      simp only [Act.put, List.setIfInBounds_toArray, List.set_cons_zero, List.set_cons_succ]
      refine wpAnyH_ready (rs := [14]) (by kernel_rfl) (by simp) (AllReadyH.cons (o := _) rfl (fun K hK => ?_) AllReadyH.nil)
      go_simp
      refine (hfs _).mono ?_
      rintro e w6 ⟨rfl, b6⟩
      (try dsimp only)
      refine hK.out _ _ (hHeld.trans (b6.mono hHeld.size)) (fun hHeld => ?_)
      clear hK K
      refine take_put (i := 17) (d := 53) (oi := _) (v := ?v17) rfl rfl (by kernel_rfl) (by kernel_rfl) (by kernel_rfl) (fun _ _ _ h => h) (Or.inl ⟨by rfl, ?y17⟩) hHeld ?r17
      case y17 => (intro w hSw; (try dsimp only at hSw); go_simp; try with_reducible rfl)
      simp only [Act.put, List.setIfInBounds_toArray, List.set_cons_zero, List.set_cons_succ]
      refine take_put (i := 18) (d := 54) (oi := _) (v := ?v18) rfl rfl (by kernel_rfl) (by kernel_rfl) (by kernel_rfl) (fun _ _ _ h => h) (Or.inl ⟨by rfl, ?y18⟩) hHeld ?r18
      case y18 => (intro w hSw; (try dsimp only at hSw); go_simp; try with_reducible rfl)
      simp only [Act.put, List.setIfInBounds_toArray, List.set_cons_zero, List.set_cons_succ]
      refine take_put (i := 19) (d := 55) (oi := _) (v := ?v19) rfl rfl (by kernel_rfl) (by kernel_rfl) (by kernel_rfl) (fun _ _ _ h => h) (Or.inl ⟨by rfl, ?y19⟩) hHeld ?r19
      case y19 => (intro w hSw; (try dsimp only at hSw); go_simp; try with_reducible rfl)
      simp only [Act.put, List.setIfInBounds_toArray, List.set_cons_zero, List.set_cons_succ]
      refine wpAnyH_ready (rs := [20]) (by kernel_rfl) (by simp) (AllReadyH.cons (o := _) rfl (fun K hK => ?_) AllReadyH.nil)
      go_simp
      refine (lives_any _).mono ?_
      rintro e w7 ⟨rfl, b7⟩
      (try dsimp only)
      refine hK.out _ _ (hHeld.trans (b7.mono hHeld.size)) (fun hHeld => ?_)
      clear hK K
      refine take_put (i := 21) (d := 57) (oi := _) (v := ?v21) rfl rfl (by kernel_rfl) (by kernel_rfl) (by kernel_rfl) (fun _ _ _ h => h) (Or.inl ⟨by rfl, ?y21⟩) hHeld ?r21
      case y21 => (intro w hSw; (try dsimp only at hSw); go_simp; try with_reducible rfl)
      simp only [Act.put, List.setIfInBounds_toArray, List.set_cons_zero, List.set_cons_succ]
      refine take_put (i := 22) (d := 4) (oi := _) (v := ?v22) rfl rfl (by kernel_rfl) (by kernel_rfl) (by kernel_rfl) (fun _ _ _ h => h) (Or.inl ⟨by rfl, ?y22⟩) hHeld ?r22
      case y22 => (intro w hSw; (try dsimp only at hSw); go_simp; try with_reducible rfl)
      simp only [Act.put, List.setIfInBounds_toArray, List.set_cons_zero, List.set_cons_succ]
      refine wpAnyH_done (by kernel_rfl) ?_ _
      go_wp2
      go_ret
      exact ⟨rfl, (HB2.out.trans (HR.out.bel.mono HB2.out.size)).trans (hHeld.mono (Nat.le_trans HB2.out.size HR.out.bel.size))⟩
end Ut
end Go.Proofs.Ytbolnciofcmoaaa
