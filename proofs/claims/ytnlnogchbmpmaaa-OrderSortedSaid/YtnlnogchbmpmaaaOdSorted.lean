/- OrderSorted answers true for every list of values. -/
import Derived.Test.YtnlnogchbmpmaaaOdSort2
namespace Go.Proofs.Ytnlnogchbmpmaaa
open Go.RowKit
namespace Od
open _root_.Go.Proofs.Ytnlnogchbmpmaaa.Nm _root_.Go.Proofs.Ytnlnogchbmpmaaa.Jv
/-- how often a value stands in a list -/
noncomputable def cntS (ts : List JV) (u : JV) : Nat := ts.countP (fun t => sameB t u)
theorem cntS_perm {ts us : List JV} (h : ts.Perm us) (u : JV) : cntS ts u = cntS us u := h.countP_eq _
theorem cntS_step {ts : List JV} {j : Nat} {t u : JV} (h : ts[j]? = some t) : cntS (ts.take (j + 1)) u = cntS (ts.take j) u + if sameB t u = true then 1 else 0 := by
  unfold cntS
  rw [List.take_add_one, h, Option.toList_some, List.countP_append, List.countP_singleton]
/-- what count answers -/
def CtP (w : World) (k : Nat) (e : Ending) (w' : World) : Prop := e = .returned (.int .i64 (k : Nat)) ∧ Below w.heap.size w w'
set_option maxRecDepth 100000 in
set_option maxHeartbeats 4000000 in
theorem count_any (v : Value) (l : List Six) (ts : List JV) (x : Six) (u : JV) (m : Nat) (w : World) (hv : Vs w v l) (hl : l.length = ts.length) (ht : ∀ (j : Nat) (y : Six) (z : JV), l[j]? = some y → ts[j]? = some z → ∃ n, VT w n y z) (hx : VT w m x u) :
    Calls Try.prog 28 #[v, x.val] w (CtP w (cntS ts u)) := by
  have hm1 : l.length ≤ maxLen := by obtain ⟨_, _, q1, q2, q3, _⟩ := hv; omega
  unfold maxLen at hm1
  obtain ⟨ao, cap, rfl, hc, h⟩ := hv.form
  have H := Lib.hid h
  have HL := Lib.hid hl
  have HT := Lib.hid ht
  have HX := Lib.hid hx
  obtain ⟨K, hK⟩ : ∃ K, cntS ts u = K := ⟨_, rfl⟩
  rw [hK]
  have HK := Lib.hid hK
  clear h hl ht hx hv hK
  unfold Six.val vV
  go_enter Try.func28, Try.ntmps28
  go_wp2
  go_loopw [5, 6] (fun kv iv wr => ∃ j k : Nat, iv = .int .i64 (j : Nat) ∧ kv = .int .i64 (k : Nat) ∧ j ≤ l.length ∧ k ≤ j ∧ Hid (k = cntS (ts.take j) u) ∧ Hid (Vb wr w.heap.size #[.int .i64 x.k, .int .i64 x.c, .int .i64 x.s, .string x.st, x.iv, x.kv]) ∧ Hid (Below w.heap.size w wr)) (fun _ iv _ => l.length - (intOf iv).toNat)
  case atStart => exact ⟨0, 0, rfl, rfl, by omega, by omega, Lib.hid (by simp [cntS]), Lib.hid (Vb.new w _), Lib.hid (bA1 _ _)⟩
  case round =>
    obtain ⟨j, k, rfl, rfl, hj, hk, HA, HV, HB⟩ := hrel
    obtain ⟨x0, x1, x2, x3, x4, x5⟩ := HV.out.six
    by_cases hlt : j < l.length
    · obtain ⟨y1, hy1⟩ : ∃ x, l[j]? = some x := ⟨_, List.getElem?_eq_getElem hlt⟩
      obtain ⟨t1, ht1⟩ : ∃ x, ts[j]? = some x := ⟨_, List.getElem?_eq_getElem (by have := HL.out; omega)⟩
      obtain ⟨g, o, rfl, hg, hcl⟩ := H.out (by omega)
      have A1 := (hcl j y1 hy1).on hg HB.out
      obtain ⟨n, hvt⟩ := HT.out j y1 t1 hy1 ht1
      have hsm := rsame_any n m y1 x t1 u wr.drew (VT.on HB.out.drew n hvt) (VT.on HB.out.drew m HX.out)
      have hst := cntS_step (u := u) ht1
      obtain ⟨k1, k2, k3, k4, k5, k6⟩ := y1
      obtain ⟨c0, c1, c2, c3, c4, c5⟩ := A1
      simp only at c0 c1 c2 c3 c4 c5
      unfold Six.val vV at hsm
      simp only at hsm
      have i1 : (j : Int) < (l.length : Int) := by omega
      clear hcl hy1 ht1 hvt H
      cases hr : sameB t1 u
      · rw [hr] at hsm hst
        have HA' : Hid (k = cntS (ts.take (j + 1)) u) := Lib.hid (by rw [hst, ← HA.out]; rfl)
        have HSM := Lib.hid hsm
        clear hr hsm hst HA
        go_wp2
        go_still_tail 5, (by kernel_rfl)
        change wpList _ _ _ _ _ wr.drew
        go_wp2_with (go_at_call 15; refine HSM.out.mono ?_; rintro e w1 ⟨rfl, b1⟩; have HB1 := Lib.hid (bT HB.out.drew b1); have HV1 := Lib.hid ((HV.out.on (Below.refl _ _).drew).on b1); clear b1)
        go_roundw
        case rel => exact ⟨j + 1, k, by go_num, rfl, by omega, by omega, HA', HV1, HB1⟩
        case measure => simp [intOf]; omega
      · rw [hr] at hsm hst
        have HA' : Hid (k + 1 = cntS (ts.take (j + 1)) u) := Lib.hid (by rw [hst, ← HA.out]; rfl)
        have HSM := Lib.hid hsm
        clear hr hsm hst HA
        go_wp2
        go_still_tail 5, (by kernel_rfl)
        change wpList _ _ _ _ _ wr.drew
        go_wp2_with (go_at_call 15; refine HSM.out.mono ?_; rintro e w1 ⟨rfl, b1⟩; have HB1 := Lib.hid (bT HB.out.drew b1); have HV1 := Lib.hid ((HV.out.on (Below.refl _ _).drew).on b1); clear b1)
        go_roundw
        case rel => exact ⟨j + 1, k + 1, by go_num, by go_num, by omega, by omega, HA', HV1, HB1⟩
        case measure => simp [intOf]; omega
    · have hq : k = K := by rw [HA.out, List.take_of_length_le (by have := HL.out; omega), HK.out]
      subst hq
      clear HA
      go_wp2
      go_ret
      exact ⟨rfl, HB.out⟩
set_option maxRecDepth 100000 in
set_option maxHeartbeats 16000000 in
theorem sorted_any (v : Value) (l : List Six) (ts : List JV) (w : World) (hv : Vs w v l) (hl : l.length = ts.length) (ht : ∀ (j : Nat) (y : Six) (z : JV), l[j]? = some y → ts[j]? = some z → ∃ n, VT w n y z) :
    Calls Try.prog 9 #[v] w fun e w' => e = .returned (.bool true) ∧ Below w.heap.size w w' := by
  have hm1 : l.length ≤ maxLen := by obtain ⟨_, _, q1, q2, q3, _⟩ := hv; omega
  unfold maxLen at hm1
  have hlg := light07_any v l ts w hv hl ht
  have hso := fun wx (h : Below w.heap.size w wx) (hn : l.length ≤ 12) => sort_any v l ts wx (hv.on h) hl (fun j y z h1 h2 => by obtain ⟨n, hh⟩ := ht j y z h1 h2; exact ⟨n, VT.on h n hh⟩) hn
  have hct := fun wx (h : Below w.heap.size w wx) (x : Six) (u : JV) (m : Nat) (hx : VT wx m x u) => count_any v l ts x u m wx (hv.on h) hl (fun j y z h1 h2 => by obtain ⟨n, hh⟩ := ht j y z h1 h2; exact ⟨n, VT.on h n hh⟩) hx
  obtain ⟨bo, bcap, rfl, _, _⟩ := hv.form
  have HLG := Lib.hid hlg
  have HSO := Lib.hid hso
  have HCT := Lib.hid hct
  have HL := Lib.hid hl
  clear hlg hso hct hl ht hv
  go_enter Try.func9, Try.ntmps9
  go_upto_if 10 with (go_at_call 19; refine HLG.out.mono ?_; rintro e w1 ⟨lb, rfl, hlb, b1⟩; have HLB := Lib.hid hlb; have HB1 := Lib.hid b1; clear hlb b1)
  cases lb with
  | false =>
    go_wp2_with (go_at_call 20; refine (lives07_any _).mono ?_; rintro e w9 ⟨rfl, b9⟩)
    go_ret
    exact ⟨rfl, bT HB1.out b9⟩
  | true =>
  have hn12 := HLB.out rfl
  have HSO1 := Lib.hid (HSO.out w1 HB1.out hn12)
  clear HSO HLG HLB
  go_upto_region 4 with (go_at_call 23; refine HSO1.out.mono ?_; rintro e w2 ⟨ao, n, cap, ok, rfl, hsr⟩; have HSR := Lib.hid hsr; clear hsr)
  have HB2 := Lib.hid (bT HB1.out HSR.out.1)
  cases ok with
  | false =>
    have he := HSR.out.2.1 rfl
    injection he with e1 e2 e3
    subst e1 e2 e3
    clear HSR HSO1
    go_wp2_with (go_at_call 20; refine (lives07_any _).mono ?_; rintro e w9 ⟨rfl, b9⟩)
    go_ret
    exact ⟨rfl, bT HB2.out b9⟩
  | true =>
  obtain ⟨l', ts', hv', hl', ht', hp, hch, _⟩ := HSR.out.2.2.2 rfl
  have hll : l'.length = l.length := by rw [hl', hp.length_eq]; exact HL.out.symm
  have hct2 := fun wx (h : Below w2.heap.size w2 wx) (x : Six) (u : JV) (m : Nat) (hx : VT wx m x u) => count_any (.slice ao n cap) l' ts' x u m wx (hv'.on h) hl' (fun j y z h1 h2 => by obtain ⟨n, hh⟩ := ht' j y z h1 h2; exact ⟨n, VT.on h n hh⟩) hx
  obtain ⟨ao', cap', he, hlc, hcl0⟩ := hv'.form
  injection he with e1 e2 e3
  subst e1 e2 e3
  have H := Lib.hid hcl0
  have HT := Lib.hid ht'
  have HC := Lib.hid hch
  have HLT := Lib.hid hl'
  have HCT2 := Lib.hid hct2
  have HP := Lib.hid hp
  have HLL := Lib.hid hll
  have hl12 : l'.length ≤ 12 := by omega
  have hq1 : ((l'.length : Int) == (l.length : Int)) = true := by rw [hll]; simp
  have hq2 : l'.length ≤ l.length := by omega
  have hq3 : l.length ≤ l'.length := by omega
  clear hcl0 ht' hch hl' hct2 hp hll HSR HSO1 hv'
  go_wp2
  go_loopw [5] (fun iv wr => ∃ j : Nat, iv = .int .i64 (j : Nat) ∧ j ≤ l'.length ∧ Hid (Below w2.heap.size w2 wr)) (fun iv _ => l'.length - (intOf iv).toNat)
  case atStart => exact ⟨0, rfl, by omega, Lib.hid (Below.refl _ _)⟩
  case round =>
    obtain ⟨j, rfl, hj, HB⟩ := hrel
    by_cases hlt : j < l'.length
    · skip
      obtain ⟨g, o, rfl, hg, hcl⟩ := H.out (by omega)
      obtain ⟨y1, hy1⟩ : ∃ x, l'[j]? = some x := ⟨_, List.getElem?_eq_getElem hlt⟩
      obtain ⟨t1, ht1⟩ : ∃ x, ts'[j]? = some x := ⟨_, List.getElem?_eq_getElem (by have := HLT.out; omega)⟩
      obtain ⟨n1, hv1⟩ := HT.out j y1 t1 hy1 ht1
      have H6 := Lib.hid (fun wx (h : Below w2.heap.size w2 wx) => (hcl j y1 hy1).on hg h)
      have hk1 := fun wx (h : Below w2.heap.size w2 wx) => HCT2.out wx h y1 t1 n1 (VT.on h n1 hv1)
      have hk2 := fun wx (h : Below w2.heap.size w2 wx) => HCT.out wx (bT HB2.out h) y1 t1 n1 (VT.on h n1 hv1)
      rw [cntS_perm HP.out t1] at hk1
      obtain ⟨K, hK⟩ : ∃ K, cntS ts t1 = K := ⟨_, rfl⟩
      rw [hK] at hk1 hk2
      have i1 : (j : Int) < (l'.length : Int) := by omega
      cases j with
      | zero =>
        obtain ⟨k1, k2, k3, k4, k5, k6⟩ := y1
        unfold Six.val vV at hk1 hk2
        simp only at hk1 hk2
        have HK1 := Lib.hid hk1
        have HK2 := Lib.hid hk2
        have A1 := H6.out wr HB.out
        obtain ⟨c0, c1, c2, c3, c4, c5⟩ := A1
        simp only [Nat.zero_mul, Nat.add_zero] at c0 c1 c2 c3 c4 c5
        clear hk1 hk2 hK hv1 hy1 ht1 hcl H
        go_upto_region 13 with (fail)
        have hS8 : Sx wr.heap.size wr [(⟨g, o, none⟩, (.int .i64 k1)), (⟨g, o + 1, none⟩, (.int .i64 k2)), (⟨g, o + 2, none⟩, (.int .i64 k3)), (⟨g, o + 3, none⟩, (.string k4)), (⟨g, o + 4, none⟩, k5), (⟨g, o + 5, none⟩, k6)] (wr) := by
          refine ⟨Below.refl _ _, ?_⟩
          intro t ht
          simp only [List.mem_cons, List.not_mem_nil, or_false] at ht
          rcases ht with rfl | rfl | rfl | rfl | rfl | rfl
          · exact Sx.mk (c0)
          · exact Sx.mk (c1)
          · exact Sx.mk (c2)
          · exact Sx.mk (c3)
          · exact Sx.mk (c4)
          · exact Sx.mk (c5)
        obtain ⟨fx8, hfx8⟩ : ∃ fx : List (Addr × Value), [(⟨g, o, none⟩, (.int .i64 k1)), (⟨g, o + 1, none⟩, (.int .i64 k2)), (⟨g, o + 2, none⟩, (.int .i64 k3)), (⟨g, o + 3, none⟩, (.string k4)), (⟨g, o + 4, none⟩, k5), (⟨g, o + 5, none⟩, k6)] = fx := ⟨_, rfl⟩
        rw [hfx8] at hS8
        have u8_0 := Sx.get (B := wr.heap.size) (o := wr) (fx := fx8) (p := ⟨g, o, none⟩) (v := (.int .i64 k1)) (by subst hfx8; simp)
        have u8_1 := Sx.get (B := wr.heap.size) (o := wr) (fx := fx8) (p := ⟨g, o + 1, none⟩) (v := (.int .i64 k2)) (by subst hfx8; simp)
        have u8_2 := Sx.get (B := wr.heap.size) (o := wr) (fx := fx8) (p := ⟨g, o + 2, none⟩) (v := (.int .i64 k3)) (by subst hfx8; simp)
        have u8_3 := Sx.get (B := wr.heap.size) (o := wr) (fx := fx8) (p := ⟨g, o + 3, none⟩) (v := (.string k4)) (by subst hfx8; simp)
        have u8_4 := Sx.get (B := wr.heap.size) (o := wr) (fx := fx8) (p := ⟨g, o + 4, none⟩) (v := k5) (by subst hfx8; simp)
        have u8_5 := Sx.get (B := wr.heap.size) (o := wr) (fx := fx8) (p := ⟨g, o + 5, none⟩) (v := k6) (by subst hfx8; simp)
        clear hfx8
        have HS8 := Lib.hid hS8
        clear hS8
        clear c0 c1 c2 c3 c4 c5
        refine wp_region_held_drew (S := Sx wr.heap.size wr fx8) (by kernel_rfl) HS8.out.drew (fun hHeld => ?_)
        refine take_put (i := 0) (d := 52) (oi := _) (v := ?vt80) rfl rfl (by kernel_rfl) (by kernel_rfl) (by kernel_rfl) (fun _ _ _ h => h) (Or.inl ⟨by rfl, ?yt80⟩) hHeld ?rt80
        case yt80 => (intro w hSw; (try dsimp only at hSw); go_simp; try with_reducible rfl)
        simp only [Act.put, List.setIfInBounds_toArray, List.set_cons_zero, List.set_cons_succ]
        refine take_put (i := 1) (d := 53) (oi := _) (v := ?vt81) rfl rfl (by kernel_rfl) (by kernel_rfl) (by kernel_rfl) (fun _ _ _ h => h) (Or.inl ⟨by rfl, ?yt81⟩) hHeld ?rt81
        case yt81 => (intro w hSw; (try dsimp only at hSw); go_simp; try with_reducible rfl)
        simp only [Act.put, List.setIfInBounds_toArray, List.set_cons_zero, List.set_cons_succ]
        refine take_put (i := 2) (d := 54) (oi := _) (v := ?vt82) rfl rfl (by kernel_rfl) (by kernel_rfl) (by kernel_rfl) (fun _ _ _ h => h) (Or.inl ⟨by rfl, ?yt82⟩) hHeld ?rt82
        case yt82 => (intro w hSw; (try dsimp only at hSw); go_simp; try with_reducible rfl)
        simp only [Act.put, List.setIfInBounds_toArray, List.set_cons_zero, List.set_cons_succ]
        refine take_put (i := 3) (d := 55) (oi := _) (v := ?vt83) rfl rfl (by kernel_rfl) (by kernel_rfl) (by kernel_rfl) (fun _ _ _ h => h) (Or.inl ⟨by rfl, ?yt83⟩) hHeld ?rt83
        case yt83 => (intro w hSw; (try dsimp only at hSw); go_simp; try with_reducible rfl)
        simp only [Act.put, List.setIfInBounds_toArray, List.set_cons_zero, List.set_cons_succ]
        refine take_put (i := 4) (d := 56) (oi := _) (v := ?vt84) rfl rfl (by kernel_rfl) (by kernel_rfl) (by kernel_rfl) (fun _ _ _ h => h) (Or.inl ⟨by rfl, ?yt84⟩) hHeld ?rt84
        case yt84 => (intro w hSw; (try dsimp only at hSw); go_simp; try with_reducible rfl)
        simp only [Act.put, List.setIfInBounds_toArray, List.set_cons_zero, List.set_cons_succ]
        refine take_put (i := 6) (d := 58) (oi := _) (v := ?vt86) rfl rfl (by kernel_rfl) (by kernel_rfl) (by kernel_rfl) (fun _ _ _ h => h) (Or.inl ⟨by rfl, ?yt86⟩) hHeld ?rt86
        case yt86 => (intro w hSw; (try dsimp only at hSw); go_simp; try with_reducible rfl)
        simp only [Act.put, List.setIfInBounds_toArray, List.set_cons_zero, List.set_cons_succ]
        refine take_put (i := 7) (d := 59) (oi := _) (v := ?vt87) rfl rfl (by kernel_rfl) (by kernel_rfl) (by kernel_rfl) (fun _ _ _ h => h) (Or.inl ⟨by rfl, ?yt87⟩) hHeld ?rt87
        case yt87 => (intro w hSw; (try dsimp only at hSw); go_simp; try with_reducible rfl)
        simp only [Act.put, List.setIfInBounds_toArray, List.set_cons_zero, List.set_cons_succ]
        refine take_put (i := 8) (d := 60) (oi := _) (v := ?vt88) rfl rfl (by kernel_rfl) (by kernel_rfl) (by kernel_rfl) (fun _ _ _ h => h) (Or.inl ⟨by rfl, ?yt88⟩) hHeld ?rt88
        case yt88 => (intro w hSw; (try dsimp only at hSw); go_simp; try with_reducible rfl)
        simp only [Act.put, List.setIfInBounds_toArray, List.set_cons_zero, List.set_cons_succ]
        refine take_put (i := 9) (d := 61) (oi := _) (v := ?vt89) rfl rfl (by kernel_rfl) (by kernel_rfl) (by kernel_rfl) (fun _ _ _ h => h) (Or.inl ⟨by rfl, ?yt89⟩) hHeld ?rt89
        case yt89 => (intro w hSw; (try dsimp only at hSw); go_simp; try with_reducible rfl)
        simp only [Act.put, List.setIfInBounds_toArray, List.set_cons_zero, List.set_cons_succ]
        refine take_put (i := 10) (d := 62) (oi := _) (v := ?vt810) rfl rfl (by kernel_rfl) (by kernel_rfl) (by kernel_rfl) (fun _ _ _ h => h) (Or.inl ⟨by rfl, ?yt810⟩) hHeld ?rt810
        case yt810 => (intro w hSw; (try dsimp only at hSw); go_simp; try with_reducible rfl)
        simp only [Act.put, List.setIfInBounds_toArray, List.set_cons_zero, List.set_cons_succ]
        refine wpAnyH_ready (rs := [5]) (by kernel_rfl) (by simp) (AllReadyH.cons (o := _) rfl (fun K hK => ?_) (AllReadyH.nil))
        go_simp
        refine (HK1.out _ (bT HB.out hHeld.1)).mono ?_
        rintro e wa ⟨rfl, ba⟩
        (try dsimp only)
        refine hK.out _ _ (hHeld.call ba (Nat.le_refl _)) (fun hHeld => ?_)
        clear hK K
        refine wpAnyH_ready (rs := [11]) (by kernel_rfl) (by simp) (AllReadyH.cons (o := _) rfl (fun K hK => ?_) (AllReadyH.nil))
        go_simp
        refine (HK2.out _ (bT HB.out hHeld.1)).mono ?_
        rintro e wb ⟨rfl, bb⟩
        (try dsimp only)
        refine hK.out _ _ (hHeld.call bb (Nat.le_refl _)) (fun hHeld => ?_)
        clear hK K
        refine take_put (i := 12) (d := 64) (oi := _) (v := ?vt8p12) rfl rfl (by kernel_rfl) (by kernel_rfl) (by kernel_rfl) (fun _ _ _ h => h) (Or.inl ⟨by rfl, ?yt8p12⟩) hHeld ?rt8p12
        case yt8p12 => (intro w hSw; (try dsimp only at hSw); go_simp; try with_reducible rfl)
        simp only [Act.put, List.setIfInBounds_toArray, List.set_cons_zero, List.set_cons_succ]
        refine wpAnyH_done (by kernel_rfl) ?_ _
        have HF := Lib.hid hHeld.1
        clear hHeld
        go_wp2
        go_roundw
        case rel => exact ⟨0 + 1, by go_num, by omega, Lib.hid (bT HB.out HF.out)⟩
        case measure => (simp [intOf] <;> omega)
      | succ j =>
        obtain ⟨y0, hy0⟩ : ∃ x, l'[j]? = some x := ⟨_, List.getElem?_eq_getElem (by omega)⟩
        obtain ⟨t0, ht0⟩ : ∃ x, ts'[j]? = some x := ⟨_, List.getElem?_eq_getElem (by have := HLT.out; omega)⟩
        obtain ⟨n0, hv0⟩ := HT.out j y0 t0 hy0 ht0
        have hcm := fun wx (h : Below wr.heap.size wr wx) => compare_any n0 n1 y0 y1 t0 t1 wx (VT.on (bT HB.out h) n0 hv0) (VT.on (bT HB.out h) n1 hv1)
        have hg2 := HC.out j t0 t1 ht0 ht1
        obtain ⟨c, hc⟩ : ∃ c, (cmpR t0 t1).1 = c := ⟨_, rfl⟩
        have hcle : c ≤ 0 := by rw [← hc]; exact hg2.2
        rw [hg2.1, hc] at hcm
        have A0 := (hcl j y0 hy0).on hg HB.out
        have A1 := H6.out wr HB.out
        obtain ⟨k1, k2, k3, k4, k5, k6⟩ := y0
        obtain ⟨m1, m2, m3, m4, m5, m6⟩ := y1
        obtain ⟨c0, c1, c2, c3, c4, c5⟩ := A0
        obtain ⟨a0, a1, a2, a3, a4, a5⟩ := A1
        unfold Six.val vV at hk1 hk2 hcm
        simp only at hk1 hk2 hcm c0 c1 c2 c3 c4 c5 a0 a1 a2 a3 a4 a5
        have HK1 := Lib.hid hk1
        have HK2 := Lib.hid hk2
        have HCM := Lib.hid hcm
        have j2 : (j : Int) < (l'.length : Int) := by omega
        have j1 : ((j : Int) + 1) < (l'.length : Int) := by omega
        have j3 : ((j : Int) + 1 - 1) = (j : Int) := by omega
        have j4 : (0 : Int) < (j : Int) + 1 := by omega
        have j6 : ((j : Int) + 1).toNat = j + 1 := by omega
        have j7 : j + 1 < l'.length := by omega
        have j8 : j < l'.length := by omega
        have j9 : (0 : Int) ≤ (j : Int) + 1 := by omega
        have j10 : IntKind.i64.wrap (j : Int) = (j : Int) := IntWalk.i64_in _ (by omega)
        have j11 : ¬ (0 : Int) < c := by omega
        have j12 : decide ((0 : Int) < c) = false := decide_eq_false (by omega)
        clear hk1 hk2 hcm hK hv0 hv1 hy0 ht0 hy1 ht1 hcl H hg2 hc
        go_upto_region 10 with (fail)
        have hS7 : Sx wr.heap.size wr [(⟨g, o + j * 6, none⟩, (.int .i64 k1)), (⟨g, o + j * 6 + 1, none⟩, (.int .i64 k2)), (⟨g, o + j * 6 + 2, none⟩, (.int .i64 k3)), (⟨g, o + j * 6 + 3, none⟩, (.string k4)), (⟨g, o + j * 6 + 4, none⟩, k5), (⟨g, o + j * 6 + 5, none⟩, k6), (⟨g, o + (j + 1) * 6, none⟩, (.int .i64 m1)), (⟨g, o + (j + 1) * 6 + 1, none⟩, (.int .i64 m2)), (⟨g, o + (j + 1) * 6 + 2, none⟩, (.int .i64 m3)), (⟨g, o + (j + 1) * 6 + 3, none⟩, (.string m4)), (⟨g, o + (j + 1) * 6 + 4, none⟩, m5), (⟨g, o + (j + 1) * 6 + 5, none⟩, m6)] (wr) := by
          refine ⟨Below.refl _ _, ?_⟩
          intro t ht
          simp only [List.mem_cons, List.not_mem_nil, or_false] at ht
          rcases ht with rfl | rfl | rfl | rfl | rfl | rfl | rfl | rfl | rfl | rfl | rfl | rfl
          · exact Sx.mk (c0)
          · exact Sx.mk (c1)
          · exact Sx.mk (c2)
          · exact Sx.mk (c3)
          · exact Sx.mk (c4)
          · exact Sx.mk (c5)
          · exact Sx.mk (a0)
          · exact Sx.mk (a1)
          · exact Sx.mk (a2)
          · exact Sx.mk (a3)
          · exact Sx.mk (a4)
          · exact Sx.mk (a5)
        obtain ⟨fx7, hfx7⟩ : ∃ fx : List (Addr × Value), [(⟨g, o + j * 6, none⟩, (.int .i64 k1)), (⟨g, o + j * 6 + 1, none⟩, (.int .i64 k2)), (⟨g, o + j * 6 + 2, none⟩, (.int .i64 k3)), (⟨g, o + j * 6 + 3, none⟩, (.string k4)), (⟨g, o + j * 6 + 4, none⟩, k5), (⟨g, o + j * 6 + 5, none⟩, k6), (⟨g, o + (j + 1) * 6, none⟩, (.int .i64 m1)), (⟨g, o + (j + 1) * 6 + 1, none⟩, (.int .i64 m2)), (⟨g, o + (j + 1) * 6 + 2, none⟩, (.int .i64 m3)), (⟨g, o + (j + 1) * 6 + 3, none⟩, (.string m4)), (⟨g, o + (j + 1) * 6 + 4, none⟩, m5), (⟨g, o + (j + 1) * 6 + 5, none⟩, m6)] = fx := ⟨_, rfl⟩
        rw [hfx7] at hS7
        have u7_0 := Sx.get (B := wr.heap.size) (o := wr) (fx := fx7) (p := ⟨g, o + j * 6, none⟩) (v := (.int .i64 k1)) (by subst hfx7; simp)
        have u7_1 := Sx.get (B := wr.heap.size) (o := wr) (fx := fx7) (p := ⟨g, o + j * 6 + 1, none⟩) (v := (.int .i64 k2)) (by subst hfx7; simp)
        have u7_2 := Sx.get (B := wr.heap.size) (o := wr) (fx := fx7) (p := ⟨g, o + j * 6 + 2, none⟩) (v := (.int .i64 k3)) (by subst hfx7; simp)
        have u7_3 := Sx.get (B := wr.heap.size) (o := wr) (fx := fx7) (p := ⟨g, o + j * 6 + 3, none⟩) (v := (.string k4)) (by subst hfx7; simp)
        have u7_4 := Sx.get (B := wr.heap.size) (o := wr) (fx := fx7) (p := ⟨g, o + j * 6 + 4, none⟩) (v := k5) (by subst hfx7; simp)
        have u7_5 := Sx.get (B := wr.heap.size) (o := wr) (fx := fx7) (p := ⟨g, o + j * 6 + 5, none⟩) (v := k6) (by subst hfx7; simp)
        have u7_6 := Sx.get (B := wr.heap.size) (o := wr) (fx := fx7) (p := ⟨g, o + (j + 1) * 6, none⟩) (v := (.int .i64 m1)) (by subst hfx7; simp)
        have u7_7 := Sx.get (B := wr.heap.size) (o := wr) (fx := fx7) (p := ⟨g, o + (j + 1) * 6 + 1, none⟩) (v := (.int .i64 m2)) (by subst hfx7; simp)
        have u7_8 := Sx.get (B := wr.heap.size) (o := wr) (fx := fx7) (p := ⟨g, o + (j + 1) * 6 + 2, none⟩) (v := (.int .i64 m3)) (by subst hfx7; simp)
        have u7_9 := Sx.get (B := wr.heap.size) (o := wr) (fx := fx7) (p := ⟨g, o + (j + 1) * 6 + 3, none⟩) (v := (.string m4)) (by subst hfx7; simp)
        have u7_10 := Sx.get (B := wr.heap.size) (o := wr) (fx := fx7) (p := ⟨g, o + (j + 1) * 6 + 4, none⟩) (v := m5) (by subst hfx7; simp)
        have u7_11 := Sx.get (B := wr.heap.size) (o := wr) (fx := fx7) (p := ⟨g, o + (j + 1) * 6 + 5, none⟩) (v := m6) (by subst hfx7; simp)
        clear hfx7
        have HS7 := Lib.hid hS7
        clear hS7
        clear c0 c1 c2 c3 c4 c5 a0 a1 a2 a3 a4 a5
        refine wp_region_held_drew (S := Sx wr.heap.size wr fx7) (by kernel_rfl) HS7.out.drew (fun hHeld => ?_)
        refine take_put (i := 0) (d := 34) (oi := _) (v := ?vz0) rfl rfl (by kernel_rfl) (by kernel_rfl) (by kernel_rfl) (fun _ _ _ h => h) (Or.inl ⟨by rfl, ?yz0⟩) hHeld ?rz0
        case yz0 => (intro w hSw; (try dsimp only at hSw); go_simp; try with_reducible rfl)
        simp only [Act.put, List.setIfInBounds_toArray, List.set_cons_zero, List.set_cons_succ]
        refine take_put (i := 1) (d := 35) (oi := _) (v := ?vz1) rfl rfl (by kernel_rfl) (by kernel_rfl) (by kernel_rfl) (fun _ _ _ h => h) (Or.inl ⟨by rfl, ?yz1⟩) hHeld ?rz1
        case yz1 => (intro w hSw; (try dsimp only at hSw); go_simp; try with_reducible rfl)
        simp only [Act.put, List.setIfInBounds_toArray, List.set_cons_zero, List.set_cons_succ]
        refine take_put (i := 2) (d := 36) (oi := _) (v := ?vz2) rfl rfl (by kernel_rfl) (by kernel_rfl) (by kernel_rfl) (fun _ _ _ h => h) (Or.inl ⟨by rfl, ?yz2⟩) hHeld ?rz2
        case yz2 => (intro w hSw; (try dsimp only at hSw); go_simp; try with_reducible rfl)
        simp only [Act.put, List.setIfInBounds_toArray, List.set_cons_zero, List.set_cons_succ]
        refine take_put (i := 3) (d := 37) (oi := _) (v := ?vz3) rfl rfl (by kernel_rfl) (by kernel_rfl) (by kernel_rfl) (fun _ _ _ h => h) (Or.inl ⟨by rfl, ?yz3⟩) hHeld ?rz3
        case yz3 => (intro w hSw; (try dsimp only at hSw); go_simp; try with_reducible rfl)
        simp only [Act.put, List.setIfInBounds_toArray, List.set_cons_zero, List.set_cons_succ]
        refine take_put (i := 4) (d := 38) (oi := _) (v := ?vz4) rfl rfl (by kernel_rfl) (by kernel_rfl) (by kernel_rfl) (fun _ _ _ h => h) (Or.inl ⟨by rfl, ?yz4⟩) hHeld ?rz4
        case yz4 => (intro w hSw; (try dsimp only at hSw); go_simp; try with_reducible rfl)
        simp only [Act.put, List.setIfInBounds_toArray, List.set_cons_zero, List.set_cons_succ]
        refine take_put (i := 5) (d := 39) (oi := _) (v := ?vz5) rfl rfl (by kernel_rfl) (by kernel_rfl) (by kernel_rfl) (fun _ _ _ h => h) (Or.inl ⟨by rfl, ?yz5⟩) hHeld ?rz5
        case yz5 => (intro w hSw; (try dsimp only at hSw); go_simp; try with_reducible rfl)
        simp only [Act.put, List.setIfInBounds_toArray, List.set_cons_zero, List.set_cons_succ]
        refine take_put (i := 6) (d := 40) (oi := _) (v := ?vz6) rfl rfl (by kernel_rfl) (by kernel_rfl) (by kernel_rfl) (fun _ _ _ h => h) (Or.inl ⟨by rfl, ?yz6⟩) hHeld ?rz6
        case yz6 => (intro w hSw; (try dsimp only at hSw); go_simp; try with_reducible rfl)
        simp only [Act.put, List.setIfInBounds_toArray, List.set_cons_zero, List.set_cons_succ]
        refine take_put (i := 7) (d := 41) (oi := _) (v := ?vz7) rfl rfl (by kernel_rfl) (by kernel_rfl) (by kernel_rfl) (fun _ _ _ h => h) (Or.inl ⟨by rfl, ?yz7⟩) hHeld ?rz7
        case yz7 => (intro w hSw; (try dsimp only at hSw); go_simp; try with_reducible rfl)
        simp only [Act.put, List.setIfInBounds_toArray, List.set_cons_zero, List.set_cons_succ]
        refine take_put (i := 8) (d := 42) (oi := _) (v := ?vz8) rfl rfl (by kernel_rfl) (by kernel_rfl) (by kernel_rfl) (fun _ _ _ h => h) (Or.inl ⟨by rfl, ?yz8⟩) hHeld ?rz8
        case yz8 => (intro w hSw; (try dsimp only at hSw); go_simp; try with_reducible rfl)
        simp only [Act.put, List.setIfInBounds_toArray, List.set_cons_zero, List.set_cons_succ]
        refine wpAnyH_ready (rs := [9]) (by kernel_rfl) (by simp) (AllReadyH.cons (o := _) rfl (fun K hK => ?_) AllReadyH.nil)
        go_simp
        refine (HCM.out _ hHeld.1).mono ?_
        rintro e w6 ⟨rfl, b6⟩
        have HB6 := Lib.hid (bT HB.out.drew b6)
        (try dsimp only)
        refine hK.out _ _ (hHeld.call b6 (Nat.le_refl _)) (fun hHeld => ?_)
        clear hK K
        refine take_put (i := 10) (d := 33) (oi := _) (v := ?vz10) rfl rfl (by kernel_rfl) (by kernel_rfl) (by kernel_rfl) (fun _ _ _ h => h) (Or.inl ⟨by rfl, ?yz10⟩) hHeld ?rz10
        case yz10 => (intro w hSw; (try dsimp only at hSw); go_simp; try with_reducible rfl)
        simp only [Act.put, List.setIfInBounds_toArray, List.set_cons_zero, List.set_cons_succ]
        refine take_put (i := 11) (d := 44) (oi := _) (v := ?vz11) rfl rfl (by kernel_rfl) (by kernel_rfl) (by kernel_rfl) (fun _ _ _ h => h) (Or.inl ⟨by rfl, ?yz11⟩) hHeld ?rz11
        case yz11 => (intro w hSw; (try dsimp only at hSw); go_simp; try with_reducible rfl)
        simp only [Act.put, List.setIfInBounds_toArray, List.set_cons_zero, List.set_cons_succ]
        refine take_put (i := 12) (d := 45) (oi := _) (v := ?vz12) rfl rfl (by kernel_rfl) (by kernel_rfl) (by kernel_rfl) (fun _ _ _ h => h) (Or.inl ⟨by rfl, ?yz12⟩) hHeld ?rz12
        case yz12 => (intro w hSw; (try dsimp only at hSw); go_simp; try with_reducible rfl)
        simp only [Act.put, List.setIfInBounds_toArray, List.set_cons_zero, List.set_cons_succ]
        refine take_put (i := 13) (d := 6) (oi := _) (v := ?vz13) rfl rfl (by kernel_rfl) (by kernel_rfl) (by kernel_rfl) (fun _ _ _ h => h) (Or.inl ⟨by rfl, ?yz13⟩) hHeld ?rz13
        case yz13 => (intro w hSw; (try dsimp only at hSw); go_simp; try with_reducible rfl)
        simp only [Act.put, List.setIfInBounds_toArray, List.set_cons_zero, List.set_cons_succ]
        refine take_put (i := 14) (d := 7) (oi := _) (v := ?vz14) rfl rfl (by kernel_rfl) (by kernel_rfl) (by kernel_rfl) (fun _ _ _ h => h) (Or.inl ⟨by rfl, ?yz14⟩) hHeld ?rz14
        case yz14 => (intro w hSw; (try dsimp only at hSw); go_simp; try with_reducible rfl)
        simp only [Act.put, List.setIfInBounds_toArray, List.set_cons_zero, List.set_cons_succ]
        refine wpAnyH_done (by kernel_rfl) ?_ _
        clear hHeld b6 j3 j10
        go_upto_region 13 with (fail)
        have A1 := H6.out w6 HB6.out
        obtain ⟨a0, a1, a2, a3, a4, a5⟩ := A1
        simp only at a0 a1 a2 a3 a4 a5
        have hS9 : Sx w6.heap.size w6 [(⟨g, o + (j + 1) * 6, none⟩, (.int .i64 m1)), (⟨g, o + (j + 1) * 6 + 1, none⟩, (.int .i64 m2)), (⟨g, o + (j + 1) * 6 + 2, none⟩, (.int .i64 m3)), (⟨g, o + (j + 1) * 6 + 3, none⟩, (.string m4)), (⟨g, o + (j + 1) * 6 + 4, none⟩, m5), (⟨g, o + (j + 1) * 6 + 5, none⟩, m6)] (w6) := by
          refine ⟨Below.refl _ _, ?_⟩
          intro t ht
          simp only [List.mem_cons, List.not_mem_nil, or_false] at ht
          rcases ht with rfl | rfl | rfl | rfl | rfl | rfl
          · exact Sx.mk (a0)
          · exact Sx.mk (a1)
          · exact Sx.mk (a2)
          · exact Sx.mk (a3)
          · exact Sx.mk (a4)
          · exact Sx.mk (a5)
        obtain ⟨fx9, hfx9⟩ : ∃ fx : List (Addr × Value), [(⟨g, o + (j + 1) * 6, none⟩, (.int .i64 m1)), (⟨g, o + (j + 1) * 6 + 1, none⟩, (.int .i64 m2)), (⟨g, o + (j + 1) * 6 + 2, none⟩, (.int .i64 m3)), (⟨g, o + (j + 1) * 6 + 3, none⟩, (.string m4)), (⟨g, o + (j + 1) * 6 + 4, none⟩, m5), (⟨g, o + (j + 1) * 6 + 5, none⟩, m6)] = fx := ⟨_, rfl⟩
        rw [hfx9] at hS9
        have u9_0 := Sx.get (B := w6.heap.size) (o := w6) (fx := fx9) (p := ⟨g, o + (j + 1) * 6, none⟩) (v := (.int .i64 m1)) (by subst hfx9; simp)
        have u9_1 := Sx.get (B := w6.heap.size) (o := w6) (fx := fx9) (p := ⟨g, o + (j + 1) * 6 + 1, none⟩) (v := (.int .i64 m2)) (by subst hfx9; simp)
        have u9_2 := Sx.get (B := w6.heap.size) (o := w6) (fx := fx9) (p := ⟨g, o + (j + 1) * 6 + 2, none⟩) (v := (.int .i64 m3)) (by subst hfx9; simp)
        have u9_3 := Sx.get (B := w6.heap.size) (o := w6) (fx := fx9) (p := ⟨g, o + (j + 1) * 6 + 3, none⟩) (v := (.string m4)) (by subst hfx9; simp)
        have u9_4 := Sx.get (B := w6.heap.size) (o := w6) (fx := fx9) (p := ⟨g, o + (j + 1) * 6 + 4, none⟩) (v := m5) (by subst hfx9; simp)
        have u9_5 := Sx.get (B := w6.heap.size) (o := w6) (fx := fx9) (p := ⟨g, o + (j + 1) * 6 + 5, none⟩) (v := m6) (by subst hfx9; simp)
        clear hfx9
        have HS9 := Lib.hid hS9
        clear hS9
        clear a0 a1 a2 a3 a4 a5
        refine wp_region_held_drew (S := Sx w6.heap.size w6 fx9) (by kernel_rfl) HS9.out.drew (fun hHeld => ?_)
        refine take_put (i := 0) (d := 52) (oi := _) (v := ?vt90) rfl rfl (by kernel_rfl) (by kernel_rfl) (by kernel_rfl) (fun _ _ _ h => h) (Or.inl ⟨by rfl, ?yt90⟩) hHeld ?rt90
        case yt90 => (intro w hSw; (try dsimp only at hSw); go_simp; try with_reducible rfl)
        simp only [Act.put, List.setIfInBounds_toArray, List.set_cons_zero, List.set_cons_succ]
        refine take_put (i := 1) (d := 53) (oi := _) (v := ?vt91) rfl rfl (by kernel_rfl) (by kernel_rfl) (by kernel_rfl) (fun _ _ _ h => h) (Or.inl ⟨by rfl, ?yt91⟩) hHeld ?rt91
        case yt91 => (intro w hSw; (try dsimp only at hSw); go_simp; try with_reducible rfl)
        simp only [Act.put, List.setIfInBounds_toArray, List.set_cons_zero, List.set_cons_succ]
        refine take_put (i := 2) (d := 54) (oi := _) (v := ?vt92) rfl rfl (by kernel_rfl) (by kernel_rfl) (by kernel_rfl) (fun _ _ _ h => h) (Or.inl ⟨by rfl, ?yt92⟩) hHeld ?rt92
        case yt92 => (intro w hSw; (try dsimp only at hSw); go_simp; try with_reducible rfl)
        simp only [Act.put, List.setIfInBounds_toArray, List.set_cons_zero, List.set_cons_succ]
        refine take_put (i := 3) (d := 55) (oi := _) (v := ?vt93) rfl rfl (by kernel_rfl) (by kernel_rfl) (by kernel_rfl) (fun _ _ _ h => h) (Or.inl ⟨by rfl, ?yt93⟩) hHeld ?rt93
        case yt93 => (intro w hSw; (try dsimp only at hSw); go_simp; try with_reducible rfl)
        simp only [Act.put, List.setIfInBounds_toArray, List.set_cons_zero, List.set_cons_succ]
        refine take_put (i := 4) (d := 56) (oi := _) (v := ?vt94) rfl rfl (by kernel_rfl) (by kernel_rfl) (by kernel_rfl) (fun _ _ _ h => h) (Or.inl ⟨by rfl, ?yt94⟩) hHeld ?rt94
        case yt94 => (intro w hSw; (try dsimp only at hSw); go_simp; try with_reducible rfl)
        simp only [Act.put, List.setIfInBounds_toArray, List.set_cons_zero, List.set_cons_succ]
        refine take_put (i := 6) (d := 58) (oi := _) (v := ?vt96) rfl rfl (by kernel_rfl) (by kernel_rfl) (by kernel_rfl) (fun _ _ _ h => h) (Or.inl ⟨by rfl, ?yt96⟩) hHeld ?rt96
        case yt96 => (intro w hSw; (try dsimp only at hSw); go_simp; try with_reducible rfl)
        simp only [Act.put, List.setIfInBounds_toArray, List.set_cons_zero, List.set_cons_succ]
        refine take_put (i := 7) (d := 59) (oi := _) (v := ?vt97) rfl rfl (by kernel_rfl) (by kernel_rfl) (by kernel_rfl) (fun _ _ _ h => h) (Or.inl ⟨by rfl, ?yt97⟩) hHeld ?rt97
        case yt97 => (intro w hSw; (try dsimp only at hSw); go_simp; try with_reducible rfl)
        simp only [Act.put, List.setIfInBounds_toArray, List.set_cons_zero, List.set_cons_succ]
        refine take_put (i := 8) (d := 60) (oi := _) (v := ?vt98) rfl rfl (by kernel_rfl) (by kernel_rfl) (by kernel_rfl) (fun _ _ _ h => h) (Or.inl ⟨by rfl, ?yt98⟩) hHeld ?rt98
        case yt98 => (intro w hSw; (try dsimp only at hSw); go_simp; try with_reducible rfl)
        simp only [Act.put, List.setIfInBounds_toArray, List.set_cons_zero, List.set_cons_succ]
        refine take_put (i := 9) (d := 61) (oi := _) (v := ?vt99) rfl rfl (by kernel_rfl) (by kernel_rfl) (by kernel_rfl) (fun _ _ _ h => h) (Or.inl ⟨by rfl, ?yt99⟩) hHeld ?rt99
        case yt99 => (intro w hSw; (try dsimp only at hSw); go_simp; try with_reducible rfl)
        simp only [Act.put, List.setIfInBounds_toArray, List.set_cons_zero, List.set_cons_succ]
        refine take_put (i := 10) (d := 62) (oi := _) (v := ?vt910) rfl rfl (by kernel_rfl) (by kernel_rfl) (by kernel_rfl) (fun _ _ _ h => h) (Or.inl ⟨by rfl, ?yt910⟩) hHeld ?rt910
        case yt910 => (intro w hSw; (try dsimp only at hSw); go_simp; try with_reducible rfl)
        simp only [Act.put, List.setIfInBounds_toArray, List.set_cons_zero, List.set_cons_succ]
        refine wpAnyH_ready (rs := [5]) (by kernel_rfl) (by simp) (AllReadyH.cons (o := _) rfl (fun K hK => ?_) (AllReadyH.nil))
        go_simp
        refine (HK1.out _ (bT HB6.out hHeld.1)).mono ?_
        rintro e wa ⟨rfl, ba⟩
        (try dsimp only)
        refine hK.out _ _ (hHeld.call ba (Nat.le_refl _)) (fun hHeld => ?_)
        clear hK K
        refine wpAnyH_ready (rs := [11]) (by kernel_rfl) (by simp) (AllReadyH.cons (o := _) rfl (fun K hK => ?_) (AllReadyH.nil))
        go_simp
        refine (HK2.out _ (bT HB6.out hHeld.1)).mono ?_
        rintro e wb ⟨rfl, bb⟩
        (try dsimp only)
        refine hK.out _ _ (hHeld.call bb (Nat.le_refl _)) (fun hHeld => ?_)
        clear hK K
        refine take_put (i := 12) (d := 64) (oi := _) (v := ?vt9p12) rfl rfl (by kernel_rfl) (by kernel_rfl) (by kernel_rfl) (fun _ _ _ h => h) (Or.inl ⟨by rfl, ?yt9p12⟩) hHeld ?rt9p12
        case yt9p12 => (intro w hSw; (try dsimp only at hSw); go_simp; try with_reducible rfl)
        simp only [Act.put, List.setIfInBounds_toArray, List.set_cons_zero, List.set_cons_succ]
        refine wpAnyH_done (by kernel_rfl) ?_ _
        have HF := Lib.hid hHeld.1
        clear hHeld
        go_wp2
        go_roundw
        case rel => exact ⟨j + 1 + 1, by go_num, by omega, Lib.hid (bT HB6.out HF.out)⟩
        case measure => (simp [intOf] <;> omega)
    · have i1 : ¬ (j : Int) < (l'.length : Int) := by omega
      go_wp2_with (go_at_call 20; refine (lives07_any _).mono ?_; rintro e w9 ⟨rfl, b9⟩)
      go_ret
      exact ⟨rfl, bT (bT HB2.out HB.out) b9⟩
end Od
end Go.Proofs.Ytnlnogchbmpmaaa
