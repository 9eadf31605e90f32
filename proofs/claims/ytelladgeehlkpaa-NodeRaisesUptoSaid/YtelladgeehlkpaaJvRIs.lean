/- The document's Is, of every value whose texts are not too long. -/
import Derived.Test.YtelladgeehlkpaaJvRZero
namespace Go.Proofs.Ytelladgeehlkpaa
open Go.RowKit
namespace Jv
open _root_.Go.Proofs.Ytelladgeehlkpaa.Nm
open _root_.Go.Proofs.Ytelladgeehlkpaa.Ut (byt vldB)
set_option maxRecDepth 100000 in
set_option maxHeartbeats 16000000 in
theorem ris_any : ∀ (m n : Nat) (x : Six) (t : JV) (d : Int) (w : World), d = 33 - (m : Int) → m ≤ 33 → VT w n x t → SmA 1000000000 t →
    Calls Try.prog 57 #[x.val, .int .i64 d] w fun e w' => e = .returned (.bool (isT m t)) ∧ Below w.heap.size w w' := by
  intro m
  induction m with
  | zero =>
    intro n x t d w hd hm hv hsm
    obtain ⟨b, hb⟩ : ∃ b, isT 0 t = b := ⟨_, rfl⟩
    rw [hb]
    have hzc := fun w' (hw : Below w.heap.size w w') => rzero_any n x t w' (VT.on hw n hv)
    cases n with
    | zero => exact hv.elim
    | succ n =>
    obtain ⟨e1, e2, e3, e4, e5, hB, l, hl, hll, hlt⟩ := hv
    obtain ⟨k, c, s, st, iv, kv⟩ := x
    obtain ⟨ao, cap, hiv, hc, h⟩ := hl.form
    obtain ⟨ko, kc, hkv, hkl, hkh⟩ := e5.form
    simp only at e1 e2 e3 e4 hiv hkv
    subst hiv hkv
    have hbf : b = false := by rw [← hb]; exact isT_no.2 (fun h => h)
    have HF := Lib.hid hbf
    clear hbf
    have hmx : l.length ≤ maxLen := by obtain ⟨_, _, q1, q2, q3, _⟩ := hl; omega
    have hmk : t.keys.length ≤ maxLen := by obtain ⟨_, _, q1, q2, q3, _⟩ := e5; omega
    unfold maxLen at hmx hmk
    obtain ⟨zb, hzb⟩ : ∃ zb, zeroT t = zb := ⟨_, rfl⟩
    rw [hzb] at hzc
    unfold Six.val vV at hzc
    simp only at hzc
    have HZC := Lib.hid hzc
    have hd0 : 0 ≤ d := by omega
    have hd1 : d ≤ 33 := by omega
    have hd2 : 32 < d := by omega
    clear hb hd e1 e2 e3 e4 e5 hB hl hll hlt h hkh hzc hzb hsm
    unfold Six.val vV
    by_cases q1 : k < 0
    · skip
      go_enter Try.func57, Try.ntmps57
      go_wp2_with (go_at_call 71; refine (HZC.out _ (bA1 _ _)).mono ?_; rintro e w1 ⟨rfl, b1⟩; have HV1 := Lib.hid ((Vb.new w #[.int .i64 k, .int .i64 c, .int .i64 s, .string st, .slice ao l.length cap, .slice ko t.keys.length kc]).on b1); have HB1 := Lib.hid (bT (bA1 w (Obj.cells #[.int .i64 k, .int .i64 c, .int .i64 s, .string st, .slice ao l.length cap, .slice ko t.keys.length kc] 62)) b1); obtain ⟨z0, z1, z2, z3, z4, z5⟩ := HV1.out.six)
      go_ret
      exact ⟨by rw [HF.out]; rfl, bA1 _ _⟩
    by_cases q2 : 7 < k
    · skip
      go_enter Try.func57, Try.ntmps57
      go_wp2_with (go_at_call 71; refine (HZC.out _ (bA1 _ _)).mono ?_; rintro e w1 ⟨rfl, b1⟩; have HV1 := Lib.hid ((Vb.new w #[.int .i64 k, .int .i64 c, .int .i64 s, .string st, .slice ao l.length cap, .slice ko t.keys.length kc]).on b1); have HB1 := Lib.hid (bT (bA1 w (Obj.cells #[.int .i64 k, .int .i64 c, .int .i64 s, .string st, .slice ao l.length cap, .slice ko t.keys.length kc] 62)) b1); obtain ⟨z0, z1, z2, z3, z4, z5⟩ := HV1.out.six)
      go_ret
      exact ⟨by rw [HF.out]; rfl, bA1 _ _⟩
    cases zb
    · skip
      go_enter Try.func57, Try.ntmps57
      go_wp2_with (go_at_call 71; refine (HZC.out _ (bA1 _ _)).mono ?_; rintro e w1 ⟨rfl, b1⟩; have HV1 := Lib.hid ((Vb.new w #[.int .i64 k, .int .i64 c, .int .i64 s, .string st, .slice ao l.length cap, .slice ko t.keys.length kc]).on b1); have HB1 := Lib.hid (bT (bA1 w (Obj.cells #[.int .i64 k, .int .i64 c, .int .i64 s, .string st, .slice ao l.length cap, .slice ko t.keys.length kc] 62)) b1); obtain ⟨z0, z1, z2, z3, z4, z5⟩ := HV1.out.six)
      go_ret
      exact ⟨by rw [HF.out]; rfl, HB1.out⟩
    go_enter Try.func57, Try.ntmps57
    go_wp2_with (go_at_call 71; refine (HZC.out _ (bA1 _ _)).mono ?_; rintro e w1 ⟨rfl, b1⟩; have HV1 := Lib.hid ((Vb.new w #[.int .i64 k, .int .i64 c, .int .i64 s, .string st, .slice ao l.length cap, .slice ko t.keys.length kc]).on b1); have HB1 := Lib.hid (bT (bA1 w (Obj.cells #[.int .i64 k, .int .i64 c, .int .i64 s, .string st, .slice ao l.length cap, .slice ko t.keys.length kc] 62)) b1); obtain ⟨z0, z1, z2, z3, z4, z5⟩ := HV1.out.six)
    go_ret
    exact ⟨by rw [HF.out]; rfl, HB1.out⟩
  | succ m ih =>
    intro n x t d w hd hm hv hsm
    obtain ⟨b, hb⟩ : ∃ b, isT (m + 1) t = b := ⟨_, rfl⟩
    rw [hb]
    have hzc := fun w' (hw : Below w.heap.size w w') => rzero_any n x t w' (VT.on hw n hv)
    cases n with
    | zero => exact hv.elim
    | succ n =>
    obtain ⟨e1, e2, e3, e4, e5, hB, l, hl, hll, hlt⟩ := hv
    obtain ⟨k, c, s, st, iv, kv⟩ := x
    obtain ⟨ao, cap, hiv, hc, h⟩ := hl.form
    obtain ⟨ko, kc, hkv, hkl, hkh⟩ := e5.form
    simp only at e1 e2 e3 e4 hiv hkv
    subst hiv hkv
    have HI : Hid (b = true ↔ ((0 ≤ k ∧ k ≤ 7) ∧ zeroT t = true ∧ vldB (byt st) = true ∧ (k = 3 → isB c s = true) ∧ (k = 6 → t.keys.length = l.length) ∧ (∀ x ∈ t.keys, vldB (byt x) = true) ∧ Up t.keys) ∧ ∀ z ∈ t.items, z.k ≠ 7 ∧ IsP m z) := Lib.hid (by
      rw [← hb, isT_iff, IsP, HeadP, zeroT_iff, e1, e2, e3, e4, hll])
    have HST : Hid (st.size ≤ 1000000000) := Lib.hid (by have := hsm.st; rw [← e4] at this; exact this)
    have HSK := Lib.hid hsm.key
    have HSI := Lib.hid hsm.item
    have IH := Lib.hid ih
    have hmx : l.length ≤ maxLen := by obtain ⟨_, _, q1, q2, q3, _⟩ := hl; omega
    have hmk : t.keys.length ≤ maxLen := by obtain ⟨_, _, q1, q2, q3, _⟩ := e5; omega
    unfold maxLen at hmx hmk
    obtain ⟨zb, hzb⟩ : ∃ zb, zeroT t = zb := ⟨_, rfl⟩
    rw [hzb] at hzc
    unfold Six.val vV at hzc
    simp only at hzc
    have HZC := Lib.hid hzc
    have hd0 : 0 ≤ d := by omega
    have hd1 : d ≤ 33 := by omega
    rw [hzb] at HI
    have hd2 : d ≤ 32 := by omega
    have hd3 : ¬ 32 < d := by omega
    have HD := Lib.hid hd
    have H := Lib.hid h
    have HK := Lib.hid hkh
    have HL := Lib.hid hll
    have HT := Lib.hid hlt
    clear ih
    clear hb hd e1 e2 e3 e4 e5 hB hl hll hlt h hkh hzc hzb hsm
    unfold Six.val vV
    by_cases q1 : k < 0
    · have HF : Hid (b = false) := Lib.hid (by
        rw [Bool.eq_false_iff]; intro h
        have := (HI.out.1 h).1.1.1; omega)
      clear HI
      go_enter Try.func57, Try.ntmps57
      go_wp2_with (go_at_call 71; refine (HZC.out _ (bA1 _ _)).mono ?_; rintro e w1 ⟨rfl, b1⟩; have HV1 := Lib.hid ((Vb.new w #[.int .i64 k, .int .i64 c, .int .i64 s, .string st, .slice ao l.length cap, .slice ko t.keys.length kc]).on b1); have HB1 := Lib.hid (bT (bA1 w (Obj.cells #[.int .i64 k, .int .i64 c, .int .i64 s, .string st, .slice ao l.length cap, .slice ko t.keys.length kc] 62)) b1); obtain ⟨z0, z1, z2, z3, z4, z5⟩ := HV1.out.six)
      go_ret
      exact ⟨by rw [HF.out]; rfl, bA1 _ _⟩
    by_cases q2 : 7 < k
    · have HF : Hid (b = false) := Lib.hid (by
        rw [Bool.eq_false_iff]; intro h
        have := (HI.out.1 h).1.1.2; omega)
      clear HI
      go_enter Try.func57, Try.ntmps57
      go_wp2_with (go_at_call 71; refine (HZC.out _ (bA1 _ _)).mono ?_; rintro e w1 ⟨rfl, b1⟩; have HV1 := Lib.hid ((Vb.new w #[.int .i64 k, .int .i64 c, .int .i64 s, .string st, .slice ao l.length cap, .slice ko t.keys.length kc]).on b1); have HB1 := Lib.hid (bT (bA1 w (Obj.cells #[.int .i64 k, .int .i64 c, .int .i64 s, .string st, .slice ao l.length cap, .slice ko t.keys.length kc] 62)) b1); obtain ⟨z0, z1, z2, z3, z4, z5⟩ := HV1.out.six)
      go_ret
      exact ⟨by rw [HF.out]; rfl, bA1 _ _⟩
    cases zb
    · have HF : Hid (b = false) := Lib.hid (by
        rw [Bool.eq_false_iff]; intro h
        have := (HI.out.1 h).1.2.1; cases this)
      clear HI
      go_enter Try.func57, Try.ntmps57
      go_wp2_with (go_at_call 71; refine (HZC.out _ (bA1 _ _)).mono ?_; rintro e w1 ⟨rfl, b1⟩; have HV1 := Lib.hid ((Vb.new w #[.int .i64 k, .int .i64 c, .int .i64 s, .string st, .slice ao l.length cap, .slice ko t.keys.length kc]).on b1); have HB1 := Lib.hid (bT (bA1 w (Obj.cells #[.int .i64 k, .int .i64 c, .int .i64 s, .string st, .slice ao l.length cap, .slice ko t.keys.length kc] 62)) b1); obtain ⟨z0, z1, z2, z3, z4, z5⟩ := HV1.out.six)
      go_ret
      exact ⟨by rw [HF.out]; rfl, HB1.out⟩
    obtain ⟨vb, hvb⟩ : ∃ vb, vldB (byt st) = vb := ⟨_, rfl⟩
    rw [hvb] at HI
    have hsg := fun w => Ut.rsigns_any st w HST.out
    unfold Ut.SigsPost at hsg
    rw [hvb] at hsg
    have HSG := Lib.hid hsg
    clear hvb hsg HST
    go_enter Try.func57, Try.ntmps57
    go_upto_region 4 with (first | (go_at_call 72; have _ := b1; refine (HSG.out _).mono ?_; rintro e w2 ⟨sv, rfl, _, b2⟩; have HV2 := Lib.hid (HV1.out.on b2); have HB2 := Lib.hid (bT HB1.out b2); obtain ⟨y0, y1, y2, y3, y4, y5⟩ := HV2.out.six) | (go_at_call 71; refine (HZC.out _ (bA1 _ _)).mono ?_; rintro e w1 ⟨rfl, b1⟩; have HV1 := Lib.hid ((Vb.new w #[.int .i64 k, .int .i64 c, .int .i64 s, .string st, .slice ao l.length cap, .slice ko t.keys.length kc]).on b1); have HB1 := Lib.hid (bT (bA1 w (Obj.cells #[.int .i64 k, .int .i64 c, .int .i64 s, .string st, .slice ao l.length cap, .slice ko t.keys.length kc] 62)) b1); obtain ⟨z0, z1, z2, z3, z4, z5⟩ := HV1.out.six))
    clear z0 z1 z2 z3 z4 z5 b1 b2 HV1 HB1 HSG HZC
    cases vb
    · have HF : Hid (b = false) := Lib.hid (by
        rw [Bool.eq_false_iff]; intro h
        have := (HI.out.1 h).1.2.2.1; cases this)
      clear HI
      go_wp2_with fail
      go_ret
      exact ⟨by rw [HF.out]; rfl, HB2.out⟩
    obtain ⟨nb, hnb⟩ : ∃ nb, isB c s = nb := ⟨_, rfl⟩
    have hn := fun w => rnum_any c s w
    rw [hnb] at HI hn
    have HN := Lib.hid hn
    clear hnb hn
    by_cases q3 : k = 3 ∧ nb = false
    · obtain ⟨rfl, rfl⟩ := q3
      have HF : Hid (b = false) := Lib.hid (by
        rw [Bool.eq_false_iff]; intro h
        have := (HI.out.1 h).1.2.2.2.1 rfl; cases this)
      clear HI
      go_wp2_with (go_at_call 73; refine (HN.out _).mono ?_; rintro e w3 ⟨rfl, b3⟩; have HV3 := Lib.hid (HV2.out.on b3); have HB3 := Lib.hid (bT HB2.out b3); obtain ⟨x0, x1, x2, x3, x4, x5⟩ := HV3.out.six)
      go_ret
      exact ⟨by rw [HF.out]; rfl, HB3.out⟩
    by_cases q6 : k = 6 ∧ t.keys.length ≠ l.length
    · obtain ⟨rfl, q7⟩ := q6
      have HF : Hid (b = false) := Lib.hid (by
        rw [Bool.eq_false_iff]; intro h
        exact q7 ((HI.out.1 h).1.2.2.2.2.1 rfl))
      clear HI
      have q8 : ((t.keys.length : Int) != (l.length : Int)) = true := by simp; omega
      have q9 : ((t.keys.length : Int) == (l.length : Int)) = false := by simp; omega
      go_wp2_with fail
      go_ret
      exact ⟨by rw [HF.out]; rfl, HB2.out⟩
    go_cut [60] (fun u wx => u = .bool false ∧ Hid (Vb wx w.heap.size #[.int .i64 k, .int .i64 c, .int .i64 s, .string st, .slice ao l.length cap, .slice ko t.keys.length kc]) ∧ Hid (Below w.heap.size w wx))
    case first =>
      as_aux_lemma =>
      by_cases k3 : k = 3
      · subst k3
        cases nb
        · exact absurd ⟨rfl, rfl⟩ q3
        go_wp2_with (go_at_call 73; refine (HN.out _).mono ?_; rintro e w3 ⟨rfl, b3⟩; have HV3 := Lib.hid (HV2.out.on b3); have HB3 := Lib.hid (bT HB2.out b3); obtain ⟨x0, x1, x2, x3, x4, x5⟩ := HV3.out.six)
        go_meet
        exact ⟨rfl, HV3, HB3⟩
      have k3b : (k == 3) = false := by simpa using k3
      by_cases k6 : k = 6
      · subst k6
        have q7 : t.keys.length = l.length := Decidable.not_not.1 fun h => q6 ⟨rfl, h⟩
        have q8 : ((t.keys.length : Int) != (l.length : Int)) = false := by simp; omega
        have q9 : ((t.keys.length : Int) == (l.length : Int)) = true := by simp; omega
        clear q7
        go_wp2_with fail
        go_meet
        exact ⟨rfl, HV2, HB2⟩
      have k6b : (k == 6) = false := by simpa using k6
      go_wp2_with fail
      go_meet
      exact ⟨rfl, HV2, HB2⟩
    case rest =>
    obtain ⟨rfl, HV, HB⟩ := hcut
    have Q3 : Hid (k = 3 → nb = true) := Lib.hid (fun h => by cases nb; · exact absurd ⟨h, rfl⟩ q3
                                                              · rfl)
    have Q6 : Hid (k = 6 → t.keys.length = l.length) := Lib.hid (fun h => Decidable.not_not.1 fun h' => q6 ⟨h, h'⟩)
    clear y0 y1 y2 y3 y4 y5 HV2 HB2 HN q3 q6
    go_wp2_with fail
    go_loopw [7] (fun i wr => ∃ j : Nat, i = .int .i64 (j : Nat) ∧ j ≤ t.keys.length ∧ Hid (Vb wr w.heap.size #[.int .i64 k, .int .i64 c, .int .i64 s, .string st, .slice ao l.length cap, .slice ko t.keys.length kc]) ∧ Hid (Below w.heap.size w wr) ∧ Hid (∀ p x, p < j → t.keys[p]? = some x → vldB (byt x) = true) ∧ Hid (∀ p u v, p + 1 < j → t.keys[p]? = some u → t.keys[p + 1]? = some v → leB v u = false)) (fun i _ => t.keys.length - (intOf i).toNat)
    case atStart => exact ⟨0, rfl, by omega, HV, HB, Lib.hid (fun p x hp => by omega), Lib.hid (fun p u v hp => by omega)⟩
    case round =>
      clear HV HB
      obtain ⟨j, rfl, hj, HV, HB, HA, HU⟩ := hrel
      obtain ⟨z0, z1, z2, z3, z4, z5⟩ := HV.out.six
      by_cases hlt : j < t.keys.length
      · as_aux_lemma =>
        obtain ⟨s1, hs1⟩ : ∃ y, t.keys[j]? = some y := ⟨_, List.getElem?_eq_getElem hlt⟩
        obtain ⟨g, o, rfl, hg, hcl⟩ := HK.out (by omega)
        have c1 := (HB.out.cell (p := ⟨g, o + j, none⟩) hg).trans (hcl j s1 hs1)
        have hs9 : s1.size ≤ 1000000000 := HSK.out s1 (List.mem_of_getElem? hs1)
        obtain ⟨vb, hvb⟩ : ∃ vb, vldB (byt s1) = vb := ⟨_, rfl⟩
        have hsg := fun w => Ut.rsigns_any s1 w hs9
        unfold Ut.SigsPost at hsg
        rw [hvb] at hsg
        have HSG := Lib.hid hsg
        have HVB := Lib.hid hvb
        have HS1 := Lib.hid hs1
        have i1 : (j : Int) < (t.keys.length : Int) := by omega
        cases vb
        · have HF : Hid (b = false) := Lib.hid (by
            rw [Bool.eq_false_iff]; intro h
            have := (HI.out.1 h).1.2.2.2.2.2.1 s1 (List.mem_of_getElem? HS1.out)
            rw [HVB.out] at this; cases this)
          clear HI hsg hvb hs1 hcl hs9
          go_wp2_with (go_at_call 72; refine (HSG.out _).mono ?_; rintro e w2 ⟨sv, rfl, _, b2⟩; have HV2 := Lib.hid (HV.out.on b2); have HB2 := Lib.hid (bT HB.out b2); obtain ⟨y0, y1, y2, y3, y4, y5⟩ := HV2.out.six)
          go_quiet (fail)
          go_wp2_with fail
          go_ret
          exact ⟨by rw [HF.out]; rfl, bN HB2.out _⟩
        have HA' : Hid (∀ p x, p < j + 1 → t.keys[p]? = some x → vldB (byt x) = true) := Lib.hid (fun p x hp hx => by
          by_cases e : p = j
          · subst e
            rw [HS1.out] at hx
            obtain rfl := Option.some.inj hx
            exact HVB.out
          · exact HA.out p x (by omega) hx)
        clear HA hsg hvb hs1 hs9
        cases j with
        | zero =>
          have HU' : Hid (∀ p u v, p + 1 < 0 + 1 → t.keys[p]? = some u → t.keys[p + 1]? = some v → leB v u = false) := Lib.hid (fun p u v hp => by omega)
          clear hcl HU
          simp only [Nat.add_zero] at c1
          go_wp2_with (go_at_call 72; refine (HSG.out _).mono ?_; rintro e w2 ⟨sv, rfl, _, b2⟩; have HV2 := Lib.hid (HV.out.on b2); have HB2 := Lib.hid (bT HB.out b2); obtain ⟨y0, y1, y2, y3, y4, y5⟩ := HV2.out.six)
          go_quiet (fail)
          go_wp2_with fail
          go_roundw
          case rel => exact ⟨0 + 1, by go_num, by omega, Lib.hid (HV2.out.drewN _), Lib.hid (bN HB2.out _), HA', HU'⟩
          case measure => simp [intOf]; omega
        | succ q =>
          obtain ⟨s0, hs0⟩ : ∃ y, t.keys[q]? = some y := ⟨_, List.getElem?_eq_getElem (by omega)⟩
          have HC : Hid (∀ wx, Below w.heap.size w wx → wx.cell? ⟨g, o + (q + 1), none⟩ = some (.string s1) ∧ wx.cell? ⟨g, o + q, none⟩ = some (.string s0)) := Lib.hid (fun wx h => ⟨(h.cell (p := ⟨g, o + (q + 1), none⟩) hg).trans (hcl (q + 1) s1 HS1.out), (h.cell (p := ⟨g, o + q, none⟩) hg).trans (hcl q s0 hs0)⟩)
          have HS0 := Lib.hid hs0
          have i2 : ((q : Int) + 1 - 1) = (q : Int) := by omega
          have i3 : ((q : Int) + 1).toNat = q + 1 := by omega
          have i4 : (q : Int) < (t.keys.length : Int) := by omega
          have i5 : (0 : Int) < (q : Int) + 1 := by omega
          have i6 : decide ((0 : Int) < (q : Int) + 1) = true := decide_eq_true (by omega)
          clear hcl hs0
          obtain ⟨hb1, hb2⟩ | hlb : (Op.bytesLess s1.toList s0.toList = false ∧ (s1.toList == s0.toList) = false) ∨ leB s1 s0 = true := by
            cases h1 : Op.bytesLess s1.toList s0.toList <;> cases h2 : (s1.toList == s0.toList) <;> simp [leB, h1, h2]
          · have hlb : leB s1 s0 = false := by simp only [leB, hb1, hb2, Bool.or_self]
            have HU' : Hid (∀ p u v, p + 1 < q + 1 + 1 → t.keys[p]? = some u → t.keys[p + 1]? = some v → leB v u = false) := Lib.hid (fun p u v hp hu hv => by
              by_cases e : p = q
              · subst e
                rw [HS0.out] at hu
                rw [HS1.out] at hv
                obtain rfl := Option.some.inj hu
                obtain rfl := Option.some.inj hv
                exact hlb
              · exact HU.out p u v (by omega) hu hv)
            clear HU hlb
            go_wp2_with (go_at_call 72; refine (HSG.out _).mono ?_; rintro e w2 ⟨sv, rfl, _, b2⟩; have HV2 := Lib.hid (HV.out.on b2); have HB2 := Lib.hid (bT HB.out b2); obtain ⟨y0, y1, y2, y3, y4, y5⟩ := HV2.out.six; obtain ⟨d1, d0⟩ := HC.out _ HB2.out)
            go_quiet (fail)
            go_wp2_with fail
            go_roundw
            case rel => exact ⟨q + 1 + 1, by go_num, by omega, Lib.hid (HV2.out.drewN _), Lib.hid (bN HB2.out _), HA', HU'⟩
            case measure => simp [intOf]; omega
          · have HF : Hid (b = false) := Lib.hid (by
              rw [Bool.eq_false_iff]; intro h
              have := up_next (HI.out.1 h).1.2.2.2.2.2.2 HS0.out HS1.out
              rw [hlb] at this; cases this)
            have hlb2 : (Op.bytesLess s1.toList s0.toList || s1.toList == s0.toList) = true := hlb
            clear HI hlb HU
            cases hb1 : Op.bytesLess s1.toList s0.toList
            · have hb2 : (s1.toList == s0.toList) = true := by rw [hb1, Bool.false_or] at hlb2; exact hlb2
              clear hlb2
              go_wp2_with (go_at_call 72; refine (HSG.out _).mono ?_; rintro e w2 ⟨sv, rfl, _, b2⟩; have HV2 := Lib.hid (HV.out.on b2); have HB2 := Lib.hid (bT HB.out b2); obtain ⟨y0, y1, y2, y3, y4, y5⟩ := HV2.out.six; obtain ⟨d1, d0⟩ := HC.out _ HB2.out)
              go_quiet (fail)
              go_wp2_with fail
              go_ret
              exact ⟨by rw [HF.out]; rfl, bN HB2.out _⟩
            · clear hlb2
              cases hb2 : (s1.toList == s0.toList)
              · skip
                go_wp2_with (go_at_call 72; refine (HSG.out _).mono ?_; rintro e w2 ⟨sv, rfl, _, b2⟩; have HV2 := Lib.hid (HV.out.on b2); have HB2 := Lib.hid (bT HB.out b2); obtain ⟨y0, y1, y2, y3, y4, y5⟩ := HV2.out.six; obtain ⟨d1, d0⟩ := HC.out _ HB2.out)
                go_quiet (fail)
                go_wp2_with fail
                go_ret
                exact ⟨by rw [HF.out]; rfl, bN HB2.out _⟩
              · skip
                go_wp2_with (go_at_call 72; refine (HSG.out _).mono ?_; rintro e w2 ⟨sv, rfl, _, b2⟩; have HV2 := Lib.hid (HV.out.on b2); have HB2 := Lib.hid (bT HB.out b2); obtain ⟨y0, y1, y2, y3, y4, y5⟩ := HV2.out.six; obtain ⟨d1, d0⟩ := HC.out _ HB2.out)
                go_quiet (fail)
                go_wp2_with fail
                go_ret
                exact ⟨by rw [HF.out]; rfl, bN HB2.out _⟩
      · have HKV : Hid ((∀ x ∈ t.keys, vldB (byt x) = true) ∧ Up t.keys) := Lib.hid ⟨fun x hx => by
          obtain ⟨p, hp⟩ := List.getElem?_of_mem hx
          have := (List.getElem?_eq_some_iff.1 hp).1
          exact HA.out p x (by omega) hp, up_of fun i u v hu hv => by
          have := (List.getElem?_eq_some_iff.1 hv).1
          exact HU.out i u v (by omega) hu hv⟩
        clear HA HU HK HSK
        go_wp2_with fail
        go_loopw [10] (fun i wr => ∃ j : Nat, i = .int .i64 (j : Nat) ∧ j ≤ l.length ∧ Hid (Vb wr w.heap.size #[.int .i64 k, .int .i64 c, .int .i64 s, .string st, .slice ao l.length cap, .slice ko t.keys.length kc]) ∧ Hid (Below w.heap.size w wr) ∧ Hid (∀ p z, p < j → t.items[p]? = some z → z.k ≠ 7 ∧ IsP m z)) (fun i _ => l.length - (intOf i).toNat)
        case atStart => exact ⟨0, rfl, by omega, HV, HB, Lib.hid (fun p x hp => by omega)⟩
        case round =>
          clear HV HB z0 z1 z2 z3 z4 z5
          obtain ⟨j, rfl, hj, HV, HB, HA⟩ := hrel
          obtain ⟨z0, z1, z2, z3, z4, z5⟩ := HV.out.six
          by_cases hlt : j < l.length
          · as_aux_lemma =>
            obtain ⟨y, hy⟩ : ∃ y, l[j]? = some y := ⟨l[j], List.getElem?_eq_getElem hlt⟩
            obtain ⟨z, hz⟩ : ∃ z, t.items[j]? = some z := ⟨t.items[j]'(by rw [← HL.out]; exact hlt), List.getElem?_eq_getElem _⟩
            obtain ⟨g, o, rfl, hg, hcl⟩ := H.out (by omega)
            have h6 := (hcl j y hy).on hg HB.out
            have hvt := VT.on HB.out n (HT.out j y z hy hz)
            have hf := IH.out n y z (d + 1) wr (by have := HD.out; omega) (by omega) hvt (HSI.out z (List.mem_of_getElem? hz))
            have hkz : y.k = z.k := by
              cases n with
              | zero => exact hvt.elim
              | succ n => exact hvt.1
            obtain ⟨yk, yc, ys, yst, yi, yv⟩ := y
            obtain ⟨c0, c1, c2, c3, c4, c5⟩ := h6
            simp only at c0 c1 c2 c3 c4 c5 hkz
            unfold Six.val vV at hf
            simp only at hf
            have HZ := Lib.hid hz
            have HFF := Lib.hid hf
            have HKZ := Lib.hid hkz
            have i1 : (j : Int) < (l.length : Int) := by omega
            clear hcl hy hvt hz hf H hkz
            by_cases hy7 : yk = 7
            · have HF : Hid (b = false) := Lib.hid (by
                rw [Bool.eq_false_iff]; intro h
                have := ((HI.out.1 h).2 z (List.mem_of_getElem? HZ.out)).1
                exact this (by rw [← HKZ.out]; exact hy7))
              clear HI HKZ
              subst hy7
              go_wp2_with fail
              go_ret
              exact ⟨by rw [HF.out]; rfl, HB.out⟩
            have hy7b : (yk == 7) = false := by simpa using hy7
            cases hr : isT m z
            · rw [hr] at HFF
              have HF : Hid (b = false) := Lib.hid (by
                rw [Bool.eq_false_iff]; intro h
                exact isT_no.1 hr ((HI.out.1 h).2 z (List.mem_of_getElem? HZ.out)).2)
              clear hr HI HKZ hy7
              go_wp2_with (go_at_call 57; refine HFF.out.mono ?_; rintro e w1 ⟨rfl, b1⟩)
              go_ret
              exact ⟨by rw [HF.out]; rfl, bT HB.out b1⟩
            · rw [hr] at HFF
              have HA' : Hid (∀ p z, p < j + 1 → t.items[p]? = some z → z.k ≠ 7 ∧ IsP m z) := Lib.hid (fun p z' hp hz' => by
                by_cases e : p = j
                · subst e
                  rw [HZ.out] at hz'
                  obtain rfl := Option.some.inj hz'
                  exact ⟨by rw [← HKZ.out]; exact hy7, isT_iff.1 hr⟩
                · exact HA.out p z' (by omega) hz')
              clear hr HA HKZ hy7
              go_wp2_with (go_at_call 57; refine HFF.out.mono ?_; rintro e w1 ⟨rfl, b1⟩)
              go_roundw
              case rel => exact ⟨j + 1, by go_num, by omega, Lib.hid (HV.out.on b1), Lib.hid (bT HB.out b1), HA'⟩
              case measure => simp [intOf]; omega
          · have HBT : Hid (b = true) := Lib.hid (HI.out.2 ⟨⟨⟨by omega, by omega⟩, by trivial, by trivial, Q3.out, Q6.out, HKV.out.1, HKV.out.2⟩, fun z hz => by
              obtain ⟨p, hp⟩ := List.getElem?_of_mem hz
              have := (List.getElem?_eq_some_iff.1 hp).1
              exact HA.out p z (by have := HL.out; omega) hp⟩)
            clear HA
            go_wp2_with fail
            go_ret
            exact ⟨by rw [HBT.out]; rfl, HB.out⟩
end Jv
end Go.Proofs.Ytelladgeehlkpaa
