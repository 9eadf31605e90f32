/- What the document's Unquote answers, of every string. -/
import Derived.Test.YtpddkchnogfjkaaGreatDoorUtUnquote
import Derived.Test.YtpddkchnogfjkaaGreatDoorUtRDig
import Derived.Test.YtpddkchnogfjkaaGreatDoorUtRSigns
namespace Go.Proofs.YtpddkchnogfjkaaGreatDoor
open Go.RowKit
namespace Ut
theorem own_keep {w w' : World} {B e z n : Nat} {v : Value} {xs : List Value} (hb : Below w.heap.size w w') (h : w.ownsRow B e z v n xs) : w'.ownsRow B e z v n xs := by
  refine ⟨h.1, ?_⟩
  rcases h.2 with h0 | ⟨g, cap, cur, hv, hB, hg, rest⟩
  · exact .inl h0
  · exact .inr ⟨g, cap, cur, hv, hB, (hb.block g (Array.getElem?_eq_some_iff.1 hg).1).trans hg, rest⟩
theorem esc_one (a : Nat) : esc [a] = none := rfl
theorem esc_bad {a c : Nat} {t : List Nat} (h : c ≠ 117) (hs : smp c = none) : esc (a :: c :: t) = none := by rw [esc_smp a c t h, hs]
theorem esc_short {a c d : Nat} {t : List Nat} (h : c ≠ 117) (hs : smp c = some d) : esc (a :: c :: t) = some (d, 2) := by rw [esc_smp a c t h, hs]
theorem smp_lt {c d : Nat} (hs : smp c = some d) : d < 128 := by
  unfold smp at hs
  repeat (split at hs; · simp at hs; omega)
  simp at hs
theorem esc_u0 {t : List Nat} (h : four t = none) : esc (92 :: 117 :: t) = none := by rw [esc_numb]; unfold numb; rw [unum_92, h]
theorem esc_u1 {t : List Nat} {n : Nat} (h : four t = some n) (h2 : ¬ ((55296 ≤ n ∧ n < 56320) ∧ (t.drop 4).getD 0 0 = 92 ∧ (t.drop 4).getD 1 0 = 117)) : esc (92 :: 117 :: t) = some (n, 6) := by
  rw [esc_numb]; unfold numb
  rw [unum_92, h, show (92 :: 117 :: t).drop 6 = t.drop 4 from rfl, unum_eq]
  simp only
  by_cases g : (t.drop 4).getD 0 0 = 92 ∧ (t.drop 4).getD 1 0 = 117
  · rw [if_pos g]
    cases four ((t.drop 4).drop 2) with
    | none => rfl
    | some m => simp only; rw [if_neg (fun x => h2 ⟨x.1, g⟩)]
  · rw [if_neg g]
theorem esc_u2 {t : List Nat} {n m : Nat} (h : four t = some n) (h2 : (t.drop 4).getD 0 0 = 92 ∧ (t.drop 4).getD 1 0 = 117) (hm : four (t.drop 6) = some m) :
    esc (92 :: 117 :: t) = if (55296 ≤ n ∧ n < 56320) ∧ (56320 ≤ m ∧ m < 57344) then some (65536 + 1024 * (n - 55296) + (m - 56320), 12) else some (n, 6) := by
  rw [esc_numb]; unfold numb
  rw [unum_92, h, show (92 :: 117 :: t).drop 6 = t.drop 4 from rfl, unum_eq, if_pos h2, List.drop_drop, hm]
/-- a high surrogate, behind it a wrong escape -/
theorem unq_u3 {l t : List Nat} {k n : Nat} {o : Option (List Nat)} (he : unq l = cmb o (unq (l.drop k))) (hl : l.drop k = 92 :: 117 :: t) (h : four t = some n) (hn : 55296 ≤ n ∧ n < 56320) (h2 : (t.drop 4).getD 0 0 = 92 ∧ (t.drop 4).getD 1 0 = 117) (hm : four (t.drop 6) = none) : unq l = none := by
  have e1 : esc (92 :: 117 :: t) = some (n, 6) := by
    rw [esc_numb]; unfold numb
    rw [unum_92, h, show (92 :: 117 :: t).drop 6 = t.drop 4 from rfl, unum_eq, if_pos h2, List.drop_drop, hm]
  have e2 := unq_go he (by rw [hl]; exact stp_sur e1 (by omega))
  have e3 : l.drop (k + 6) = t.drop 4 := by rw [← List.drop_drop, hl]; rfl
  obtain ⟨y, hy⟩ : ∃ y, t.drop 4 = 92 :: 117 :: y := by
    match hd : t.drop 4, h2 with
    | a :: b :: y, h2 => simp at h2; obtain ⟨rfl, rfl⟩ := h2; exact ⟨y, rfl⟩
    | [_], h2 => simp at h2
    | [], h2 => simp at h2
  have e4 : t.drop 6 = y := by
    have := congrArg (List.drop 2) hy
    rw [List.drop_drop] at this
    exact this
  refine unq_form e2 (by rw [e3, hy]; simp) ?_
  rw [e3, hy]
  exact stp_none (esc_u0 (by rw [← e4]; exact hm))
theorem URel.skip {l : List Nat} {w wr : World} {k n : Nat} {o : Option (List Nat)} {out : List Nat} {v : Value} (h : URel l w k o out v wr) (hs : stp (l.drop k) = some (none, n)) : URel l w (k + n) none out v wr := by
  have hn := stp_n hs
  rw [List.length_drop] at hn
  have hle := h.le
  have hlen := h.len
  have := unq_go h.eq hs
  rw [app_none] at this
  exact ⟨by omega, this, fun a ha => by simp at ha, by omega, h.buf, h.bel⟩
theorem drop_u {l : List Nat} {k : Nat} {T : List Nat} (h : l.drop k = 92 :: 117 :: T) (j : Nat) : T.drop j = l.drop (k + 2 + j) := by
  have := congrArg (List.drop (2 + j)) h
  rw [List.drop_drop] at this
  rw [show k + 2 + j = k + (2 + j) by omega, this, Nat.add_comm 2 j]
  rfl
set_option maxRecDepth 100000 in
set_option maxHeartbeats 2000000 in
theorem runquote_any (t : ByteArray) (w : World) (hs : t.size ≤ 100000000) :
    Calls Tryz.prog 16 #[.string t] w fun e w' => e = .returned (ansV (rdO t)) ∧ Below w.heap.size w w' := by
  obtain ⟨i0, hi, hz0, hz1, hz2⟩ := info_parts info_b
  by_cases h2 : t.size < 2
  · have hr : Hid (rdO t = none) := Lib.hid (by unfold rdO; rw [if_pos (.inl h2)])
    go_enter Tryz.func16, Tryz.ntmps16
    go_wp2
    go_ret2
    exact ⟨ansV_none hr.out, Below.refl _ _⟩
  by_cases h0 : t[0].toNat = 34
  case neg =>
    have hr : Hid (rdO t = none) := Lib.hid (by unfold rdO; rw [if_pos (.inr (.inl (by rw [byt_getD0 t 0 (by omega)]; exact h0)))])
    have hne : ((t[0].toNat : Int) != 34) = true := by simp; omega
    go_enter Tryz.func16, Tryz.ntmps16
    go_wp2
    go_ret2
    exact ⟨ansV_none hr.out, Below.refl _ _⟩
  have h1i : ((t.size : Int) - 1).toNat = t.size - 1 := by omega
  have hlt1 : t.size - 1 < t.size := by omega
  by_cases h1 : t[t.size - 1].toNat = 34
  case neg =>
    have hr : Hid (rdO t = none) := Lib.hid (by unfold rdO; rw [if_pos (.inr (.inr (by rw [byt_getD0 t (t.size - 1) (by omega)]; exact h1)))])
    have hne : ((t[t.size - 1].toNat : Int) != 34) = true := by simp; omega
    go_enter Tryz.func16, Tryz.ntmps16
    go_wp2
    go_ret2
    exact ⟨ansV_none hr.out, Below.refl _ _⟩
  go_enter Tryz.func16, Tryz.ntmps16
  go_upto_region 4 with (fail)
  generalize hu : t.extract 1 (t.size - 1) = u
  have hus : u.size = t.size - 2 := by rw [← hu, ByteArray.size_extract]; omega
  have hr : rdO t = unq (byt u) := by
    unfold rdO; rw [if_neg, hu]
    rw [byt_getD0 t 0 (by omega), byt_getD0 t (t.size - 1) (by omega)]; omega
  have HR0 := Lib.hid hr
  have husb : u.size ≤ 100000000 := by omega
  clear hr hu hus h1 h0 h2 hlt1 h1i
  obtain ⟨l, hl⟩ : ∃ l, byt u = l := ⟨_, rfl⟩
  have hll : l.length = u.size := by rw [← hl, byt_len]
  have HL := Lib.hid hl
  rw [hl] at HR0
  clear hl
  go_wp2
  go_loopw [4, 5, 6, 7, 8, 9, 10] (fun v al i _ _ _ _ wr => ∃ (k : Nat) (o : Option (List Nat)) (out : List Nat), i = .int .i64 k ∧ al = .bool o.isNone ∧ URel l w k o out v wr) (fun _ _ i _ _ _ _ _ => u.size - (intOf i).toNat)
  case atStart => exact ⟨0, some [], [], rfl, rfl, by omega, by rw [List.drop_zero, cmb_nil], by simp, by simp, ⟨World.ownsRow_nil _ _ _ _, Nat.le_refl _⟩, Below.refl _ _⟩
  case round =>
    obtain ⟨k, o, out, rfl, rfl, hr⟩ := hrel
    have HR := Lib.hid hr
    have hle := hr.le
    have hlen := hr.len
    clear hr
    by_cases hlt : k < u.size
    · obtain ⟨a, ha⟩ : ∃ a, u[k].toNat = a := ⟨_, rfl⟩
      have ha256 : a < 256 := by rw [← ha]; exact u[k].toNat_lt
      have hd := byt_at u k hlt
      rw [HL.out, ha] at hd
      have HD := Lib.hid hd
      clear hd
      by_cases h34 : a = 34
      · have hn : Hid (rdO t = none) := Lib.hid (by rw [HR0.out]; exact unq_form HR.out.eq (by rw [HD.out]; simp) (by rw [HD.out]; exact stp_bad _ (.inl h34)))
        subst h34
        go_wp2
        go_ret2
        exact ⟨ansV_none hn.out, HR.out.bel⟩
      have e34 : ((a : Int) == 34) = false := by simp; omega
      by_cases h32 : a < 32
      · have hn : Hid (rdO t = none) := Lib.hid (by rw [HR0.out]; exact unq_form HR.out.eq (by rw [HD.out]; simp) (by rw [HD.out]; exact stp_bad _ (.inr h32)))
        go_wp2
        go_ret2
        exact ⟨ansV_none hn.out, HR.out.bel⟩
      by_cases h92 : a = 92
      case neg =>
        have hst : Hid (stp (l.drop k) = some (some [a], 1)) := Lib.hid (by rw [HD.out]; exact stp_raw _ (by omega) h92)
        have e92 : ((a : Int) != 92) = true := by simp; omega
        go_wp2_with (at_builtin; refine wpList_append_own _ rfl _ _ 53 rfl w.heap.size 5 i0 (.int .u8 0) 1 1 Tryz.underlying53 hi hz0 hz1 hz2 rfl (by decide) _ _ _ rfl (HR.out.buf.own.alloc _) ⟨wr.heap.size, 0, none⟩ 1 1 (cel [a]) rfl rfl ?d1 ?d2 ?d3 ?d4 ?d5 ?d6)
        case d1 => exact cells_put wr _
        case d2 => exact cel_one _
        case d3 => unfold maxLen; omega
        case d4 => omega
        case d5 => have := HR.out.buf.le; simp; omega
        case d6 =>
          intro v3 w3 hown3 hgrow3 _
          have hg3 := HR.out.buf.grew (m := [a]) rfl hown3 hgrow3
          clear hown3 hgrow3
          go_wp2
          go_roundw
          case rel => exact ⟨k + 1, app o (some [a]), out ++ [a], by go_num, by rw [app_isNone], HR.out.next hst.out (fun b hb => by simpa using hb) (by simp) hg3⟩
          case measure => simp [intOf]; omega
      subst h92
      clear e34 h34 h32 ha256
      by_cases hk1 : u.size ≤ k + 1
      · have hn : Hid (rdO t = none) := Lib.hid (by rw [HR0.out]; exact unq_form HR.out.eq (by rw [HD.out]; simp) (by rw [HD.out, List.drop_of_length_le (by omega)]; exact stp_none (esc_one _)))
        go_wp2
        go_ret2
        exact ⟨ansV_none hn.out, HR.out.bel⟩
      have hlt1 : k + 1 < u.size := by omega
      obtain ⟨c, hc⟩ : ∃ c, u[k + 1].toNat = c := ⟨_, rfl⟩
      have hc256 : c < 256 := by rw [← hc]; exact u[k + 1].toNat_lt
      have hd2 := byt_at u (k + 1) hlt1
      rw [HL.out, hc] at hd2
      have hd3 := HD.out
      rw [hd2] at hd3
      have HD2 := Lib.hid hd3
      clear hd2 hd3 HD
      by_cases h117 : c = 117
      case neg =>
        have e117 : ((c : Int) != 117) = true := by simp; omega
        have hsm := fun w => rsimple_any c w hc256
        cases hsp : smp c with
        | none =>
          have hn : Hid (rdO t = none) := Lib.hid (by rw [HR0.out]; exact unq_form HR.out.eq (by rw [HD2.out]; simp) (by rw [HD2.out]; exact stp_none (esc_bad h117 hsp)))
          rw [hsp] at hsm
          unfold orM at hsm
          simp only at hsm
          clear hsp
          go_wp2_with (go_at_call 28; refine (hsm _).mono ?_; rintro e w' ⟨rfl, rfl⟩)
          go_ret2
          exact ⟨ansV_none hn.out, HR.out.bel⟩
        | some d =>
          have hd128 := smp_lt hsp
          have hst : Hid (stp (l.drop k) = some (some [d], 2)) := Lib.hid (by rw [HD2.out, stp_put (esc_short h117 hsp) (by omega), put1 hd128])
          rw [hsp] at hsm
          unfold orM at hsm
          simp only at hsm
          clear hsp
          go_wp2_with (first | (go_at_call 28; refine (hsm _).mono ?_; rintro e w' ⟨rfl, rfl⟩) | (at_builtin; refine wpList_append_own _ rfl _ _ 53 rfl w.heap.size 5 i0 (.int .u8 0) 1 1 Tryz.underlying53 hi hz0 hz1 hz2 rfl (by decide) _ _ _ rfl (HR.out.buf.own.alloc _) ⟨wr.heap.size, 0, none⟩ 1 1 (cel [d]) rfl rfl ?e1 ?e2 ?e3 ?e4 ?e5 ?e6))
          case e1 => exact cells_put wr _
          case e2 => exact cel_one _
          case e3 => unfold maxLen; omega
          case e4 => omega
          case e5 => have := HR.out.buf.le; simp; omega
          case e6 =>
            intro v3 w3 hown3 hgrow3 _
            have hg3 := HR.out.buf.grew (m := [d]) rfl hown3 hgrow3
            clear hown3 hgrow3
            go_wp2
            go_roundw
            case rel => exact ⟨k + 2, app o (some [d]), out ++ [d], by go_num, by rw [app_isNone], HR.out.next hst.out (fun b hb => by simpa using hb) (by simp) hg3⟩
            case measure => simp [intOf]; omega
      subst h117
      clear hc256
      have hf4 := fun w => rfour_any u (k + 2) w (by omega) (by omega)
      rw [HL.out] at hf4
      obtain ⟨T, hT⟩ : ∃ T, l.drop (k + 1 + 1) = T := ⟨_, rfl⟩
      rw [hT] at HD2
      rw [show k + 2 = k + 1 + 1 from rfl, hT] at hf4
      have hTj := fun j => drop_u HD2.out j
      have HTJ := Lib.hid hTj
      clear hT hTj
      cases hfo : four T with
      | none =>
        have hn : Hid (rdO t = none) := Lib.hid (by rw [HR0.out]; exact unq_form HR.out.eq (by rw [HD2.out]; simp) (by rw [HD2.out]; exact stp_none (esc_u0 hfo)))
        rw [hfo] at hf4
        unfold orM at hf4
        simp only at hf4
        clear hfo
        go_wp2_with (go_at_call 29; refine (hf4 _).mono ?_; rintro e w' ⟨rfl, rfl⟩)
        go_ret2
        exact ⟨ansV_none hn.out, HR.out.bel⟩
      | some n =>
        have hnn := (four_lt hfo).1
        have hn4 := (four_lt hfo).2
        have HFO := Lib.hid hfo
        rw [hfo] at hf4
        unfold orM at hf4
        simp only at hf4
        have hTl : T.length + 2 + k = l.length := by
          have := congrArg List.length HD2.out
          rw [List.length_drop, List.length_cons, List.length_cons] at this
          omega
        clear hfo
        obtain ⟨N, hN⟩ : ∃ N : Int, ((n : Nat) : Int) = N := ⟨_, rfl⟩
        rw [hN] at hf4
        have hN0 : 0 ≤ N := by omega
        have hN1 : N < 65536 := by omega
        have HN := Lib.hid hN
        have HNN := Lib.hid hnn
        clear hN hnn
        go_upto_region 26 with (go_at_call 29; refine (hf4 _).mono ?_; rintro e w' ⟨rfl, rfl⟩)
        obtain ⟨j, hj⟩ : ∃ j : Nat, j = k + 6 := ⟨_, rfl⟩
        have hji : (k : Int) + 6 = (j : Nat) := by omega
        rw [hji]
        clear hji
        have hju : j ≤ u.size := by omega
        have hT4 : T.drop 4 = (byt u).drop j := by rw [HTJ.out, HL.out, hj]
        have HT4 := Lib.hid hT4
        have HJ := Lib.hid hj
        clear hT4 hj
        go_cut [112] (fun s112 wx => wr = wx ∧ ∃ q : Bool, s112 = .bool q ∧ Hid (q = decide ((55296 ≤ N ∧ N < 56320) ∧ (T.drop 4).getD 0 0 = 92 ∧ (T.drop 4).getD 1 0 = 117)))
        case first =>
          by_cases g1 : 55296 ≤ N
          case neg =>
            go_wp2
            go_meet
            exact ⟨rfl, _, rfl, Lib.hid (by rw [decide_eq_false (fun h => by have := h.1.1; omega)]; try (simp; omega))⟩
          by_cases g2 : N < 56320
          case neg =>
            go_wp2
            go_meet
            exact ⟨rfl, _, rfl, Lib.hid (by rw [decide_eq_false (fun h => by have := h.1.2; omega)]; try (simp; omega))⟩
          by_cases g3 : j + 1 < u.size
          case neg =>
            have hz : Hid ((T.drop 4).getD 1 0 = 0) := Lib.hid (by rw [HT4.out, List.getD_eq_getElem?_getD, List.getElem?_drop, List.getElem?_eq_none (by rw [byt_len]; omega)]; rfl)
            go_wp2
            go_meet
            exact ⟨rfl, _, rfl, Lib.hid (by rw [decide_eq_false (fun h => by have := h.2.2; rw [hz.out] at this; omega)]; try (simp; omega))⟩
          obtain ⟨x, hx⟩ : ∃ x, u[j].toNat = x := ⟨_, rfl⟩
          obtain ⟨y, hy⟩ : ∃ y, u[j + 1].toNat = y := ⟨_, rfl⟩
          have HX : Hid ((T.drop 4).getD 0 0 = x) := Lib.hid (by rw [HT4.out, byt_getD2 u j 0 (by omega)]; exact hx)
          have HY : Hid ((T.drop 4).getD 1 0 = y) := Lib.hid (by rw [HT4.out, byt_getD2 u j 1 g3]; exact hy)
          by_cases x92 : x = 92
          case neg =>
            have e92 : ((x : Int) == 92) = false := by simp; omega
            go_wp2
            go_meet
            exact ⟨rfl, _, rfl, Lib.hid (by rw [decide_eq_false (fun h => by have := h.2.1; rw [HX.out] at this; omega)]; try (simp; omega))⟩
          subst x92
          by_cases y117 : y = 117
          case neg =>
            have e117 : ((y : Int) == 117) = false := by simp; omega
            go_wp2
            go_meet
            exact ⟨rfl, _, rfl, Lib.hid (by rw [decide_eq_false (fun h => by have := h.2.2; rw [HY.out] at this; omega)]; try (simp; omega))⟩
          subst y117
          go_wp2
          go_meet
          exact ⟨rfl, _, rfl, Lib.hid (by rw [decide_eq_true ⟨⟨g1, g2⟩, HX.out, HY.out⟩]; try (simp; omega))⟩
        case rest =>
        obtain ⟨rfl, q, rfl, HQ⟩ := hcut
        have hq := HQ.out
        by_cases hcond : (55296 ≤ N ∧ N < 56320) ∧ (T.drop 4).getD 0 0 = 92 ∧ (T.drop 4).getD 1 0 = 117
        · rw [decide_eq_true hcond] at hq
          subst hq
          obtain ⟨⟨g1, g2⟩, hxy⟩ := hcond
          have HXY := Lib.hid hxy
          clear hxy
          have e6 : (byt u).drop (j + 2) = T.drop 6 := by rw [HTJ.out, HL.out, HJ.out]
          have hg4 : ∀ w, Calls Tryz.prog 29 #[.string u, .int .i64 ((j : Int) + 2)] w fun e w' => e = .returned (.int .i64 (orM (four (T.drop 6)))) ∧ w = w' := fun w => by
            have := rfour_any u (j + 2) w (by omega) (by omega)
            rw [e6] at this
            exact this
          clear e6
          cases hfm : four (T.drop 6) with
          | none =>
            have hn : Hid (rdO t = none) := Lib.hid (by rw [HR0.out]; exact unq_u3 HR.out.eq HD2.out HFO.out (by have := HN.out; omega) HXY.out hfm)
            rw [hfm] at hg4
            unfold orM at hg4
            simp only at hg4
            clear hfm
            go_upto_if 112 with (fail)
            go_wp2_with (go_at_call 29; refine (hg4 _).mono ?_; rintro e w' ⟨rfl, rfl⟩)
            go_ret2
            exact ⟨ansV_none hn.out, HR.out.bel⟩
          | some m =>
            have hmm := (four_lt hfm).1
            have hesc := esc_u2 HFO.out HXY.out hfm
            rw [hfm] at hg4
            unfold orM at hg4
            simp only at hg4
            clear hfm
            obtain ⟨M, hM⟩ : ∃ M : Int, ((m : Nat) : Int) = M := ⟨_, rfl⟩
            rw [hM] at hg4
            have hM0 : 0 ≤ M := by omega
            have hM1 : M < 65536 := by omega
            by_cases hlow : 56320 ≤ M ∧ M < 57344
            · rw [if_pos (by have := HN.out; omega)] at hesc
              obtain ⟨hl1, hl2⟩ := hlow
              obtain ⟨c, hcc⟩ : ∃ c, c = 65536 + 1024 * (n - 55296) + (m - 56320) := ⟨_, rfl⟩
              have hci : 65536 + 1024 * (N - 55296) + M - 56320 = (c : Nat) := by have := HN.out; omega
              rw [← hcc] at hesc
              have hc16 : 65536 ≤ c ∧ c < 1114112 := by have := HN.out; omega
              have hst : Hid (stp (l.drop k) = some (some (put c), 12)) := Lib.hid (by rw [HD2.out]; exact stp_put hesc (by omega))
              have hpa : ∀ w, Calls Tryz.prog 30 #[.int .i64 (65536 + 1024 * (N - 55296) + M - 56320)] w _ := fun w => by rw [hci]; exact put_any c w (by omega)
              have hpl2 := put_len c
              have hkn := stp_n hst.out
              rw [List.length_drop] at hkn
              obtain ⟨_, hkn, _⟩ := hkn
              obtain ⟨p, hp⟩ : ∃ p, put c = p := ⟨_, rfl⟩
              rw [hp] at hpa hpl2 hst
              clear hp hesc hci hcc hM hmm hc16
              go_upto_if 112 with (fail)
              go_wp2_with (first | (go_at_call 29; refine (hg4 _).mono ?_; rintro e w' ⟨rfl, rfl⟩) | (go_at_call 30; refine (hpa _).mono ?_; rintro e w' ⟨rfl, rfl⟩) | (at_builtin; refine wpList_append_own _ rfl _ _ 53 rfl w.heap.size 5 i0 (.int .u8 0) 1 1 Tryz.underlying53 hi hz0 hz1 hz2 rfl (by decide) _ _ _ rfl (HR.out.buf.own.alloc _) ⟨wr.heap.size, 0, none⟩ p.length p.length (cel p) rfl (by rw [cel_len]; omega) ?f1 ?f2 ?f3 ?f4 ?f5 ?f6))
              case f1 => exact cells_put wr _
              case f2 => exact cel_one _
              case f3 => unfold maxLen; omega
              case f4 => omega
              case f5 => have := HR.out.buf.le; simp; omega
              case f6 =>
                intro v3 w3 hown3 hgrow3 _
                have hg3 := HR.out.buf.grew (m := p) rfl hown3 hgrow3
                clear hown3 hgrow3
                go_wp2
                go_roundw
                case rel => exact ⟨k + 12, app o (some p), out ++ p, by have := HJ.out; go_num, by rw [app_isNone], HR.out.next hst.out (fun b hb => by simpa using hb) (by omega) hg3⟩
                case measure => have := HJ.out; simp [intOf]; omega
            · rw [if_neg (fun h => by have := h.2; omega)] at hesc
              have hst : Hid (stp (l.drop k) = some (none, 6)) := Lib.hid (by rw [HD2.out]; exact stp_sur hesc (by have := HN.out; omega))
              clear hesc hM hmm
              go_upto_if 112 with (fail)
              go_wp2_with (go_at_call 29; refine (hg4 _).mono ?_; rintro e w' ⟨rfl, rfl⟩)
              all_goals
                go_roundw
                case rel => exact ⟨k + 6, none, out, by have := HJ.out; go_num, rfl, HR.out.skip hst.out⟩
                case measure => have := HJ.out; simp [intOf]; omega
        · rw [decide_eq_false hcond] at hq
          subst hq
          have hesc := esc_u1 HFO.out (fun h => hcond ⟨by have := HN.out; omega, h.2⟩)
          clear hcond
          by_cases hsu : 55296 ≤ N ∧ N < 57344
          · have hst : Hid (stp (l.drop k) = some (none, 6)) := Lib.hid (by rw [HD2.out]; exact stp_sur hesc (by have := HN.out; omega))
            obtain ⟨g1, g2⟩ := hsu
            clear hesc
            go_upto_if 112 with (fail)
            go_wp2
            go_roundw
            case rel => exact ⟨k + 6, none, out, by have := HJ.out; go_num, rfl, HR.out.skip hst.out⟩
            case measure => have := HJ.out; simp [intOf]; omega
          · have hst : Hid (stp (l.drop k) = some (some (put n), 6)) := Lib.hid (by rw [HD2.out]; exact stp_put hesc (by have := HN.out; omega))
            have hpa : ∀ w, Calls Tryz.prog 30 #[.int .i64 N] w _ := fun w => by rw [← HN.out]; exact put_any n w (by have := HNN.out; omega)
            have hpl2 := put_len n
            obtain ⟨p, hp⟩ : ∃ p, put n = p := ⟨_, rfl⟩
            rw [hp] at hpa hpl2 hst
            clear hp hesc
            go_upto_if 112 with (fail)
            go_upto_region 33 with (fail)
            go_cut [142] (fun s142 wx => wr = wx ∧ s142 = .bool false)
            case first =>
              by_cases g1 : 55296 ≤ N
              · have g2 : 57344 ≤ N := by omega
                go_wp2
                go_meet
                exact ⟨rfl, by first | rfl | (simp; done) | (simp; omega)⟩
              · go_wp2
                go_meet
                exact ⟨rfl, by first | rfl | (simp; done) | (simp; omega)⟩
            case rest =>
            obtain ⟨rfl, rfl⟩ := hcut
            go_upto_if 142 with (fail)
            go_wp2_with (first | (go_at_call 30; refine (hpa _).mono ?_; rintro e w' ⟨rfl, rfl⟩) | (at_builtin; refine wpList_append_own _ rfl _ _ 53 rfl w.heap.size 5 i0 (.int .u8 0) 1 1 Tryz.underlying53 hi hz0 hz1 hz2 rfl (by decide) _ _ _ rfl (HR.out.buf.own.alloc _) ⟨wr.heap.size, 0, none⟩ p.length p.length (cel p) rfl (by rw [cel_len]; omega) ?g1 ?g2 ?g3 ?g4 ?g5 ?g6))
            case g1 => exact cells_put wr _
            case g2 => exact cel_one _
            case g3 => unfold maxLen; omega
            case g4 => omega
            case g5 => have := HR.out.buf.le; simp; omega
            case g6 =>
              intro v3 w3 hown3 hgrow3 _
              have hg3 := HR.out.buf.grew (m := p) rfl hown3 hgrow3
              clear hown3 hgrow3
              go_wp2
              go_roundw
              case rel => exact ⟨k + 6, app o (some p), out ++ p, by have := HJ.out; go_num, by rw [app_isNone], HR.out.next hst.out (fun b hb => by simpa using hb) (by omega) hg3⟩
              case measure => have := HJ.out; simp [intOf]; omega
    · have hen : Hid (rdO t = some o) := Lib.hid (by rw [HR0.out]; exact unq_end HR.out.eq (by omega))
      have hcv := conv_own HR.out.buf.own
      have hsz : (str out).size ≤ 1000000000 := by rw [str_len]; omega
      have hrs := fun w => rsigns_any (str out) w hsz
      unfold SigsPost at hrs
      clear hsz
      cases o with
      | none =>
        go_wp2_with (go_at_call 31; refine (hrs _).mono ?_; rintro e w5 ⟨v5, rfl, _, b5⟩)
        go_ret2
        exact ⟨ansV_lone hen.out, HR.out.bel.trans (b5.mono HR.out.bel.size)⟩
      | some b =>
        obtain rfl := HR.out.is b rfl
        cases hv : vldB (byt (str out)) with
        | false =>
          rw [hv] at hrs
          have HV := Lib.hid hv
          clear hv
          go_wp2_with (go_at_call 31; refine (hrs _).mono ?_; rintro e w5 ⟨v5, rfl, _, b5⟩)
          go_ret2
          exact ⟨ansV_bad hen.out HV.out, HR.out.bel.trans (b5.mono HR.out.bel.size)⟩
        | true =>
          rw [hv] at hrs
          have HV := Lib.hid hv
          clear hv
          go_wp2_with (go_at_call 31; refine (hrs _).mono ?_; rintro e w5 ⟨v5, rfl, _, b5⟩; have hcv5 := conv_own (own_keep b5 HR.out.buf.own))
          go_ret2
          exact ⟨ansV_ok hen.out HV.out, HR.out.bel.trans (b5.mono HR.out.bel.size)⟩
end Ut
end Go.Proofs.YtpddkchnogfjkaaGreatDoor
