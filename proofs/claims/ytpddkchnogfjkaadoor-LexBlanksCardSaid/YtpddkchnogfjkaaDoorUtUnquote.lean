/- What utf.Unquote answers, of every string. -/
import Derived.Test.YtpddkchnogfjkaaDoorUtUnq
namespace Go.Proofs.YtpddkchnogfjkaaDoor
open Go.RowKit
namespace Ut
theorem ansV_none {o : Option (Option (List Nat))} (h : o = none) : Ending.returned (.tuple #[.string ⟨#[]⟩, .int .i64 3]) = .returned (ansV o) := by rw [h]; rfl
theorem ansV_lone {o : Option (Option (List Nat))} (h : o = some none) : Ending.returned (.tuple #[.string ⟨#[]⟩, .int .i64 7]) = .returned (ansV o) := by rw [h]; rfl
theorem ansV_bad {o : Option (Option (List Nat))} {b : List Nat} (h : o = some (some b)) (hv : vldB (byt (str b)) = false) : Ending.returned (.tuple #[.string ⟨#[]⟩, .int .i64 7]) = .returned (ansV o) := by
  rw [h]; unfold ansV; simp only; rw [hv]; rfl
theorem ansV_ok {o : Option (Option (List Nat))} {b : List Nat} (h : o = some (some b)) (hv : vldB (byt (str b)) = true) : Ending.returned (.tuple #[.string (str b), .int .i64 0]) = .returned (ansV o) := by
  rw [h]; unfold ansV; simp only; rw [hv]; rfl
set_option maxRecDepth 100000 in
set_option maxHeartbeats 4000000 in
theorem unquote_any (t : ByteArray) (w : World) (hs : t.size ≤ 1000000000) :
    Calls Tryd.prog 33 #[.string t] w fun e w' => e = .returned (ansV (rdO t)) ∧ Below w.heap.size w w' := by
  obtain ⟨i0, hi, hz0, hz1, hz2⟩ := info_parts info_b
  by_cases h2 : t.size < 2
  · have hr : Hid (rdO t = none) := Lib.hid (by unfold rdO; rw [if_pos (.inl h2)])
    go_enter Tryd.func33, Tryd.ntmps33
    go_wp2
    go_ret2
    exact ⟨ansV_none hr.out, Below.refl _ _⟩
  by_cases h0 : t[0].toNat = 34
  case neg =>
    have hr : Hid (rdO t = none) := Lib.hid (by unfold rdO; rw [if_pos (.inr (.inl (by rw [byt_getD0 t 0 (by omega)]; exact h0)))])
    have hne : ((t[0].toNat : Int) != 34) = true := by simp; omega
    go_enter Tryd.func33, Tryd.ntmps33
    go_wp2
    go_ret2
    exact ⟨ansV_none hr.out, Below.refl _ _⟩
  have h1i : ((t.size : Int) - 1).toNat = t.size - 1 := by omega
  have hlt1 : t.size - 1 < t.size := by omega
  by_cases h1 : t[t.size - 1].toNat = 34
  case neg =>
    have hr : Hid (rdO t = none) := Lib.hid (by unfold rdO; rw [if_pos (.inr (.inr (by rw [byt_getD0 t (t.size - 1) (by omega)]; exact h1)))])
    have hne : ((t[t.size - 1].toNat : Int) != 34) = true := by simp; omega
    go_enter Tryd.func33, Tryd.ntmps33
    go_wp2
    go_ret2
    exact ⟨ansV_none hr.out, Below.refl _ _⟩
  go_enter Tryd.func33, Tryd.ntmps33
  go_upto_region 4 with (fail)
  generalize hu : t.extract 1 (t.size - 1) = u
  have hus : u.size = t.size - 2 := by rw [← hu, ByteArray.size_extract]; omega
  have hr : rdO t = unq (byt u) := by
    unfold rdO; rw [if_neg, hu]
    rw [byt_getD0 t 0 (by omega), byt_getD0 t (t.size - 1) (by omega)]; omega
  have HR0 := Lib.hid hr
  obtain ⟨us, hus'⟩ : ∃ us, us = u.size := ⟨_, rfl⟩
  have husb : u.size ≤ 1000000000 := by omega
  clear hr hu hus h1 h0 h2 hlt1 h1i hus'
  obtain ⟨l, hl⟩ : ∃ l, byt u = l := ⟨_, rfl⟩
  have hll : l.length = u.size := by rw [← hl, byt_len]
  have HL := Lib.hid hl
  rw [hl] at HR0
  clear hl
  obtain ⟨W0, hmk, hown0, hg0⟩ := run_make_own (P := Tryd.prog) w w.heap.size 26 5 i0 _ 1 Tryd.underlying26 hi hz0 hz1 .i64 .i64 u.size (by rw [hz2]; omega) (by unfold maxLen; omega) (Nat.le_refl _)
  have hb0 : Below w.heap.size w W0 := (Below.refl _ _).grown hg0 (Nat.le_refl _) (fun k hk => by simp at hk)
  have HB : Hid (Buf w.heap.size W0 (.slice (some ⟨w.heap.size, 0, none⟩) 0 u.size) []) := Lib.hid ⟨hown0, hb0.size⟩
  have HB0 := Lib.hid hb0
  clear hown0 hg0 hb0
  go_wp2
  go_loopw [5, 6, 7, 8, 9] (fun v al i _ _ wr => ∃ (k : Nat) (o : Option (List Nat)) (out : List Nat), i = .int .i64 k ∧ al = .bool o.isNone ∧ URel l w k o out v wr) (fun _ _ i _ _ _ => u.size - (intOf i).toNat)
  case atStart => exact ⟨0, some [], [], rfl, rfl, by omega, by rw [List.drop_zero, cmb_nil], by simp, by simp, HB.out, HB0.out⟩
  case round =>
    obtain ⟨k, o, out, rfl, rfl, hr⟩ := hrel
    have HR := Lib.hid hr
    have hle := hr.le
    have hlen := hr.len
    clear hr
    by_cases hlt : k < u.size
    · obtain ⟨a, ha⟩ : ∃ a, u[k].toNat = a := ⟨_, rfl⟩
      have ha256 : a < 256 := by rw [← ha]; exact u[k].toNat_lt
      have hd := byt_at u k hlt
      rw [HL.out, ha] at hd
      have HD := Lib.hid hd
      clear hd
      by_cases h34 : a = 34
      · have hn : Hid (rdO t = none) := Lib.hid (by rw [HR0.out]; exact unq_form HR.out.eq (by rw [HD.out]; simp) (by rw [HD.out]; exact stp_bad _ (.inl h34)))
        subst h34
        go_wp2
        go_ret2
        exact ⟨ansV_none hn.out, HR.out.bel⟩
      have e34 : ((a : Int) == 34) = false := by simp; omega
      by_cases h32 : a < 32
      · have hn : Hid (rdO t = none) := Lib.hid (by rw [HR0.out]; exact unq_form HR.out.eq (by rw [HD.out]; simp) (by rw [HD.out]; exact stp_bad _ (.inr h32)))
        go_wp2
        go_ret2
        exact ⟨ansV_none hn.out, HR.out.bel⟩
      by_cases h92 : a = 92
      case neg =>
        have hst : Hid (stp (l.drop k) = some (some [a], 1)) := Lib.hid (by rw [HD.out]; exact stp_raw _ (by omega) h92)
        have e92 : ((a : Int) != 92) = true := by simp; omega
        go_wp2_with (at_builtin; refine wpList_append_own _ rfl _ _ 26 rfl w.heap.size 5 i0 (.int .u8 0) 1 1 Tryd.underlying26 hi hz0 hz1 hz2 rfl (by decide) _ _ _ rfl (HR.out.buf.own.alloc _) ⟨wr.heap.size, 0, none⟩ 1 1 (cel [a]) rfl rfl ?d1 ?d2 ?d3 ?d4 ?d5 ?d6)
        case d1 => exact cells_put wr _
        case d2 => exact cel_one _
        case d3 => unfold maxLen; omega
        case d4 => omega
        case d5 => have := HR.out.buf.le; simp; omega
        case d6 =>
          intro v3 w3 hown3 hgrow3 _
          have hg3 := HR.out.buf.grew (m := [a]) rfl hown3 hgrow3
          clear hown3 hgrow3
          go_wp2
          go_roundw
          case rel => exact ⟨k + 1, app o (some [a]), out ++ [a], by go_num, by rw [app_isNone], HR.out.next hst.out (fun b hb => by simpa using hb) (by simp) hg3⟩
          case measure => simp [intOf]; omega
      subst h92
      clear e34 h34 h32
      have hsz : 0 < (u.extract k u.size).size := by rw [ByteArray.size_extract]; omega
      have hbx : byt (u.extract k u.size) = 92 :: l.drop (k + 1) := by rw [byt_from, HL.out, HD.out]
      have h092 : (u.extract k u.size)[0].toNat = 92 := by
        have := byt_at (u.extract k u.size) 0 hsz
        rw [List.drop_zero, hbx] at this
        simp at this
        exact this.symm
      have hes := fun w => escape_any (u.extract k u.size) w hsz h092 (by rw [ByteArray.size_extract]; unfold maxLen; omega)
      rw [hbx] at hes
      clear hsz hbx h092
      cases he : esc (92 :: l.drop (k + 1)) with
      | none =>
        have hn : Hid (rdO t = none) := Lib.hid (by rw [HR0.out]; exact unq_form HR.out.eq (by rw [HD.out]; simp) (by rw [HD.out]; exact stp_none he))
        rw [he] at hes
        unfold prV at hes
        simp only at hes
        clear he
        go_wp2_with (go_at_call 47; refine (hes _).mono ?_; rintro e w' ⟨rfl, rfl⟩)
        go_ret2
        exact ⟨ansV_none hn.out, HR.out.bel⟩
      | some rn =>
        obtain ⟨r, n⟩ := rn
        have hrn := esc_n he
        rw [List.length_cons, List.length_drop] at hrn
        obtain ⟨hn2, hn3, hn12, hr11, _⟩ := hrn
        rw [he] at hes
        unfold prV at hes
        simp only at hes
        have hne : ((n : Int) == 0) = false := by simp; omega
        have hsu := fun w => isSurrogate_any r w hr11
        have hru := rune_bad HR.out.buf hr11 (by omega)
        have hstp : ∃ p : Option (List Nat), stp (l.drop k) = some (p, n) ∧ p.isNone = sur r ∧ ∀ b, p = some b → b = put r ∧ Sg r := by
          rw [HD.out]
          by_cases hs : 55296 ≤ r ∧ r < 57344
          · exact ⟨none, stp_sur he hs, by unfold sur; simp [hs], fun b hb => by simp at hb⟩
          · refine ⟨some (put r), stp_put he hs, by unfold sur; simp [hs], fun b hb => ⟨by simpa using hb.symm, ?_⟩⟩
            unfold Sg; omega
        obtain ⟨p, hst, hps, hpp⟩ := hstp
        rw [← hps] at hsu
        have HST := Lib.hid hst
        have HPP := Lib.hid hpp
        have hal : (app o p).isNone = (o.isNone || p.isNone) := by cases o <;> cases p <;> rfl
        have HAL := Lib.hid hal
        clear he hst hps hpp hal
        generalize p.isNone = q at hsu HAL
        cases o with
        | none =>
          go_wp2_with (first | (go_at_call 47; refine (hes _).mono ?_; rintro e w' ⟨rfl, rfl⟩) | (go_at_call 49; refine hru.mono ?_; rintro e w3 ⟨v', m, rfl, hm4, hms, _, hg3⟩))
          go_roundw
          case rel => exact ⟨k + n, app none p, out ++ m, by go_num, by rw [HAL.out]; rfl, HR.out.next HST.out (fun b hb => by rw [(HPP.out b hb).1]; exact hms (HPP.out b hb).2) hm4 hg3⟩
          case measure => simp [intOf]; omega
        | some oo =>
          go_wp2_with (first | (go_at_call 47; refine (hes _).mono ?_; rintro e w' ⟨rfl, rfl⟩) | (go_at_call 48; refine (hsu _).mono ?_; rintro e w' ⟨rfl, rfl⟩) | (go_at_call 49; refine hru.mono ?_; rintro e w3 ⟨v', m, rfl, hm4, hms, _, hg3⟩))
          go_roundw
          case rel => exact ⟨k + n, app (some oo) p, out ++ m, by go_num, by rw [HAL.out]; rfl, HR.out.next HST.out (fun b hb => by rw [(HPP.out b hb).1]; exact hms (HPP.out b hb).2) hm4 hg3⟩
          case measure => simp [intOf]; omega
    · have hen : Hid (rdO t = some o) := Lib.hid (by rw [HR0.out]; exact unq_end HR.out.eq (by omega))
      have hcv := conv_own HR.out.buf.own
      cases o with
      | none =>
        go_wp2
        go_ret2
        exact ⟨ansV_lone hen.out, HR.out.bel⟩
      | some b =>
        obtain rfl := HR.out.is b rfl
        have hva := fun w => valid_any (str out) w (by rw [str_len]; unfold maxLen; omega)
        cases hv : vldB (byt (str out)) with
        | false =>
          rw [hv] at hva
          have HV := Lib.hid hv
          clear hv
          go_wp2_with (go_at_call 50; refine (hva _).mono ?_; rintro e w' ⟨rfl, rfl⟩)
          go_ret2
          exact ⟨ansV_bad hen.out HV.out, HR.out.bel⟩
        | true =>
          rw [hv] at hva
          have HV := Lib.hid hv
          clear hv
          go_wp2_with (go_at_call 50; refine (hva _).mono ?_; rintro e w' ⟨rfl, rfl⟩)
          go_ret2
          exact ⟨ansV_ok hen.out HV.out, HR.out.bel⟩
end Ut
end Go.Proofs.YtpddkchnogfjkaaDoor
