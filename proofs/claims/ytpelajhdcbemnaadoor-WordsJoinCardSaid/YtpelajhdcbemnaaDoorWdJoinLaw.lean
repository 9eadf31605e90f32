/- WordsJoin walked: it answers true for every list, text and number. -/
import Derived.Test.YtpelajhdcbemnaaDoorWdTimes
import Derived.Deep.DeepCutAuto
namespace Go.Proofs.YtpelajhdcbemnaaDoor
open Go.RowKit
namespace Wd
open _root_.Go.Proofs.YtpelajhdcbemnaaDoor.Ut
theorem tl_app (a b : ByteArray) : tl (a ++ b) = tl a ++ tl b := by unfold tl; simp
theorem self_eq (a : ByteArray) : (a.toList == a.toList) = true := by simp
theorem mk_tl {l : List UInt8} {a : ByteArray} (h : tl a = l) : (⟨l.toArray⟩ : ByteArray) = a := tl_inj (by rw [tl_mk, h])
set_option maxRecDepth 100000 in
set_option maxHeartbeats 8000000 in
theorem wordsJoin_any (v : Value) (l : List ByteArray) (p : ByteArray) (n : Int) (w : World) (hv : Ts w v l) (hl : l.length ≤ maxLen) (hp : p.size ≤ maxLen) (hx : ∀ s ∈ l, s.size ≤ maxLen) (h1 : -9223372036854775808 ≤ n) (h2 : n ≤ 9223372036854775807) (hT : St w) :
    Calls Tryd.prog 3 #[v, .string p, .int .i64 n] w fun e w' => e = .returned (.bool true) ∧ Below w.heap.size w w' := by
  unfold maxLen at hl hp hx
  have HT := Lib.hid hT
  have HV := Lib.hid hv
  have HX := Lib.hid hx
  obtain ⟨ao, cap, rfl, hc, h⟩ := hv
  have H := Lib.hid h
  clear hT hx h
  by_cases c1 : 100 < l.length
  · go_enter Tryd.func3, Tryd.ntmps3
    go_wp2_with (go_at_call 8; refine (lives_any _ HT.out).mono ?_; rintro e w1 ⟨rfl, b1⟩)
    go_ret
    exact ⟨rfl, b1⟩
  by_cases c2 : 5000 < p.size
  · go_enter Tryd.func3, Tryd.ntmps3
    go_wp2_with (go_at_call 8; refine (lives_any _ HT.out).mono ?_; rintro e w1 ⟨rfl, b1⟩)
    go_ret
    exact ⟨rfl, b1⟩
  go_enter Tryd.func3, Tryd.ntmps3
  go_wp2
  go_loopw [7, 8] (fun a i wr => ∃ (k : Nat) (W : ByteArray), i = .int .i64 k ∧ k ≤ l.length ∧ a = .string W ∧ wr = w ∧ W.size ≤ 10000 * k ∧ Hid (tl W = jl l p k) ∧ Hid (∀ (j : Nat) x, j < k → l[j]? = some x → x.size ≤ 5000)) (fun _ i _ => l.length - (intOf i).toNat)
  case atStart => exact ⟨0, ⟨#[]⟩, rfl, by omega, rfl, rfl, by decide, Lib.hid (by rw [jl_zero]; rfl), Lib.hid (fun j x h => by omega)⟩
  case round =>
    obtain ⟨k, W, rfl, hk, rfl, rfl, hWs, HW, HK⟩ := hrel
    by_cases hlt : k < l.length
    · obtain ⟨x, hx⟩ : ∃ x, l[k]? = some x := ⟨_, List.getElem?_eq_getElem hlt⟩
      obtain ⟨g, o, rfl, hg, hcl⟩ := H.out (by omega)
      have hcx := hcl k x hx
      have hxs := HX.out x (List.mem_of_getElem? hx)
      have HXK := Lib.hid hx
      clear hcl hx
      by_cases c3 : 5000 < x.size
      · go_wp2_with (go_at_call 8; refine (lives_any _ HT.out).mono ?_; rintro e w1 ⟨rfl, b1⟩)
        go_ret
        exact ⟨rfl, b1⟩
      have HK2 : Hid (∀ (j : Nat) y, j < k + 1 → l[j]? = some y → y.size ≤ 5000) := Lib.hid (fun j y hj hy => by
        by_cases e : j = k
        · subst e
          rw [HXK.out] at hy
          obtain rfl := Option.some.inj hy
          omega
        · exact HK.out j y (by omega) hy)
      by_cases h0 : k = 0
      · subst h0
        rw [Nat.add_zero] at hcx
        have hadd := fun w => run_string_add_sum (P := Tryd.prog) w W x (by omega)
        have hsz : (W ++ x).size = W.size + x.size := ByteArray.size_append
        obtain ⟨Y, hY⟩ : ∃ Y, W ++ x = Y := ⟨_, rfl⟩
        rw [hY] at hadd hsz
        have HY := Lib.hid hY
        clear hY
        go_wp2
        go_roundw
        case rel => exact ⟨1, Y, by go_num, by omega, by trivial, by trivial, by omega, Lib.hid (by rw [← HY.out, tl_app, HW.out, jl_zero, show (1 : Nat) = 0 + 1 from rfl, jl_succ p HXK.out, if_pos rfl]; rfl), HK2⟩
        case measure => simp [intOf]; omega
      · have hkp : (k : Int) > 0 := by omega
        have hadd := fun w => run_string_add_sum (P := Tryd.prog) w W p (by omega)
        have hsz : (W ++ p).size = W.size + p.size := ByteArray.size_append
        obtain ⟨Z, hZ⟩ : ∃ Z, W ++ p = Z := ⟨_, rfl⟩
        rw [hZ] at hadd hsz
        have hadd2 := fun w => run_string_add_sum (P := Tryd.prog) w Z x (by omega)
        have hsz2 : (Z ++ x).size = Z.size + x.size := ByteArray.size_append
        obtain ⟨Y, hY⟩ : ∃ Y, Z ++ x = Y := ⟨_, rfl⟩
        rw [hY] at hadd2 hsz2
        have HY := Lib.hid hY
        have HZ := Lib.hid hZ
        clear hY hZ
        go_wp2
        go_roundw
        case rel => exact ⟨k + 1, Y, by go_num, by omega, by trivial, by trivial, by omega, Lib.hid (by rw [← HY.out, tl_app, ← HZ.out, tl_app, HW.out, jl_succ p HXK.out, if_neg h0]), HK2⟩
        case measure => simp [intOf]; omega
    · have hke : k = l.length := by omega
      have htw : tl W = jt l p := by rw [HW.out, hke]; rfl
      have hln : W.size = (jt l p).length := by rw [← htw, tl_len]
      have hjoin := join_any _ l p _ HV.out (by omega) (by omega) (fun x hx => by
        obtain ⟨j, hj, e⟩ := List.getElem_of_mem hx
        have := HK.out j x (by omega) (by rw [List.getElem?_eq_getElem hj, e])
        omega)
      have hjw := mk_tl htw
      unfold JnP at hjoin
      rw [← hln, hjw] at hjoin
      have hww := self_eq W
      clear htw hln hjw
      go_upto_region 14 with (go_at_call 9; refine hjoin.mono ?_; rintro e w2 ⟨b2, hq⟩; obtain ⟨U, q, rfl, HQ⟩ : ∃ (U : ByteArray) (q : Bool), e = .returned (.tuple #[.string U, .bool q]) ∧ Hid ((W.size ≤ 4096 ∧ U = W ∧ q = true) ∨ (4096 < W.size ∧ U = ⟨#[]⟩ ∧ q = false)) := hq.elim (fun h => ⟨_, _, h.2, Lib.hid (.inl ⟨h.1, rfl, rfl⟩)⟩) (fun h => ⟨_, _, h.2, Lib.hid (.inr ⟨h.1, rfl, rfl⟩)⟩); clear hq)
      clear hjoin
      go_cut [9, 10, 11, 76] (fun _ _ _ s76 wx => w2 = wx ∧ s76 = .bool false)
      case first =>
        rcases HQ.out with ⟨h, rfl, rfl⟩ | ⟨h, rfl, rfl⟩
        · go_wp2
          go_meet
          exact ⟨rfl, rfl⟩
        · go_wp2
          go_meet
          exact ⟨rfl, rfl⟩
      case rest =>
      obtain ⟨rfl, rfl⟩ := hcut
      have htm := times_any p n w2 (by omega) h1 h2
      unfold JnP at htm
      obtain ⟨R, hR⟩ : ∃ R, rp (tl p) n.toNat = R := ⟨_, rfl⟩
      rw [hR] at htm
      have hRl : R.length = p.size * n.toNat := by rw [← hR, rp_len, tl_len]
      have HRL := Lib.hid hRl
      have HR := Lib.hid hR
      clear hR hRl HQ hww
      go_upto_region 19 with (go_at_call 10; refine htm.mono ?_; rintro e w3 ⟨b3, hq⟩; obtain ⟨T, q2, rfl, HQ⟩ : ∃ (T : ByteArray) (q : Bool), e = .returned (.tuple #[.string T, .bool q]) ∧ Hid ((R.length ≤ 4096 ∧ T = ⟨R.toArray⟩ ∧ q = true) ∨ (4096 < R.length ∧ T = ⟨#[]⟩ ∧ q = false)) := hq.elim (fun h => ⟨_, _, h.2, Lib.hid (.inl ⟨h.1, rfl, rfl⟩)⟩) (fun h => ⟨_, _, h.2, Lib.hid (.inr ⟨h.1, rfl, rfl⟩)⟩); clear hq)
      have hB : Below wr.heap.size wr w3 := b2.trans (b3.mono b2.size)
      have HB := Lib.hid hB
      clear hB b2 b3 htm
      go_loopw [14, 15] (fun a i wx => ∃ (k : Nat) (A : ByteArray), i = .int .i64 k ∧ a = .string A ∧ wx = w3 ∧ A.size ≤ 9096 ∧ k ≤ n.toNat ∧ Hid (tl A = rp (tl p) k)) (fun _ i _ => n.toNat - (intOf i).toNat)
      case atStart => exact ⟨0, ⟨#[]⟩, rfl, rfl, rfl, by decide, by omega, Lib.hid rfl⟩
      case round =>
        obtain ⟨k, A, rfl, rfl, rfl, hA, hk, HA⟩ := hrel
        have hAl : A.size = p.size * k := by rw [← tl_len, HA.out, rp_len, tl_len]
        have HAL := Lib.hid hAl
        clear hAl
        by_cases c3 : (k : Int) < n
        · by_cases c4 : A.size ≤ 4096
          · by_cases c5 : 0 < p.size
            · have hadd := fun w => run_string_add_sum (P := Tryd.prog) w A p (by omega)
              have hsz : (A ++ p).size = A.size + p.size := ByteArray.size_append
              obtain ⟨Y, hY⟩ : ∃ Y, A ++ p = Y := ⟨_, rfl⟩
              rw [hY] at hadd hsz
              have HY := Lib.hid hY
              clear hY
              go_wp2
              go_roundw
              case rel => exact ⟨k + 1, Y, by go_num, by trivial, by trivial, by omega, by omega, Lib.hid (by rw [← HY.out, tl_app, HA.out, rp_snoc])⟩
              case measure => simp [intOf]; omega
            · skip
              have hE : (4096 < A.size ∧ 4096 < R.length) ∨ (A.size ≤ 4096 ∧ R.length ≤ 4096 ∧ tl A = R) := by
                have h6 : p.size = 0 := by omega
                have h7 := HAL.out
                have h8 := HRL.out
                rw [h6, Nat.zero_mul] at h7 h8
                have h9 : R = [] := List.length_eq_zero_iff.1 h8
                exact .inr ⟨by omega, by omega, by rw [h9]; exact tl_nil.2 h7⟩
              rcases HQ.out with ⟨h, hTR, rfl⟩ | ⟨h, rfl, rfl⟩
              · obtain ⟨hle, hAR⟩ : A.size ≤ 4096 ∧ tl A = R := by
                  rcases hE with ⟨h3, h4⟩ | ⟨h3, h4, h5⟩
                  · omega
                  · exact ⟨h3, h5⟩
                obtain rfl : T = A := hTR.trans (mk_tl hAR)
                have hself := self_eq T
                clear hE hTR hAR
                go_wp2_with (go_at_call 8; refine (lives_any _ (HT.out.on HB.out)).mono ?_; rintro e w4 ⟨rfl, b4⟩)
                go_ret
                exact ⟨rfl, HB.out.trans (b4.mono HB.out.size)⟩
              · exfalso
                rcases hE with ⟨h3, h4⟩ | ⟨h3, h4, h5⟩ <;> omega
          · skip
            have hE : (4096 < A.size ∧ 4096 < R.length) ∨ (A.size ≤ 4096 ∧ R.length ≤ 4096 ∧ tl A = R) := by
              have h6 : p.size * k ≤ p.size * n.toNat := Nat.mul_le_mul_left _ hk
              exact .inl ⟨by omega, by rw [HRL.out]; have := HAL.out; omega⟩
            rcases HQ.out with ⟨h, hTR, rfl⟩ | ⟨h, rfl, rfl⟩
            · exfalso
              rcases hE with ⟨h3, h4⟩ | ⟨h3, h4, h5⟩ <;> omega
            · have hgt : 4096 < A.size := by
                rcases hE with ⟨h3, h4⟩ | ⟨h3, h4, h5⟩
                · exact h3
                · omega
              clear hE
              go_wp2_with (go_at_call 8; refine (lives_any _ (HT.out.on HB.out)).mono ?_; rintro e w4 ⟨rfl, b4⟩)
              go_ret
              exact ⟨rfl, HB.out.trans (b4.mono HB.out.size)⟩
        · skip
          have hE : (4096 < A.size ∧ 4096 < R.length) ∨ (A.size ≤ 4096 ∧ R.length ≤ 4096 ∧ tl A = R) := by
            have hkn : k = n.toNat := by omega
            have h5 : tl A = R := by rw [HA.out, hkn, HR.out]
            have h6 : A.size = R.length := by rw [← h5, tl_len]
            by_cases h7 : 4096 < A.size
            · exact .inl ⟨h7, by omega⟩
            · exact .inr ⟨by omega, by omega, h5⟩
          rcases HQ.out with ⟨h, hTR, rfl⟩ | ⟨h, rfl, rfl⟩
          · obtain ⟨hle, hAR⟩ : A.size ≤ 4096 ∧ tl A = R := by
              rcases hE with ⟨h3, h4⟩ | ⟨h3, h4, h5⟩
              · omega
              · exact ⟨h3, h5⟩
            obtain rfl : T = A := hTR.trans (mk_tl hAR)
            have hself := self_eq T
            clear hE hTR hAR
            go_wp2_with (go_at_call 8; refine (lives_any _ (HT.out.on HB.out)).mono ?_; rintro e w4 ⟨rfl, b4⟩)
            go_ret
            exact ⟨rfl, HB.out.trans (b4.mono HB.out.size)⟩
          · have hgt : 4096 < A.size := by
              rcases hE with ⟨h3, h4⟩ | ⟨h3, h4, h5⟩
              · exact h3
              · omega
            clear hE
            go_wp2_with (go_at_call 8; refine (lives_any _ (HT.out.on HB.out)).mono ?_; rintro e w4 ⟨rfl, b4⟩)
            go_ret
            exact ⟨rfl, HB.out.trans (b4.mono HB.out.size)⟩
end Wd
end Go.Proofs.YtpelajhdcbemnaaDoor
