/- WordsBack walked: it answers true for every two texts. -/
import Derived.Test.YtpelajhdcbemnaaDoorWdTimes
import Derived.Test.YtpelajhdcbemnaaDoorWdTurn
import Derived.Deep.DeepCutAuto
namespace Go.Proofs.YtpelajhdcbemnaaDoor
open Go.RowKit
namespace Wd
open _root_.Go.Proofs.YtpelajhdcbemnaaDoor.Ut
section
variable (P : UInt8 → Bool)
theorem drop_head : ∀ (l : List UInt8) (x : UInt8) (r : List UInt8), l.dropWhile P = x :: r → P x = false
  | [], x, r, h => by simp at h
  | y :: l, x, r, h => by
    rw [List.dropWhile_cons] at h
    split at h
    · exact drop_head l x r h
    · rename_i hy
      obtain ⟨rfl, _⟩ := List.cons.inj h
      simpa using hy
theorem drop_last : ∀ (l : List UInt8) (x : UInt8), (l.dropWhile P).getLast? = some x → l.getLast? = some x
  | [], x, h => by simp at h
  | y :: l, x, h => by
    rw [List.dropWhile_cons] at h
    split at h
    · have := drop_last l x h
      rw [List.getLast?_cons, this]
      rfl
    · exact h
theorem back_id (m : List UInt8) (h : ∀ x, m.getLast? = some x → P x = false) : (m.reverse.dropWhile P).reverse = m := by
  cases hm : m.reverse with
  | nil =>
    have : m = [] := by simpa using hm
    rw [this]
    rfl
  | cons x r =>
    have hx := h x (by rw [List.getLast?_eq_head?_reverse, hm]; rfl)
    rw [List.dropWhile_cons, if_neg (by rw [hx]; simp), ← hm, List.reverse_reverse]
theorem drop_id (m : List UInt8) : (m.dropWhile P).dropWhile P = m.dropWhile P := by
  cases hm : m.dropWhile P with
  | nil => rfl
  | cons x r =>
    have hx := drop_head P m x r hm
    rw [List.dropWhile_cons, if_neg (by rw [hx]; simp)]
end
theorem trm_trm (l : List UInt8) : trm (trm l) = trm l := by
  unfold trm Lib.trimS Lib.trimLeftS Lib.trimRightS
  rw [back_id, drop_id]
  intro x hx
  have h1 := drop_last _ _ x hx
  rw [List.getLast?_reverse] at h1
  cases hq : l.reverse.dropWhile (fun x => [9, 10, 13, 32].contains x) with
  | nil => rw [hq] at h1; simp at h1
  | cons y r =>
    rw [hq] at h1
    obtain rfl : y = x := by simpa using h1
    exact drop_head _ _ y r hq
theorem tn_tn (c : Nat) : tn 97 65 (tn 65 97 c) = tn 97 65 c := by
  unfold tn
  split <;> split <;> (try split) <;> omega
theorem byt_lt (s : ByteArray) : ∀ x ∈ byt s, x < 256 := by
  intro x hx
  unfold byt at hx
  rw [List.mem_map] at hx
  obtain ⟨y, _, rfl⟩ := hx
  exact y.toNat_lt
theorem byt_low (s : ByteArray) : byt (str ((byt s).map (tn 65 97))) = (byt s).map (tn 65 97) := byt_str (fun x hx => by
  rw [List.mem_map] at hx
  obtain ⟨y, hy, rfl⟩ := hx
  exact tn_lt (by decide) (byt_lt s y hy))
theorem up_low (s : ByteArray) : str ((byt (str ((byt s).map (tn 65 97)))).map (tn 97 65)) = str ((byt s).map (tn 97 65)) := by
  rw [byt_low, List.map_map]
  congr 1
  apply List.map_congr_left
  intro c _
  exact tn_tn c
theorem str_size (l : List Nat) : (str l).size = l.length := by unfold str; simp [ByteArray.size]
theorem self_eq (a : ByteArray) : (a.toList == a.toList) = true := by simp
/-- one of two -/
def Or2 (a b x : ByteArray) : Prop := x = a ∨ x = b
theorem spl_few {s p : ByteArray} (hs : s.size ≤ 3000) : (spl s p).length ≤ 4096 := by
  by_cases h0 : p.size = 0
  · rw [spl_signs h0, sgn_len]
    have := sgsOf_len s
    omega
  · rw [spl_len (by omega)]
    have := Lib.countB_le p (by omega) s.size s (Nat.le_refl _)
    omega
theorem back_eq {s p : ByteArray} (hp : 1 ≤ p.size) : jt (spl s p) p = tl s := by
  rw [jt_all, spl_ps hp]
  exact ps_join _ _ (fun e => by have := tl_nil.1 e; omega)
theorem none_in {s p x : ByteArray} (hp : 1 ≤ p.size) (hx : x ∈ spl s p) : hasL (tl x) (tl p) = false := by
  have h1 : tl x ∈ ps (tl s) (tl p) := by
    rw [← spl_ps hp]
    exact List.mem_map_of_mem hx
  have h2 := ps_none _ _ (fun e => by have := tl_nil.1 e; omega) _ h1
  unfold hasL Lib.contains
  rw [h2]
  rfl
theorem mem_len {l p x : List UInt8} (hp : p ≠ []) (hx : x ∈ ps l p) : x.length ≤ l.length := by
  have hj := ps_join l p hp
  rw [← hj]
  unfold jn
  generalize ps l p = xs at hx
  clear hj
  induction xs with
  | nil => simp at hx
  | cons y r ih =>
    cases r with
    | nil =>
      simp at hx
      subst hx
      simp
    | cons z r =>
      rw [List.intercalate_cons_cons, List.length_append, List.length_append]
      rcases List.mem_cons.1 hx with rfl | h
      · omega
      · have := ih h
        omega
theorem part_size {s p x : ByteArray} (hp : 1 ≤ p.size) (hx : x ∈ spl s p) : x.size ≤ s.size := by
  have h1 : tl x ∈ ps (tl s) (tl p) := by
    rw [← spl_ps hp]
    exact List.mem_map_of_mem hx
  have := mem_len (fun e => by have := tl_nil.1 e; omega) h1
  rwa [tl_len, tl_len] at this
theorem sign_size {s p x : ByteArray} (hp : p.size = 0) (hx : x ∈ spl s p) : x.size ≤ 4 := by
  rw [spl_signs hp] at hx
  unfold sgn at hx
  rw [List.mem_map] at hx
  obtain ⟨c, _, rfl⟩ := hx
  rw [str_size]
  exact (put_len c).2
set_option maxRecDepth 100000 in
set_option maxHeartbeats 8000000 in
theorem wordsBack_any (s p : ByteArray) (w : World) (hs : s.size ≤ maxLen) (hp : p.size ≤ maxLen) (hT : St w) :
    Calls Tryd.prog 6 #[.string s, .string p] w fun e w' => e = .returned (.bool true) ∧ Below w.heap.size w w' := by
  unfold maxLen at hs hp
  have HT := Lib.hid hT
  clear hT
  by_cases c1 : 3000 < s.size
  · go_enter Tryd.func6, Tryd.ntmps6
    go_wp2_with (go_at_call 8; refine (lives_any _ HT.out).mono ?_; rintro e w1 ⟨rfl, b1⟩)
    go_ret
    exact ⟨rfl, b1⟩
  by_cases c2 : 100 < p.size
  · go_enter Tryd.func6, Tryd.ntmps6
    go_wp2_with (go_at_call 8; refine (lives_any _ HT.out).mono ?_; rintro e w1 ⟨rfl, b1⟩)
    go_ret
    exact ⟨rfl, b1⟩
  have hfew := spl_few (s := s) (p := p) (by omega)
  have hsp : ∀ wx, St wx → Calls Tryd.prog 14 #[.string s, .string p] wx fun e w' => ∃ v, e = .returned (.tuple #[v, .bool true]) ∧ Ts w' v (spl s p) ∧ Below wx.heap.size wx w' := fun wx hx => by
    refine (split_any s p wx (by omega) (by omega) hx).mono ?_
    rintro e w' ⟨hb, ⟨_, v, rfl, hv⟩ | ⟨h, _⟩⟩
    · exact ⟨v, rfl, hv, hb⟩
    · omega
  have hmem : ∀ x ∈ spl s p, x.size ≤ 3000 := fun x hx => by
    by_cases h0 : p.size = 0
    · have := sign_size h0 hx; omega
    · have := part_size (by omega) hx; omega
  have hjn : ∀ wx v, Ts wx v (spl s p) → Calls Tryd.prog 9 #[v, .string p] wx fun e w' => ∃ U q, e = .returned (.tuple #[.string U, .bool q]) ∧ Hid (1 ≤ p.size → U = s ∧ q = true) ∧ Below wx.heap.size wx w' := fun wx v hv => by
    refine (join_any v (spl s p) p wx hv (by omega) (by omega) (fun x hx => by have := hmem x hx; omega)).mono ?_
    rintro e w' ⟨hb, ⟨h, rfl⟩ | ⟨h, rfl⟩⟩
    · exact ⟨_, _, rfl, Lib.hid (fun h1 => ⟨by rw [back_eq h1]; exact tl_inj (tl_mk _), rfl⟩), hb⟩
    · exact ⟨_, _, rfl, Lib.hid (fun h1 => by rw [back_eq h1, tl_len] at h; omega), hb⟩
  have hhas : 1 ≤ p.size → ∀ x ∈ spl s p, ∀ wx, St wx → Calls Tryd.prog 17 #[.string x, .string p] wx fun e w' => e = .returned (.bool false) ∧ wx = w' := fun h1 x hx wx hw => by
    have := has_any x p wx (by have := hmem x hx; omega) hw
    rw [none_in h1 hx] at this
    exact this
  have hlow := fun wx => lower_any s wx (by omega)
  have hup1 := fun wx => upper_any s wx (by omega)
  have hup2 := fun wx => upper_any (str ((byt s).map (tn 65 97))) wx (by rw [str_size, List.length_map, byt_len]; omega)
  rw [up_low] at hup2
  generalize str ((byt s).map (tn 97 65)) = Up at hup1 hup2
  generalize str ((byt s).map (tn 65 97)) = Lo at hlow hup2
  have hup : ∀ x wx, Or2 s Lo x → Calls Tryd.prog 15 #[.string x] wx fun e w' => e = .returned (.string Up) ∧ Below wx.heap.size wx w' := fun x wx h => by
    rcases h with rfl | rfl
    · exact hup1 wx
    · exact hup2 wx
  have htr1 := fun wx => trim_any s wx (by omega)
  have hts : (⟨(trm (tl s)).toArray⟩ : ByteArray).size ≤ 1000000000 := by
    rw [← tl_len, tl_mk (trm (tl s))]
    have : (trm (tl s)).length ≤ (tl s).length := by
      unfold trm Lib.trimS Lib.trimLeftS Lib.trimRightS
      refine Nat.le_trans (List.dropWhile_suffix _).length_le ?_
      rw [List.length_reverse]
      refine Nat.le_trans (List.dropWhile_suffix _).length_le ?_
      rw [List.length_reverse]
      exact Nat.le_refl _
    rw [tl_len] at this
    omega
  have htr2 := fun wx => trim_any ⟨(trm (tl s)).toArray⟩ wx hts
  rw [tl_mk (trm (tl s)), trm_trm] at htr2
  generalize (⟨(trm (tl s)).toArray⟩ : ByteArray) = T at htr1 htr2
  have htr : ∀ x wx, Or2 s T x → Calls Tryd.prog 20 #[.string x] wx fun e w' => e = .returned (.string T) ∧ Below wx.heap.size wx w' := fun x wx h => by
    rcases h with rfl | rfl
    · exact htr1 wx
    · exact htr2 wx
  have qs1 : Or2 s Lo s := .inl rfl
  have qs2 : Or2 s Lo Lo := .inr rfl
  have qt1 : Or2 s T s := .inl rfl
  have qt2 : Or2 s T T := .inr rfl
  have hself1 := self_eq Up
  have hself2 := self_eq T
  have hself3 := self_eq s
  have HSP := Lib.hid hsp
  have HJN := Lib.hid hjn
  have HHAS := Lib.hid hhas
  have HLOW := Lib.hid hlow
  have HUP := Lib.hid hup
  have HTR := Lib.hid htr
  clear hsp hjn hhas hlow hup hup1 hup2 htr htr1 htr2 hts hmem
  generalize hL : spl s p = L at HSP HJN HHAS hfew
  clear hL
  go_enter Tryd.func6, Tryd.ntmps6
  by_cases h0 : p.size = 0
  · have he : p.toList.isEmpty = true := by
      have := tl_nil.2 h0
      rw [ByteArray.toList_eq]
      unfold tl at this
      rw [this]
      rfl
    go_upto_region 8 with (first | (go_at_call 14; refine (HSP.out _ HT.out).mono ?_; rintro e w1 ⟨v, rfl, hv, b1⟩; have HV := Lib.hid hv; have HB1 := Lib.hid b1; clear hv b1) | (go_at_call 9; refine (HJN.out _ _ HV.out).mono ?_; rintro e w2 ⟨U, q, rfl, HUQ, b2⟩; have HB2 := Lib.hid (HB1.out.trans (b2.mono HB1.out.size)); clear b2))
    clear HUQ HV
    go_loopw [9] (fun i wr => i = .int .i64 0 ∧ wr = w2) (fun _ _ => 0)
    case atStart => exact ⟨rfl, rfl⟩
    case round =>
      obtain ⟨rfl, rfl⟩ := hrel
      go_wp2_with (first | (go_at_call 8; have HB9 := Lib.hid HBU; refine (lives_any _ (HT.out.on HB9.out.out)).mono ?_; rintro e w9 ⟨rfl, b9⟩) | (go_at_call 16; refine (HLOW.out _).mono ?_; rintro e w3 ⟨rfl, b3⟩; have HBU := Lib.hid (HB2.out.trans (b3.mono HB2.out.size)); clear b3) | (go_at_call 15; refine (HUP.out _ _ ?_).mono ?_; assumption; rintro e w4 ⟨rfl, b4⟩; replace HBU := Lib.hid (HBU.out.trans (b4.mono HBU.out.size)); clear b4) | (go_at_call 20; refine (HTR.out _ _ ?_).mono ?_; assumption; rintro e w5 ⟨rfl, b5⟩; replace HBU := Lib.hid (HBU.out.trans (b5.mono HBU.out.size)); clear b5))
      go_ret
      exact ⟨rfl, HB9.out.out.trans (b9.mono HB9.out.out.size)⟩
  · have he : p.toList.isEmpty = false := by
      cases hh : p.toList with
      | nil => exact absurd (tl_nil.1 (by rw [ByteArray.toList_eq] at hh; exact hh)) h0
      | cons x r => rfl
    go_upto_region 5 with (first | (go_at_call 14; refine (HSP.out _ HT.out).mono ?_; rintro e w1 ⟨v, rfl, hv, b1⟩; have HV := Lib.hid hv; have HB1 := Lib.hid b1; clear hv b1) | (go_at_call 9; refine (HJN.out _ _ HV.out).mono ?_; rintro e w2 ⟨U, q, rfl, HUQ, b2⟩; have HV2 := Lib.hid (HV.out.on b2); have HB2 := Lib.hid (HB1.out.trans (b2.mono HB1.out.size)); clear b2))
    obtain ⟨rfl, rfl⟩ := HUQ.out (by omega)
    clear HUQ HV
    obtain ⟨ao, cap, rfl, _, h5⟩ := HV2.out
    have H5 := Lib.hid h5
    clear h5
    go_upto_region 8 with (fail)
    go_loopw [9] (fun i wr => ∃ k : Nat, i = .int .i64 k ∧ k ≤ L.length ∧ wr = w2) (fun i _ => L.length - (intOf i).toNat)
    case atStart => exact ⟨0, rfl, by omega, rfl⟩
    case round =>
      obtain ⟨k, rfl, hk, rfl⟩ := hrel
      by_cases hlt : k < L.length
      · obtain ⟨x, hx⟩ : ∃ x, L[k]? = some x := ⟨_, List.getElem?_eq_getElem hlt⟩
        obtain ⟨g1, o1, rfl, hg1, hc1⟩ := H5.out (by omega)
        have e1 := hc1 k x hx
        have hhx := HHAS.out (by omega) x (List.mem_of_getElem? hx) wr (HT.out.on HB2.out)
        clear hc1 hx
        go_wp2_with (go_at_call 17; refine hhx.mono ?_; rintro e w3 ⟨rfl, rfl⟩)
        go_roundw
        case rel => exact ⟨k + 1, by go_num, by omega, by trivial⟩
        case measure => simp [intOf]; omega
      · skip
        go_wp2_with (first | (go_at_call 8; have HB9 := Lib.hid HBU; refine (lives_any _ (HT.out.on HB9.out.out)).mono ?_; rintro e w9 ⟨rfl, b9⟩) | (go_at_call 16; refine (HLOW.out _).mono ?_; rintro e w3 ⟨rfl, b3⟩; have HBU := Lib.hid (HB2.out.trans (b3.mono HB2.out.size)); clear b3) | (go_at_call 15; refine (HUP.out _ _ ?_).mono ?_; assumption; rintro e w4 ⟨rfl, b4⟩; replace HBU := Lib.hid (HBU.out.trans (b4.mono HBU.out.size)); clear b4) | (go_at_call 20; refine (HTR.out _ _ ?_).mono ?_; assumption; rintro e w5 ⟨rfl, b5⟩; replace HBU := Lib.hid (HBU.out.trans (b5.mono HBU.out.size)); clear b5))
        go_ret
        exact ⟨rfl, HB9.out.out.trans (b9.mono HB9.out.out.size)⟩
end Wd
end Go.Proofs.YtpelajhdcbemnaaDoor
