/- Layer 13: how long numbers, strings and blanks ahead are, by the code. -/
import Derived.Test.YtpddkchnogfjkaaDoorLxFn
import Derived.Laws.Strings3
import Derived.Laws.Slices
namespace Go.Proofs.YtpddkchnogfjkaaDoor
open Go.RowKit
namespace Lx
theorem ext_drop (s : ByteArray) (k : Nat) : (s.extract k s.size).data.toList = s.data.toList.drop k := by
  rw [ByteArray.data_extract]
  simp only [Array.toList_extract, List.extract_eq_take_drop]
  exact List.take_of_length_le (by simp)
theorem ext_size (s : ByteArray) (k : Nat) : (s.extract k s.size).size = s.size - k := by rw [ByteArray.size_extract]; omega
theorem run_dgs0 (s : ByteArray) : run isD s 0 = dgs s.data.toList := by unfold run dgs; simp
theorem is1_drop (r : List UInt8) (i j n : Nat) : is1 (r.drop i) j n = is1 r (i + j) n := by unfold is1; rw [List.getElem?_drop]
theorem fracL_drop (r : List UInt8) (i : Nat) : fracL r i = i + fracL (r.drop i) 0 := by
  unfold fracL
  rw [is1_drop, Nat.add_zero, List.drop_drop, ← Nat.add_assoc]
  simp only [Nat.zero_add, Nat.add_zero]
  split <;> omega
theorem expK_drop (r : List UInt8) (i : Nat) : expK r i = i + expK (r.drop i) 0 := by
  unfold expK
  rw [is1_drop, is1_drop]
  simp only [Nat.zero_add]
  split <;> omega
theorem expL_drop (r : List UInt8) (i : Nat) : expL r i = i + expL (r.drop i) 0 := by
  unfold expL
  rw [is1_drop, is1_drop, expK_drop r i, List.drop_drop]
  simp only [Nat.add_zero]
  split <;> omega
theorem is1_atE {s : ByteArray} {i n : Nat} (h : i < s.size) : is1 s.data.toList i n = decide (s[i].toNat = n) := by
  unfold is1
  rw [show s.data.toList[i]? = some s[i] from List.getElem?_eq_getElem (by simpa using h)]
  rfl
theorem is1_end {s : ByteArray} {i n : Nat} (h : s.size ≤ i) : is1 s.data.toList i n = false := by
  unfold is1
  rw [List.getElem?_eq_none (by simpa using h)]
  rfl
theorem runD_c (s : ByteArray) (k : Nat) (t : ByteArray) (w : World) (hs : s.size ≤ 1000000000) (ht : t = s.extract k s.size) (n : Nat) (hn : dgs (s.data.toList.drop k) = n) :
    Calls Tryd.prog 18 #[.string t, .func (.func 25) #[] #[]] w fun e w' => e = .returned (.int .i64 (n : Nat)) ∧ w = w' := by
  rw [ht, ← hn, ← ext_drop, ← run_dgs0]
  exact runD_any _ w (by rw [ext_size]; omega)
set_option maxRecDepth 100000 in
set_option maxHeartbeats 1000000 in
theorem fractionLength_any (s : ByteArray) (w : World) (hs : s.size ≤ 1000000000) :
    Calls Tryd.prog 36 #[.string s] w fun e w' => e = .returned (.int .i64 (fracL s.data.toList 0 : Nat)) ∧ w = w' := by
  by_cases h0 : 0 < s.size
  · obtain ⟨c, hc⟩ : ∃ c, s[0].toNat = c := ⟨_, rfl⟩
    have he := emp_no h0
    have hl1 : (1 : Int) ≤ (s.size : Int) := by omega
    by_cases h46 : c = 46
    · obtain ⟨n, hn⟩ : ∃ n, dgs (s.data.toList.drop 1) = n := ⟨_, rfl⟩
      have hd := dgs_le (s.data.toList.drop 1)
      rw [hn, List.length_drop] at hd
      have e : s.data.toList.length = s.size := by simp
      have h2 := fun t w ht => runD_c s 1 t w hs ht n hn
      subst h46
      have hf : fracL s.data.toList 0 = if 0 < n then 1 + n else 0 := by
        unfold fracL
        rw [is1_atE h0, hc, Nat.zero_add, hn]
        simp
      rw [hf]
      have hn2 : n ≤ 1000000000 := by omega
      clear hf hn hd e
      by_cases h1 : n = 0
      · subst h1
        go_enter Tryd.func36, Tryd.ntmps36
        go_wp2_with (go_at_call 18; refine (h2 _ _ rfl).mono ?_; rintro e w' ⟨rfl, rfl⟩)
        go_ret
        exact ⟨rfl, rfl⟩
      · have g1 : ((n : Int) == 0) = false := by simp; omega
        rw [if_pos (by omega)]
        go_enter Tryd.func36, Tryd.ntmps36
        go_wp2_with (go_at_call 18; refine (h2 _ _ rfl).mono ?_; rintro e w' ⟨rfl, rfl⟩)
        go_ret
        exact ⟨ret_i (by omega), rfl⟩
    · have hf : fracL s.data.toList 0 = 0 := by
        unfold fracL
        rw [is1_atE h0, hc, if_neg (by simp; omega)]
      rw [hf]
      have g1 : ((c : Int) != 46) = true := by simp; omega
      have g2 : ((c : Int) == 46) = false := by simp; omega
      clear hf
      go_enter Tryd.func36, Tryd.ntmps36
      go_wp2
      go_ret
      exact ⟨rfl, rfl⟩
  · obtain rfl := emp_eq h0
    go_enter Tryd.func36, Tryd.ntmps36
    go_wp2
    all_goals first | exact absurd ‹some undef = some (Value.bool _)› (by unfold undef; simp) | skip
    go_ret
    exact ⟨rfl, rfl⟩
/-- what powerLength answers once its digits are told -/
def pwR (a n : Nat) : Nat := if 0 < n then a + n else 0
theorem pw0 {a n : Nat} (h : ((n : Int) == 0) = true) : pwR a n = 0 := by
  have : n = 0 := by have := beq_iff_eq.1 h; omega
  unfold pwR; rw [if_neg (by omega)]
theorem pw1 {a n : Nat} (h : ((n : Int) == 0) = false) : pwR a n = a + n := by
  have : n ≠ 0 := by rintro rfl; simp at h
  unfold pwR; rw [if_pos (by omega)]
set_option maxRecDepth 100000 in
set_option maxHeartbeats 2000000 in
theorem power_one (s : ByteArray) (w : World) (n : Nat) (hn : n ≤ 1000000000) (hs : s.size ≤ 1000000000) (h0 : 0 < s.size) (hE : s[0].toNat = 101 ∨ s[0].toNat = 69) (h1 : s.size ≤ 1)
    (h2 : ∀ (t : ByteArray) (w : World), t = s.extract 1 s.size → Calls Tryd.prog 18 #[.string t, .func (.func 25) #[] #[]] w fun e w' => e = .returned (.int .i64 (n : Nat)) ∧ w = w') :
    Calls Tryd.prog 37 #[.string s] w fun e w' => e = .returned (.int .i64 (pwR 1 n : Nat)) ∧ w = w' := by
  have he := emp_no h0
  have hl1 : (1 : Int) ≤ (s.size : Int) := by omega
  have hl3 : ¬ (1 : Int) < (s.size : Int) := by omega
  have hl4 : decide ((1 : Int) < (s.size : Int)) = false := decide_eq_false hl3
  clear h1
  have HP0 := Lib.hid (fun h : ((n : Int) == 0) = true => pw0 (a := 1) h)
  have HP1 := Lib.hid (fun h : ((n : Int) == 0) = false => pw1 (a := 1) h)
  rcases hE with hc | hc
  all_goals
    go_enter Tryd.func37, Tryd.ntmps37
    go_wp2_with (go_at_call 18; refine (h2 _ _ rfl).mono ?_; rintro e w' ⟨rfl, rfl⟩)
    all_goals first | exact absurd ‹some undef = some (Value.bool _)› (by unfold undef; simp) | skip
    all_goals go_ret
    all_goals first | exact ⟨by rw [HP0.out (by assumption)]; rfl, rfl⟩ | exact ⟨ret_i (by rw [HP1.out (by assumption)]; omega), rfl⟩
set_option maxRecDepth 100000 in
set_option maxHeartbeats 2000000 in
theorem power_plus (s : ByteArray) (w : World) (n : Nat) (hn : n ≤ 1000000000) (hs : s.size ≤ 1000000000) (h0 : 0 < s.size) (hE : s[0].toNat = 101 ∨ s[0].toNat = 69) (h1 : 1 < s.size) (hd : s[1].toNat = 43)
    (h2 : ∀ (t : ByteArray) (w : World), t = s.extract 2 s.size → Calls Tryd.prog 18 #[.string t, .func (.func 25) #[] #[]] w fun e w' => e = .returned (.int .i64 (n : Nat)) ∧ w = w') :
    Calls Tryd.prog 37 #[.string s] w fun e w' => e = .returned (.int .i64 (pwR 2 n : Nat)) ∧ w = w' := by
  have he := emp_no h0
  have hl1 : (1 : Int) ≤ (s.size : Int) := by omega
  have hl : (1 : Int) < (s.size : Int) := by omega
  have hl2 : (2 : Int) ≤ (s.size : Int) := by omega
  have HP0 := Lib.hid (fun h : ((n : Int) == 0) = true => pw0 (a := 2) h)
  have HP1 := Lib.hid (fun h : ((n : Int) == 0) = false => pw1 (a := 2) h)
  rcases hE with hc | hc
  all_goals
    go_enter Tryd.func37, Tryd.ntmps37
    go_wp2_with (go_at_call 18; refine (h2 _ _ rfl).mono ?_; rintro e w' ⟨rfl, rfl⟩)
    all_goals first | exact absurd ‹some undef = some (Value.bool _)› (by unfold undef; simp) | skip
    all_goals go_ret
    all_goals first | exact ⟨by rw [HP0.out (by assumption)]; rfl, rfl⟩ | exact ⟨ret_i (by rw [HP1.out (by assumption)]; omega), rfl⟩
set_option maxRecDepth 100000 in
set_option maxHeartbeats 2000000 in
theorem power_minus (s : ByteArray) (w : World) (n : Nat) (hn : n ≤ 1000000000) (hs : s.size ≤ 1000000000) (h0 : 0 < s.size) (hE : s[0].toNat = 101 ∨ s[0].toNat = 69) (h1 : 1 < s.size) (hd : s[1].toNat = 45)
    (h2 : ∀ (t : ByteArray) (w : World), t = s.extract 2 s.size → Calls Tryd.prog 18 #[.string t, .func (.func 25) #[] #[]] w fun e w' => e = .returned (.int .i64 (n : Nat)) ∧ w = w') :
    Calls Tryd.prog 37 #[.string s] w fun e w' => e = .returned (.int .i64 (pwR 2 n : Nat)) ∧ w = w' := by
  have he := emp_no h0
  have hl1 : (1 : Int) ≤ (s.size : Int) := by omega
  have hl : (1 : Int) < (s.size : Int) := by omega
  have hl2 : (2 : Int) ≤ (s.size : Int) := by omega
  have HP0 := Lib.hid (fun h : ((n : Int) == 0) = true => pw0 (a := 2) h)
  have HP1 := Lib.hid (fun h : ((n : Int) == 0) = false => pw1 (a := 2) h)
  rcases hE with hc | hc
  all_goals
    go_enter Tryd.func37, Tryd.ntmps37
    go_wp2_with (go_at_call 18; refine (h2 _ _ rfl).mono ?_; rintro e w' ⟨rfl, rfl⟩)
    all_goals first | exact absurd ‹some undef = some (Value.bool _)› (by unfold undef; simp) | skip
    all_goals go_ret
    all_goals first | exact ⟨by rw [HP0.out (by assumption)]; rfl, rfl⟩ | exact ⟨ret_i (by rw [HP1.out (by assumption)]; omega), rfl⟩
set_option maxRecDepth 100000 in
set_option maxHeartbeats 2000000 in
theorem power_none (s : ByteArray) (w : World) (n : Nat) (hn : n ≤ 1000000000) (hs : s.size ≤ 1000000000) (h0 : 0 < s.size) (hE : s[0].toNat = 101 ∨ s[0].toNat = 69) (d : Nat) (h1 : 1 < s.size) (hd : s[1].toNat = d) (hS : ¬ (d = 43 ∨ d = 45))
    (h2 : ∀ (t : ByteArray) (w : World), t = s.extract 1 s.size → Calls Tryd.prog 18 #[.string t, .func (.func 25) #[] #[]] w fun e w' => e = .returned (.int .i64 (n : Nat)) ∧ w = w') :
    Calls Tryd.prog 37 #[.string s] w fun e w' => e = .returned (.int .i64 (pwR 1 n : Nat)) ∧ w = w' := by
  have he := emp_no h0
  have hl1 : (1 : Int) ≤ (s.size : Int) := by omega
  have hl : (1 : Int) < (s.size : Int) := by omega
  have g3 : ((d : Int) == 43) = false := by simp; omega
  have g4 : ((d : Int) == 45) = false := by simp; omega
  clear hS
  have HP0 := Lib.hid (fun h : ((n : Int) == 0) = true => pw0 (a := 1) h)
  have HP1 := Lib.hid (fun h : ((n : Int) == 0) = false => pw1 (a := 1) h)
  rcases hE with hc | hc
  all_goals
    go_enter Tryd.func37, Tryd.ntmps37
    go_wp2_with (go_at_call 18; refine (h2 _ _ rfl).mono ?_; rintro e w' ⟨rfl, rfl⟩)
    all_goals first | exact absurd ‹some undef = some (Value.bool _)› (by unfold undef; simp) | skip
    all_goals go_ret
    all_goals first | exact ⟨by rw [HP0.out (by assumption)]; rfl, rfl⟩ | exact ⟨ret_i (by rw [HP1.out (by assumption)]; omega), rfl⟩
set_option maxRecDepth 100000 in
set_option maxHeartbeats 1000000 in
theorem powerLength_any (s : ByteArray) (w : World) (hs : s.size ≤ 1000000000) :
    Calls Tryd.prog 37 #[.string s] w fun e w' => e = .returned (.int .i64 (expL s.data.toList 0 : Nat)) ∧ w = w' := by
  by_cases h0 : 0 < s.size
  · by_cases hE : s[0].toNat = 101 ∨ s[0].toNat = 69
    · obtain ⟨a, ha⟩ : ∃ a, expK s.data.toList 0 = a := ⟨_, rfl⟩
      obtain ⟨n, hn⟩ : ∃ n, dgs (s.data.toList.drop a) = n := ⟨_, rfl⟩
      have hd := dgs_le (s.data.toList.drop a)
      rw [hn, List.length_drop] at hd
      have e : s.data.toList.length = s.size := by simp
      have h2 := fun t w ht => runD_c s a t w hs ht n hn
      have hf : expL s.data.toList 0 = pwR a n := by
        unfold expL pwR
        rw [is1_atE h0, is1_atE h0, ha, hn]
        simp [hE]
      rw [hf]
      unfold expK at ha
      simp only [Nat.zero_add] at ha
      by_cases h1 : s.size = 1
      · rw [is1_end (by omega), is1_end (by omega)] at ha
        simp only [Bool.false_eq_true, or_self, if_false] at ha
        subst ha
        exact power_one s w n (by omega) hs h0 hE (by omega) h2
      · have h1s : 1 < s.size := by omega
        rw [is1_atE h1s, is1_atE h1s] at ha
        by_cases hP : s[1].toNat = 43
        · rw [if_pos (by simp [hP])] at ha
          subst ha
          exact power_plus s w n (by omega) hs h0 hE h1s hP h2
        · by_cases hM : s[1].toNat = 45
          · rw [if_pos (by simp [hM])] at ha
            subst ha
            exact power_minus s w n (by omega) hs h0 hE h1s hM h2
          · rw [if_neg (by simp [hP, hM])] at ha
            subst ha
            exact power_none s w n (by omega) hs h0 hE _ h1s rfl (by omega) h2
    · obtain ⟨c, hc⟩ : ∃ c, s[0].toNat = c := ⟨_, rfl⟩
      have he := emp_no h0
      have hl1 : (1 : Int) ≤ (s.size : Int) := by omega
      have hf : expL s.data.toList 0 = 0 := by
        unfold expL
        rw [is1_atE h0, is1_atE h0, if_neg (by simp; omega)]
      rw [hf]
      rw [hc] at hE
      have g1 : ((c : Int) != 101) = true := by simp; omega
      have g2 : ((c : Int) == 101) = false := by simp; omega
      have g3 : ((c : Int) != 69) = true := by simp; omega
      have g4 : ((c : Int) == 69) = false := by simp; omega
      clear hf
      go_enter Tryd.func37, Tryd.ntmps37
      go_wp2
      go_ret
      exact ⟨rfl, rfl⟩
  · obtain rfl := emp_eq h0
    go_enter Tryd.func37, Tryd.ntmps37
    go_wp2
    all_goals first | exact absurd ‹some undef = some (Value.bool _)› (by unfold undef; simp) | skip
    go_ret
    exact ⟨rfl, rfl⟩
set_option maxRecDepth 100000 in
set_option maxHeartbeats 1000000 in
theorem numberLength_any (s : ByteArray) (w : World) (hs : s.size ≤ 1000000000) :
    Calls Tryd.prog 30 #[.string s] w fun e w' => e = .returned (.int .i64 (numL s.data.toList : Nat)) ∧ w = w' := by
  have e : s.data.toList.length = s.size := by simp
  obtain ⟨a, ha⟩ : ∃ a, dgs s.data.toList = a := ⟨_, rfl⟩
  have h1 := fun w => runD_any s w hs
  rw [run_dgs0, ha] at h1
  have ha1 := dgs_le s.data.toList
  rw [ha, e] at ha1
  obtain ⟨f, hf⟩ : ∃ f, fracL (s.data.toList.drop a) 0 = f := ⟨_, rfl⟩
  have h2 := fun w => fractionLength_any (s.extract a s.size) w (by rw [ext_size]; omega)
  rw [ext_drop, hf] at h2
  have hf1 := fracL_le (s.data.toList.drop a) 0 (by omega)
  rw [hf, List.length_drop, e] at hf1
  obtain ⟨g, hg⟩ : ∃ g, expL (s.data.toList.drop (a + f)) 0 = g := ⟨_, rfl⟩
  have h3 := fun t w (ht : t = s.extract (a + f) s.size) => show Calls Tryd.prog 37 #[.string t] w fun e w' => e = .returned (.int .i64 (g : Nat)) ∧ w = w' by
    rw [ht, ← hg, ← ext_drop]
    exact powerLength_any _ w (by rw [ext_size]; omega)
  have hg1 := expL_le (s.data.toList.drop (a + f)) 0 (by omega)
  rw [hg, List.length_drop, e] at hg1
  have hN : numL s.data.toList = a + f + g := by
    unfold numL
    rw [ha, expL_drop, fracL_drop, hf, hg]
  rw [hN]
  clear hN ha hf hg e
  have hbs : (a : Int) + f ≤ s.size := by omega
  go_enter Tryd.func30, Tryd.ntmps30
  go_wp2_with (first | (go_at_call 37; refine (h3 _ _ rfl).mono ?_; rintro e w' ⟨rfl, rfl⟩) | (go_at_call 36; refine (h2 _).mono ?_; rintro e w' ⟨rfl, rfl⟩) | (go_at_call 18; refine (h1 _).mono ?_; rintro e w' ⟨rfl, rfl⟩))
  go_ret
  exact ⟨ret_i (by omega), rfl⟩
set_option maxRecDepth 100000 in
set_option maxHeartbeats 1000000 in
theorem stringLength_any (s : ByteArray) (w : World) (hs : s.size ≤ 1000000000) (h0 : 0 < s.size) :
    Calls Tryd.prog 32 #[.string s] w fun e w' => e = .returned (.int .i64 ((strO s 1).getD 0 : Nat)) ∧ w = w' := by
  obtain ⟨R, hR⟩ : ∃ R, strO s 1 = R := ⟨_, rfl⟩
  rw [hR]
  have HR := Lib.hid hR
  clear hR
  go_enter Tryd.func32, Tryd.ntmps32
  go_wp2
  go_loop [3] (fun j => ∃ k : Nat, j = .int .i64 (k : Nat) ∧ k ≤ s.size + 2 ∧ Hid (strO s k = R)) (fun j => s.size + 2 - (intOf j).toNat)
  case atStart => exact ⟨1, rfl, by omega, HR⟩
  case round =>
    clear HR
    obtain ⟨k, rfl, hk, HK⟩ := hrel
    by_cases hlt : k < s.size
    · obtain ⟨d, hd⟩ : ∃ d, s[k].toNat = d := ⟨_, rfl⟩
      by_cases h1 : d = 92
      · subst h1
        have HN : Hid (strO s (k + 2) = R) := Lib.hid (by rw [← strO_esc hlt hd]; exact HK.out)
        clear HK
        go_wp2
        go_round
        case rel => exact ⟨k + 2, by go_num, by omega, HN⟩
        case measure => simp [intOf]; omega
      · by_cases h2 : d = 34
        · subst h2
          have HN : Hid (R = some (k + 1)) := Lib.hid (by rw [← HK.out]; exact strO_q hlt hd)
          clear HK
          go_wp2
          go_ret
          exact ⟨by rw [HN.out]; rfl, rfl⟩
        · have HN : Hid (strO s (k + 1) = R) := Lib.hid (by rw [← strO_more hlt (by omega) (by omega)]; exact HK.out)
          have g1 : ((d : Int) == 92) = false := by simp; omega
          have g2 : ((d : Int) == 34) = false := by simp; omega
          clear HK
          go_wp2
          go_round
          case rel => exact ⟨k + 1, by go_num, by omega, HN⟩
          case measure => simp [intOf]; omega
    · have HN : Hid (R = none) := Lib.hid (by rw [← HK.out]; exact strO_end (by omega))
      clear HK
      go_wp2
      go_ret
      exact ⟨by rw [HN.out]; rfl, rfl⟩
theorem ix_len (c : UInt8) : ∀ l : List UInt8, (Lib.indexByte l c = -1 ∧ (l.takeWhile (· != c)).length = l.length) ∨ ∃ i : Nat, Lib.indexByte l c = i ∧ (l.takeWhile (· != c)).length = i ∧ i < l.length
  | [] => Or.inl ⟨rfl, rfl⟩
  | b :: l => by
    unfold Lib.indexByte
    by_cases hb : b = c
    · subst hb
      exact Or.inr ⟨0, by simp, by simp, by simp⟩
    · rcases ix_len c l with ⟨h1, h2⟩ | ⟨i, h1, h2, h3⟩
      · left
        rw [List.takeWhile_cons_of_pos (by simpa using hb)]
        rw [h1]
        simp [hb, h2]
      · right
        refine ⟨i + 1, ?_, ?_, by simp; omega⟩
        · rw [h1]
          have : ((i : Int) == -1) = false := by simp
          simp [hb, this]
        · rw [List.takeWhile_cons_of_pos (by simpa using hb)]
          simp [h2]
/-- strings.Cut by a new line: how long the first part is -/
def CutP (s : ByteArray) (w : World) (e : Ending) (w' : World) : Prop :=
  (∃ b r f, e = .returned (.tuple #[.string b, .string r, .bool f]) ∧ b.size = (s.data.toList.takeWhile (· != 10)).length) ∧ Below w.heap.size w w'
set_option maxRecDepth 100000 in
set_option maxHeartbeats 1000000 in
theorem slCut_any (s : ByteArray) (w : World) (hs : s.size ≤ 1000000000) :
    Calls Tryd.prog 29 #[.string s, .string ⟨#[10]⟩] w (CutP s w) := by
  have e : s.data.toList.length = s.size := by simp
  have h1 := fun w => Tryd.stringslite_Index_one s 10 w
  rcases ix_len 10 s.data.toList with ⟨h2, h3⟩ | ⟨i, h2, h3, h4⟩
  · rw [h2] at h1
    have HL := Lib.hid h3
    clear h2 h3
    go_enter Tryd.func29, Tryd.ntmps29
    go_wp2_with (go_at_call 35; refine (h1 _).mono ?_; rintro e w' ⟨rfl, rfl⟩)
    go_ret3
    exact ⟨⟨s, _, _, rfl, by rw [HL.out, e]⟩, Below.refl _ _⟩
  · rw [h2] at h1
    rw [e] at h4
    have HL := Lib.hid h3
    have hi2 : (i : Int) + 1 ≤ s.size := by omega
    clear h2 h3 e
    go_enter Tryd.func29, Tryd.ntmps29
    go_wp2_with (go_at_call 35; refine (h1 _).mono ?_; rintro e w' ⟨rfl, rfl⟩)
    go_quiet (fail)
    go_wp2_with fail
    go_ret3
    exact ⟨⟨s.extract 0 i, _, _, rfl, by rw [HL.out, ByteArray.size_extract]; omega⟩, ⟨rfl, rfl, rfl, Nat.le_refl _, fun _ _ => rfl⟩⟩
set_option maxRecDepth 100000 in
set_option maxHeartbeats 1000000 in
theorem cutNL_any (s : ByteArray) (w : World) (hs : s.size ≤ 1000000000) :
    Calls Tryd.prog 22 #[.string s, .string ⟨#[10]⟩] w (CutP s w) := by
  have h1 := fun w => slCut_any s w hs
  unfold CutP at h1
  go_enter Tryd.func22, Tryd.ntmps22
  go_wp2_with (go_at_call 29; refine (h1 _).mono ?_; rintro e w' ⟨⟨b, r, f, rfl, hb⟩, b1⟩; have HB := Lib.hid hb; clear hb)
  go_ret3
  exact ⟨⟨b, r, f, rfl, HB.out⟩, b1⟩
theorem blk_tw : ∀ r : List UInt8, blk true r = (r.takeWhile (· != 10)).length + blk false (r.drop (r.takeWhile (· != 10)).length)
  | [] => rfl
  | c :: t => by
    by_cases h : c = 10
    · subst h
      rw [List.takeWhile_cons_of_neg (by simp)]
      simp [blk, isB]
    · have ih := blk_tw t
      rw [List.takeWhile_cons_of_pos (by simpa using h)]
      have h2 : (c.toNat != 10) = true := by
        simp only [bne_iff_ne, ne_eq]
        intro g; exact h (UInt8.toNat_inj.1 g)
      simp only [blk, h2, List.length_cons, List.drop_succ_cons]
      omega
theorem blkE_cut {s : ByteArray} {k m : Nat} (h : k < s.size) (hc : s[k].toNat = 35) (hm : ((s.data.toList.drop k).takeWhile (· != 10)).length = m) : blkE false s k = blkE false s (k + m) ∧ 0 < m ∧ k + m ≤ s.size := by
  refine ⟨?_, ?_, ?_⟩
  · rw [blkE_hash h hc]
    unfold blkE
    rw [blk_tw, hm, List.drop_drop]; omega
  · rw [at_drop s k h, List.takeWhile_cons_of_pos (by
      simp only [bne_iff_ne, ne_eq]; intro g; rw [g] at hc; simp at hc), List.length_cons] at hm
    omega
  · have := tw_le (· != 10) (s.data.toList.drop k)
    rw [hm, List.length_drop] at this
    have e : s.data.toList.length = s.size := by simp
    omega
set_option maxRecDepth 100000 in
set_option maxHeartbeats 1000000 in
theorem blanks_any (s : ByteArray) (w : World) (hs : s.size ≤ 1000000000) :
    Calls Tryd.prog 15 #[.string s] w fun e w' => e = .returned (.int .i64 (blkE false s 0 : Nat)) ∧ Below w.heap.size w w' := by
  obtain ⟨R, hR⟩ : ∃ R, blkE false s 0 = R := ⟨_, rfl⟩
  rw [hR]
  have HR := Lib.hid hR
  clear hR
  go_enter Tryd.func15, Tryd.ntmps15
  go_wp2
  go_loopw [3] (fun j wr => ∃ k : Nat, j = .int .i64 (k : Nat) ∧ k ≤ s.size ∧ Hid (blkE false s k = R) ∧ Hid (Below w.heap.size w wr)) (fun j _ => s.size - (intOf j).toNat)
  case atStart => exact ⟨0, rfl, by omega, HR, Lib.hid (Below.refl _ _)⟩
  case round =>
    clear HR
    obtain ⟨k, rfl, hk, HK, HB⟩ := hrel
    by_cases hlt : k < s.size
    · obtain ⟨d, hd⟩ : ∃ d, s[k].toNat = d := ⟨_, rfl⟩
      by_cases h1 : d = 35
      · subst h1
        obtain ⟨m, hm⟩ : ∃ m, ((s.data.toList.drop k).takeWhile (· != 10)).length = m := ⟨_, rfl⟩
        obtain ⟨c1, c2, c3⟩ := blkE_cut hlt hd hm
        have HN : Hid (blkE false s (k + m) = R) := Lib.hid (by rw [← c1]; exact HK.out)
        have h2 := fun w => cutNL_any (s.extract k s.size) w (by rw [ext_size]; omega)
        unfold CutP at h2
        rw [ext_drop, hm] at h2
        clear HK c1 hm
        go_wp2_with (go_at_call 22; refine (h2 _).mono ?_; rintro e w1 ⟨⟨b, r, f, rfl, hb⟩, b1⟩)
        go_roundw
        case rel => exact ⟨k + m, by go_num, by omega, HN, Lib.hid (HB.out.trans (b1.mono HB.out.size))⟩
        case measure => simp [intOf]; omega
      · have g1 : ((d : Int) == 35) = false := by simp; omega
        by_cases hb : isB s[k] = true
        · have HN : Hid (blkE false s (k + 1) = R) := Lib.hid (by rw [← blkE_sp hlt (by omega) hb]; exact HK.out)
          have hb' := of_decide_eq_true hb
          rw [hd] at hb'
          clear HK
          rcases hb' with h2 | h2 | h2 | h2
          all_goals
            subst h2
            go_wp2
            go_roundw
            case rel => exact ⟨k + 1, by go_num, by omega, HN, HB⟩
            case measure => simp [intOf]; omega
        · have HN : Hid (k = R) := Lib.hid (by rw [← HK.out]; exact (blkE_no hlt (by omega) (by simpa using hb)).symm)
          have hb' : ¬ (d = 32 ∨ d = 9 ∨ d = 10 ∨ d = 13) := by
            intro g; apply hb; unfold isB; rw [hd]; exact decide_eq_true g
          have g2 : ((d : Int) == 32) = false := by simp; omega
          have g3 : ((d : Int) == 9) = false := by simp; omega
          have g4 : ((d : Int) == 10) = false := by simp; omega
          have g5 : ((d : Int) == 13) = false := by simp; omega
          clear HK
          go_wp2
          go_ret
          exact ⟨ret_i (by have := HN.out; omega), HB.out⟩
    · have HN : Hid (k = R) := Lib.hid (by rw [← HK.out]; exact (blkE_end (by omega)).symm)
      clear HK
      go_wp2
      go_ret
      exact ⟨ret_i (by have := HN.out; omega), HB.out⟩
end Lx
end Go.Proofs.YtpddkchnogfjkaaDoor
