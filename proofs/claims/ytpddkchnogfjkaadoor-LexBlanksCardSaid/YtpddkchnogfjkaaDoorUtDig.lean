/- What digit, fourDigits, numbered and escape answer, of every string; no condition but a string's size. -/
import Derived.Test.YtpddkchnogfjkaaDoorUtValid
import Derived.Test.YtpddkchnogfjkaaDoorUtQuoMath
import Derived.Deep.QuietTactic
import Derived.BigQuiet
import Derived.IntWalk
import Derived.Deep.DeepCutAuto
namespace Go.Proofs.YtpddkchnogfjkaaDoor
open Go.RowKit
namespace Ut
/-- a number and whether it is there -/
def dgV (o : Option Nat) : Value := .tuple #[.int .i32 (o.getD 0 : Nat), .bool o.isSome]
theorem dgV_eq {o : Option Nat} {x : Int} {b : Bool} (h1 : x = (o.getD 0 : Nat)) (h2 : b = o.isSome) : Ending.returned (.tuple #[.int .i32 x, .bool b]) = .returned (dgV o) := by rw [h1, h2]; rfl
theorem dg1 {b : Nat} (h : 48 ≤ b) (h' : b ≤ 57) : dg b = some (b - 48) := by unfold dg; rw [if_pos (by omega)]
theorem dg2 {b : Nat} (h : 97 ≤ b) (h' : b ≤ 102) : dg b = some (b - 87) := by unfold dg; rw [if_neg (by omega), if_pos (by omega)]
theorem dg3 {b : Nat} (h : 65 ≤ b) (h' : b ≤ 70) : dg b = some (b - 55) := by unfold dg; rw [if_neg (by omega), if_neg (by omega), if_pos (by omega)]
theorem dg0 {b : Nat} (h : ¬ (48 ≤ b ∧ b ≤ 57)) (h' : ¬ (97 ≤ b ∧ b ≤ 102)) (h'' : ¬ (65 ≤ b ∧ b ≤ 70)) : dg b = none := by unfold dg; rw [if_neg h, if_neg h', if_neg h'']
set_option maxRecDepth 100000 in
set_option maxHeartbeats 1000000 in
theorem digit_any (b : Nat) (w : World) (hb : b < 256) :
    Calls Tryd.prog 96 #[.int .u8 b] w fun e w' => e = .returned (dgV (dg b)) ∧ w = w' := by
  go_enter Tryd.func96, Tryd.ntmps96
  go_wp2
  all_goals
    go_ret2
    first
    | exact ⟨dgV_eq (by rw [dg1 (by omega) (by omega)]; simp; omega) (by rw [dg1 (by omega) (by omega)]; rfl), rfl⟩
    | exact ⟨dgV_eq (by rw [dg2 (by omega) (by omega)]; simp; omega) (by rw [dg2 (by omega) (by omega)]; rfl), rfl⟩
    | exact ⟨dgV_eq (by rw [dg3 (by omega) (by omega)]; simp; omega) (by rw [dg3 (by omega) (by omega)]; rfl), rfl⟩
    | exact ⟨dgV_eq (by rw [dg0 (by omega) (by omega) (by omega)]; rfl) (by rw [dg0 (by omega) (by omega) (by omega)]; rfl), rfl⟩
set_option maxRecDepth 100000 in
theorem isHigh_any (c : Nat) (w : World) (hc : c < 1114112) :
    Calls Tryd.prog 73 #[.int .i32 (c : Nat)] w fun e w' => e = .returned (.bool (decide (55296 ≤ c ∧ c < 56320))) ∧ w = w' := by
  go_enter Tryd.func73, Tryd.ntmps73
  by_cases h : 55296 ≤ c <;> by_cases h' : c < 56320 <;> go_wp2 <;> go_ret <;> exact ⟨ret_bool (by first | (rw [Bool.eq_iff_iff]; simp only [decide_eq_true_eq]; omega) | (simp; done) | (simp; omega)), rfl⟩
set_option maxRecDepth 100000 in
theorem isLow_any (c : Nat) (w : World) (hc : c < 1114112) :
    Calls Tryd.prog 74 #[.int .i32 (c : Nat)] w fun e w' => e = .returned (.bool (decide (56320 ≤ c ∧ c < 57344))) ∧ w = w' := by
  go_enter Tryd.func74, Tryd.ntmps74
  by_cases h : 56320 ≤ c <;> by_cases h' : c < 57344 <;> go_wp2 <;> go_ret <;> exact ⟨ret_bool (by first | (rw [Bool.eq_iff_iff]; simp only [decide_eq_true_eq]; omega) | (simp; done) | (simp; omega)), rfl⟩
/-- digits read so far -/
def dgs (l : List Nat) : Nat → Option Nat
  | 0 => some 0
  | j + 1 => (dgs l j).bind fun a => (dg (l.getD j 0)).map fun d => 16 * a + d
theorem dgs_none {l : List Nat} {j : Nat} (h : dgs l j = none) : ∀ m, j ≤ m → dgs l m = none := by
  intro m
  induction m with
  | zero => intro hm; obtain rfl : j = 0 := by omega
            exact h
  | succ m ih =>
    intro hm
    by_cases e : j = m + 1
    · rw [← e]; exact h
    · simp only [dgs, ih (by omega), Option.bind_none]
theorem dgs_succ {l : List Nat} {j a d : Nat} (h : dgs l j = some a) (hd : dg (l.getD j 0) = some d) : dgs l (j + 1) = some (16 * a + d) := by simp only [dgs, h, hd, Option.bind_some, Option.map_some]
theorem dgs_stop {l : List Nat} {j : Nat} (hd : dg (l.getD j 0) = none) : dgs l (j + 1) = none := by simp only [dgs, hd, Option.map_none]; cases dgs l j <;> rfl
theorem dg_0 : dg 0 = none := rfl
theorem four_dgs (l : List Nat) : four l = dgs l 4 := by
  match l with
  | [] => exact (dgs_none (j := 1) (dgs_stop rfl) 4 (by omega)).symm
  | [_] => exact (dgs_none (j := 2) (dgs_stop rfl) 4 (by omega)).symm
  | [_, _] => exact (dgs_none (j := 3) (dgs_stop rfl) 4 (by omega)).symm
  | [_, _, _] => exact (dgs_none (j := 4) (dgs_stop rfl) 4 (by omega)).symm
  | a :: b :: c :: d :: t =>
    simp only [four, dgs, List.getD_cons_zero, List.getD_cons_succ]
    cases dg a <;> cases dg b <;> cases dg c <;> cases dg d <;> simp
    omega
theorem unum_eq (l : List Nat) : unum l = if l.getD 0 0 = 92 ∧ l.getD 1 0 = 117 then four (l.drop 2) else none := by
  match l with
  | [] => rfl
  | [a] => simp [unum]
  | a :: b :: t =>
    by_cases h : a = 92 ∧ b = 117
    · obtain ⟨rfl, rfl⟩ := h; simp [unum]
    · simp only [List.getD_cons_zero, List.getD_cons_succ]
      rw [if_neg h]
      unfold unum
      split
      · rename_i heq; simp at heq; omega
      · rfl
theorem unum_len {l : List Nat} {n : Nat} (h : unum l = some n) : 6 ≤ l.length ∧ n < 65536 := by
  rw [unum_eq] at h
  split at h
  · have := four_lt h; rw [List.length_drop] at this; omega
  · simp at h
theorem byt_getD0 (s : ByteArray) (k : Nat) (h : k < s.size) : (byt s).getD k 0 = s[k].toNat := by rw [List.getD_eq_getElem?_getD, byt_get s k h]; rfl
theorem byt_getD2 (s : ByteArray) (k j : Nat) (h : k + j < s.size) : ((byt s).drop k).getD j 0 = s[k + j].toNat := by
  rw [List.getD_eq_getElem?_getD, List.getElem?_drop, byt_get s (k + j) h]; rfl
set_option maxRecDepth 100000 in
set_option maxHeartbeats 1000000 in
theorem fourDigits_any (s : ByteArray) (w : World) (hs : s.size ≤ maxLen) :
    Calls Tryd.prog 87 #[.string s] w fun e w' => e = .returned (dgV (unum (byt s))) ∧ w = w' := by
  unfold maxLen at hs
  by_cases h6 : s.size < 6
  · have hn : Hid (unum (byt s) = none) := Lib.hid (by
      cases h : unum (byt s) with
      | none => rfl
      | some n => have := unum_len h; rw [byt_len] at this; omega)
    go_enter Tryd.func87, Tryd.ntmps87
    go_wp2
    go_ret2
    exact ⟨dgV_eq (by rw [hn.out]; rfl) (by rw [hn.out]; rfl), rfl⟩
  have he := unum_eq (byt s)
  rw [byt_getD0 s 0 (by omega), byt_getD0 s 1 (by omega)] at he
  have HE := Lib.hid he
  clear he
  by_cases h0 : s[0].toNat = 92
  case neg =>
    have hn : Hid (unum (byt s) = none) := Lib.hid (by rw [HE.out, if_neg (by omega)])
    clear HE
    have hne : ((s[0].toNat : Int) == 92) = false := by simp; omega
    go_enter Tryd.func87, Tryd.ntmps87
    go_wp2
    go_ret2
    exact ⟨dgV_eq (by rw [hn.out]; rfl) (by rw [hn.out]; rfl), rfl⟩
  by_cases h1 : s[1].toNat = 117
  case neg =>
    have hn : Hid (unum (byt s) = none) := Lib.hid (by rw [HE.out, if_neg (by omega)])
    clear HE
    have hne : ((s[1].toNat : Int) != 117) = true := by simp; omega
    go_enter Tryd.func87, Tryd.ntmps87
    go_wp2
    go_ret2
    exact ⟨dgV_eq (by rw [hn.out]; rfl) (by rw [hn.out]; rfl), rfl⟩
  have he := HE.out
  rw [if_pos ⟨h0, h1⟩, four_dgs] at he
  have HF := Lib.hid he
  clear HE he
  obtain ⟨l, hl⟩ : ∃ l, (byt s).drop 2 = l := ⟨_, rfl⟩
  have HL := Lib.hid hl
  rw [hl] at HF
  clear hl
  go_enter Tryd.func87, Tryd.ntmps87
  go_wp2
  go_loop [4, 5, 6, 7] (fun r i _ _ => ∃ (k x : Nat), i = .int .i64 k ∧ r = .int .i32 x ∧ 2 ≤ k ∧ k ≤ 6 ∧ x < 16 ^ (k - 2) ∧ Hid (dgs l (k - 2) = some x)) (fun _ i _ _ => 6 - (intOf i).toNat)
  case atStart => exact ⟨2, 0, rfl, rfl, by omega, by omega, by decide, Lib.hid rfl⟩
  case round =>
    obtain ⟨k, x, rfl, rfl, hk2, hk6, hx, HX⟩ := hrel
    by_cases hlt : k < 6
    · have hx4 : x < 4096 := by
        have : 16 ^ (k - 2) ≤ 16 ^ 3 := Nat.pow_le_pow_right (by decide) (by omega)
        omega
      obtain ⟨b, hb⟩ : ∃ b, s[k].toNat = b := ⟨_, rfl⟩
      have hb256 : b < 256 := by rw [← hb]; exact s[k].toNat_lt
      have hg := byt_getD2 s 2 (k - 2) (by omega)
      simp only [show 2 + (k - 2) = k by omega] at hg
      rw [HL.out, hb] at hg
      have HG := Lib.hid hg
      clear hg
      have hc := fun w => digit_any b w hb256
      cases hd : dg b with
      | none =>
        rw [hd] at hc
        unfold dgV at hc
        simp only [Option.getD_none, Option.isSome_none] at hc
        have hn : Hid (unum (byt s) = none) := Lib.hid (by rw [HF.out]; exact dgs_none (dgs_stop (by rw [HG.out]; exact hd)) 4 (show k - 2 + 1 ≤ 4 by omega))
        clear hd
        go_wp2_with (go_at_call 96; refine (hc _).mono ?_; rintro e w' ⟨rfl, rfl⟩)
        go_ret2
        exact ⟨dgV_eq (by rw [hn.out]; rfl) (by rw [hn.out]; rfl), rfl⟩
      | some d =>
        have hd16 := dg_lt hd
        rw [hd] at hc
        unfold dgV at hc
        simp only [Option.getD_some, Option.isSome_some] at hc
        have hn : Hid (dgs l (k - 2 + 1) = some (16 * x + d)) := Lib.hid (dgs_succ HX.out (by rw [HG.out]; exact hd))
        clear hd
        have hp : 16 ^ (k + 1 - 2) = 16 * 16 ^ (k - 2) := by rw [show k + 1 - 2 = (k - 2) + 1 by omega, Nat.pow_succ]; omega
        have HP := Lib.hid hp
        clear hp
        go_wp2_with (go_at_call 96; refine (hc _).mono ?_; rintro e w' ⟨rfl, rfl⟩)
        go_round
        case rel => exact ⟨k + 1, 16 * x + d, by go_num, by go_num, by omega, by omega, by rw [HP.out]; omega, by rw [show k + 1 - 2 = k - 2 + 1 by omega]; exact hn⟩
        case measure => simp [intOf]; omega
    · obtain rfl : k = 6 := by omega
      have hn : Hid (unum (byt s) = some x) := Lib.hid (by rw [HF.out]; exact HX.out)
      go_wp2
      go_ret2
      exact ⟨dgV_eq (by rw [hn.out]; rfl) (by rw [hn.out]; rfl), rfl⟩
/-- a surrogate -/
def sur (c : Nat) : Bool := decide (55296 ≤ c ∧ c < 57344)
set_option maxRecDepth 100000 in
set_option maxHeartbeats 1000000 in
theorem isSurrogate_any (c : Nat) (w : World) (hc : c < 1114112) :
    Calls Tryd.prog 48 #[.int .i32 (c : Nat)] w fun e w' => e = .returned (.bool (sur c)) ∧ w = w' := by
  have hh := fun w => isHigh_any c w hc
  have hl := fun w => isLow_any c w hc
  unfold sur
  by_cases h : 55296 ≤ c ∧ c < 56320
  · rw [decide_eq_true h] at hh
    rw [decide_eq_true (show 55296 ≤ c ∧ c < 57344 by omega)]
    clear h hl
    go_enter Tryd.func48, Tryd.ntmps48
    go_wp2_with (go_at_call 73; refine (hh _).mono ?_; rintro e w' ⟨rfl, rfl⟩)
    go_ret
    exact ⟨rfl, rfl⟩
  · rw [decide_eq_false h] at hh
    have e : decide (55296 ≤ c ∧ c < 57344) = decide (56320 ≤ c ∧ c < 57344) := by rw [Bool.eq_iff_iff]; simp only [decide_eq_true_eq]; omega
    rw [e]
    clear h e
    generalize decide (56320 ≤ c ∧ c < 57344) = q at hl
    go_enter Tryd.func48, Tryd.ntmps48
    go_wp2_with (first | (go_at_call 73; refine (hh _).mono ?_; rintro e w' ⟨rfl, rfl⟩) | (go_at_call 74; refine (hl _).mono ?_; rintro e w' ⟨rfl, rfl⟩))
    go_ret
    exact ⟨rfl, rfl⟩
/-- an escape's answer -/
def prV : Option (Nat × Nat) → Value
  | some (r, n) => .tuple #[.int .i32 (r : Nat), .int .i64 (n : Nat)]
  | none => .tuple #[.int .i32 0, .int .i64 0]
/-- what begins with \u -/
def numb (l : List Nat) : Option (Nat × Nat) := match unum l with
  | none => none
  | some n => match unum (l.drop 6) with
    | none => some (n, 6)
    | some m => if (55296 ≤ n ∧ n < 56320) ∧ (56320 ≤ m ∧ m < 57344) then some (65536 + 1024 * (n - 55296) + (m - 56320), 12) else some (n, 6)
theorem unum_92 (t : List Nat) : unum (92 :: 117 :: t) = four t := rfl
theorem esc_numb (t : List Nat) : esc (92 :: 117 :: t) = numb (92 :: 117 :: t) := by
  unfold numb
  rw [unum_92]
  have e : (92 :: 117 :: t).drop 6 = t.drop 4 := rfl
  rw [e]
  simp only [esc, if_true]
  cases four t with
  | none => rfl
  | some n =>
    cases unum (t.drop 4) with
    | none => by_cases h1 : 55296 ≤ n ∧ n < 56320 <;> simp [h1]
    | some m => by_cases h1 : 55296 ≤ n ∧ n < 56320 <;> by_cases h2 : 56320 ≤ m ∧ m < 57344 <;> simp [h1, h2]
theorem esc_smp (a c : Nat) (t : List Nat) (h : c ≠ 117) : esc (a :: c :: t) = match smp c with | some d => some (d, 2) | none => none := by
  simp only [esc]; rw [if_neg h]; cases smp c <;> rfl
set_option maxRecDepth 100000 in
set_option maxHeartbeats 1000000 in
theorem numbered_any (s : ByteArray) (w : World) (hs : s.size ≤ maxLen) :
    Calls Tryd.prog 72 #[.string s] w fun e w' => e = .returned (prV (numb (byt s))) ∧ w = w' := by
  have hf := fun w => fourDigits_any s w hs
  have hs' := hs
  unfold maxLen at hs
  unfold numb
  cases hu : unum (byt s) with
  | none =>
    rw [hu] at hf
    unfold dgV at hf
    simp only [Option.getD_none, Option.isSome_none] at hf ⊢
    clear hu
    go_enter Tryd.func72, Tryd.ntmps72
    go_wp2_with (go_at_call 87; refine (hf _).mono ?_; rintro e w' ⟨rfl, rfl⟩)
    go_ret2
    exact ⟨rfl, rfl⟩
  | some n =>
    have hn := unum_len hu
    rw [byt_len] at hn
    obtain ⟨hn6, hnn⟩ := hn
    have hg := fun w => fourDigits_any (s.extract 6 s.size) w (by rw [ByteArray.size_extract]; unfold maxLen at hs' ⊢; omega)
    rw [byt_from] at hg
    rw [hu] at hf
    unfold dgV at hf hg
    simp only [Option.getD_some, Option.isSome_some] at hf ⊢
    clear hu
    have hh := fun w => isHigh_any n w (by omega)
    cases hu2 : unum ((byt s).drop 6) with
    | none =>
      rw [hu2] at hg
      simp only [Option.getD_none, Option.isSome_none] at hg ⊢
      clear hu2
      go_enter Tryd.func72, Tryd.ntmps72
      go_upto_region 4 with (go_at_call 87; refine (hf _).mono ?_; rintro e w' ⟨rfl, rfl⟩)
      go_wp2_with (go_at_call 87; refine (hg _).mono ?_; rintro e w' ⟨rfl, rfl⟩)
      go_ret2
      exact ⟨rfl, rfl⟩
    | some m =>
      have hm := unum_len hu2
      rw [hu2] at hg
      simp only [Option.getD_some, Option.isSome_some] at hg ⊢
      obtain ⟨_, hm⟩ := hm
      have hl := fun w => isLow_any m w (by omega)
      clear hu2
      by_cases h1 : 55296 ≤ n ∧ n < 56320
      · by_cases h2 : 56320 ≤ m ∧ m < 57344
        · rw [if_pos ⟨h1, h2⟩]
          rw [decide_eq_true h1] at hh
          rw [decide_eq_true h2] at hl
          obtain ⟨h1, h1'⟩ := h1
          obtain ⟨h2, h2'⟩ := h2
          go_enter Tryd.func72, Tryd.ntmps72
          go_upto_region 4 with (go_at_call 87; refine (hf _).mono ?_; rintro e w' ⟨rfl, rfl⟩)
          go_wp2_with (first | (go_at_call 87; refine (hg _).mono ?_; rintro e w' ⟨rfl, rfl⟩) | (go_at_call 73; refine (hh _).mono ?_; rintro e w' ⟨rfl, rfl⟩) | (go_at_call 74; refine (hl _).mono ?_; rintro e w' ⟨rfl, rfl⟩))
          go_ret2
          refine ⟨?_, rfl⟩
          unfold prV
          go_num
        · rw [if_neg (fun h => h2 h.2)]
          rw [decide_eq_true h1] at hh
          rw [decide_eq_false h2] at hl
          clear h1 h2
          go_enter Tryd.func72, Tryd.ntmps72
          go_upto_region 4 with (go_at_call 87; refine (hf _).mono ?_; rintro e w' ⟨rfl, rfl⟩)
          go_wp2_with (first | (go_at_call 87; refine (hg _).mono ?_; rintro e w' ⟨rfl, rfl⟩) | (go_at_call 73; refine (hh _).mono ?_; rintro e w' ⟨rfl, rfl⟩) | (go_at_call 74; refine (hl _).mono ?_; rintro e w' ⟨rfl, rfl⟩))
          go_ret2
          exact ⟨rfl, rfl⟩
      · rw [if_neg (fun h => h1 h.1)]
        rw [decide_eq_false h1] at hh
        clear h1 hl
        go_enter Tryd.func72, Tryd.ntmps72
        go_upto_region 4 with (go_at_call 87; refine (hf _).mono ?_; rintro e w' ⟨rfl, rfl⟩)
        go_wp2_with (first | (go_at_call 87; refine (hg _).mono ?_; rintro e w' ⟨rfl, rfl⟩) | (go_at_call 73; refine (hh _).mono ?_; rintro e w' ⟨rfl, rfl⟩))
        go_ret2
        exact ⟨rfl, rfl⟩
set_option maxRecDepth 100000 in
set_option maxHeartbeats 2000000 in
theorem escape_any (s : ByteArray) (w : World) (h0 : 0 < s.size) (h92 : s[0].toNat = 92) (hs : s.size ≤ maxLen) :
    Calls Tryd.prog 47 #[.string s] w fun e w' => e = .returned (prV (esc (byt s))) ∧ w = w' := by
  have hnb := fun w => numbered_any s w hs
  unfold maxLen at hs
  by_cases h2 : s.size < 2
  · have he : Hid (esc (byt s) = none) := Lib.hid (by
      have : (byt s).length < 2 := by rw [byt_len]; exact h2
      match hb : byt s with
      | [] => rfl
      | [_] => rfl
      | a :: b :: t => rw [hb] at this; simp at this; omega)
    go_enter Tryd.func47, Tryd.ntmps47
    go_wp2
    go_ret2
    exact ⟨by rw [he.out]; rfl, rfl⟩
  have hcons : byt s = 92 :: s[1].toNat :: (byt s).drop 2 := by
    have := byt_at s 0 h0
    rw [byt_at s (0 + 1) (by omega), h92] at this
    simpa using this
  obtain ⟨t, ht⟩ : ∃ t, (byt s).drop 2 = t := ⟨_, rfl⟩
  obtain ⟨c, hc⟩ : ∃ c, s[1].toNat = c := ⟨_, rfl⟩
  have hc256 : c < 256 := by rw [← hc]; exact s[1].toNat_lt
  rw [ht, hc] at hcons
  clear ht
  by_cases hu : c = 117
  · subst hu
    have he : Hid (esc (byt s) = numb (byt s)) := Lib.hid (by rw [hcons]; exact esc_numb t)
    obtain ⟨o, ho⟩ : ∃ o, numb (byt s) = o := ⟨_, rfl⟩
    rw [ho] at he hnb
    clear hcons ho
    match o with
    | none =>
      unfold prV at hnb
      simp only at hnb
      go_enter Tryd.func47, Tryd.ntmps47
      go_wp2_with (go_at_call 72; refine (hnb _).mono ?_; rintro e w' ⟨rfl, rfl⟩)
      go_ret2
      exact ⟨by rw [he.out]; rfl, rfl⟩
    | some (r, n) =>
      unfold prV at hnb
      simp only at hnb
      go_enter Tryd.func47, Tryd.ntmps47
      go_wp2_with (go_at_call 72; refine (hnb _).mono ?_; rintro e w' ⟨rfl, rfl⟩)
      go_ret2
      exact ⟨by rw [he.out]; rfl, rfl⟩
  have he : Hid (esc (byt s) = match smp c with | some d => some (d, 2) | none => none) := Lib.hid (by rw [hcons]; exact esc_smp 92 c t hu)
  clear hcons hnb
  have hun : ((c : Int) == 117) = false := by simp; omega
  go_enter Tryd.func47, Tryd.ntmps47
  go_wp2
  all_goals
    go_ret2
    refine ⟨?_, rfl⟩
    rw [he.out]
    (try simp only [beq_iff_eq, beq_eq_false_iff_ne, ne_eq] at *)
    unfold smp
    repeat first | rw [if_pos (by omega)] | rw [if_neg (by omega)]
    first
    | rfl
    | (obtain rfl : c = 34 := by omega
       rfl)
    | (obtain rfl : c = 92 := by omega
       rfl)
    | (obtain rfl : c = 47 := by omega
       rfl)
end Ut
end Go.Proofs.YtpddkchnogfjkaaDoor
