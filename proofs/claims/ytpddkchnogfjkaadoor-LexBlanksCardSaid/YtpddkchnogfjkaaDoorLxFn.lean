/- Layer 13: the code's small functions: signs of bytes, how far they go on, blanks, key words. -/
import Derived.Test.YtpddkchnogfjkaaDoorLxKeys
import Derived.Test.YtpddkchnogfjkaaDoorShelf
import Derived.Lib.CutLaws
import Derived.Shelf.Abstract
namespace Go.Proofs.YtpddkchnogfjkaaDoor
open Go.RowKit
namespace Lx
set_option maxRecDepth 100000 in
set_option maxHeartbeats 1000000 in
theorem letter_any (b : Nat) (w : World) (hb : b < 256) :
    Calls Tryd.prog 17 #[.int .u8 b] w fun e w' => e = .returned (.bool (isLn b)) ∧ w = w' := by
  go_enter Tryd.func17, Tryd.ntmps17
  go_wp2
  all_goals
    go_ret
    refine ⟨ret_b ?_, rfl⟩
    unfold isLn
    (try simp only [beq_iff_eq, beq_eq_false_iff_ne, ne_eq] at *)
    first
    | (symm; apply decide_eq_true; omega)
    | (symm; apply decide_eq_false; omega)
    | (rw [Bool.eq_iff_iff]; simp only [Bool.or_eq_true, decide_eq_true_eq, beq_iff_eq]; omega)
set_option maxRecDepth 100000 in
set_option maxHeartbeats 1000000 in
theorem digit_any (b : Nat) (w : World) (hb : b < 256) :
    Calls Tryd.prog 25 #[.int .u8 b] w fun e w' => e = .returned (.bool (isDn b)) ∧ w = w' := by
  go_enter Tryd.func25, Tryd.ntmps25
  go_wp2
  all_goals
    go_ret
    refine ⟨ret_b ?_, rfl⟩
    unfold isDn
    (try simp only [beq_iff_eq, beq_eq_false_iff_ne, ne_eq] at *)
    first
    | (symm; apply decide_eq_true; omega)
    | (symm; apply decide_eq_false; omega)
    | (rw [Bool.eq_iff_iff]; simp only [decide_eq_true_eq]; omega)
set_option maxRecDepth 100000 in
set_option maxHeartbeats 1000000 in
theorem inName_any (b : Nat) (w : World) (hb : b < 256) :
    Calls Tryd.prog 19 #[.int .u8 b] w fun e w' => e = .returned (.bool (isLn b || isDn b)) ∧ w = w' := by
  have h1 := fun w => letter_any b w hb
  have h2 := fun w => digit_any b w hb
  cases hL : isLn b
  · rw [hL] at h1
    go_enter Tryd.func19, Tryd.ntmps19
    go_wp2_with (first | (go_at_call 25; refine (h2 _).mono ?_; rintro e w' ⟨rfl, rfl⟩) | (go_at_call 17; refine (h1 _).mono ?_; rintro e w' ⟨rfl, rfl⟩))
    all_goals go_ret
    all_goals exact ⟨rfl, rfl⟩
  · rw [hL] at h1
    go_enter Tryd.func19, Tryd.ntmps19
    go_wp2_with (first | (go_at_call 17; refine (h1 _).mono ?_; rintro e w' ⟨rfl, rfl⟩))
    all_goals go_ret
    all_goals exact ⟨rfl, rfl⟩
/-- how far bytes of a kind go on, by the code -/
theorem runOf (F : FuncId) (p : UInt8 → Bool) (hF : ∀ (b : UInt8) (w : World), Calls Tryd.prog F #[.int .u8 b.toNat] w fun e w' => e = .returned (.bool (p b)) ∧ w = w')
    (he : Enters Tryd.prog F) (s : ByteArray) (w : World) (hs : s.size ≤ 1000000000) :
    Calls Tryd.prog 18 #[.string s, .func (.func F) #[] #[]] w fun e w' => e = .returned (.int .i64 (run p s 0 : Nat)) ∧ w = w' := by
  obtain ⟨R, hR⟩ : ∃ R, run p s 0 = R := ⟨_, rfl⟩
  rw [hR]
  have HR := Lib.hid hR
  clear hR
  unfold Enters at he
  go_enter Tryd.func18, Tryd.ntmps18
  go_wp2
  go_loop [5] (fun j => ∃ k : Nat, j = .int .i64 (k : Nat) ∧ k ≤ s.size ∧ Hid (run p s k = R)) (fun j => s.size - (intOf j).toNat)
  case atStart => exact ⟨0, rfl, by omega, HR⟩
  case round =>
    clear HR
    obtain ⟨k, rfl, hk, HK⟩ := hrel
    by_cases hlt : k < s.size
    · have h2 := hF s[k]
      cases hp : p s[k] with
      | true =>
        have HN : Hid (run p s (k + 1) = R) := Lib.hid (by rw [← run_go hlt hp]; exact HK.out)
        rw [hp] at h2
        clear hp HK
        go_wp2_with (go_at_fn F; refine (h2 _).mono ?_; rintro e w' ⟨rfl, rfl⟩)
        go_round
        case rel => exact ⟨k + 1, by go_num, by omega, HN⟩
        case measure => simp [intOf]; omega
      | false =>
        have HN : Hid (k = R) := Lib.hid (by rw [← HK.out]; exact (run_out hlt hp).symm)
        rw [hp] at h2
        clear hp HK
        go_wp2_with (go_at_fn F; refine (h2 _).mono ?_; rintro e w' ⟨rfl, rfl⟩)
        go_ret
        exact ⟨ret_i (by have := HN.out; omega), rfl⟩
    · have HN : Hid (k = R) := Lib.hid (by rw [← HK.out]; exact (run_end (by omega)).symm)
      clear HK
      go_wp2_with (fail)
      all_goals first | exact absurd ‹some undef = some (Value.bool _)› (by unfold undef; simp) | skip
      all_goals go_ret
      all_goals exact ⟨ret_i (by have := HN.out; omega), rfl⟩
theorem runW_any (s : ByteArray) (w : World) (hs : s.size ≤ 1000000000) :
    Calls Tryd.prog 18 #[.string s, .func (.func 19) #[] #[]] w fun e w' => e = .returned (.int .i64 (run isW s 0 : Nat)) ∧ w = w' :=
  runOf _ isW (fun b w => by rw [isW_n]; exact inName_any b.toNat w b.toNat_lt) (enters_of Tryd.func19 (by kernel_rfl) rfl) s w hs
theorem runD_any (s : ByteArray) (w : World) (hs : s.size ≤ 1000000000) :
    Calls Tryd.prog 18 #[.string s, .func (.func 25) #[] #[]] w fun e w' => e = .returned (.int .i64 (run isD s 0 : Nat)) ∧ w = w' :=
  runOf _ isD (fun b w => by rw [isD_n]; exact digit_any b.toNat w b.toNat_lt) (enters_of Tryd.func25 (by kernel_rfl) rfl) s w hs
theorem emp_no {s : ByteArray} (h : 0 < s.size) : s.toList.isEmpty = false := by
  rw [emp_is]; exact decide_eq_false (by omega)
theorem emp_eq {s : ByteArray} (h : ¬ 0 < s.size) : s = ByteArray.empty := by
  apply ByteArray.ext; apply Array.toList_inj.1; exact List.length_eq_zero_iff.1 (by have : s.data.toList.length = s.size := by simp
                                                                                     omega)
set_option maxRecDepth 100000 in
set_option maxHeartbeats 1000000 in
theorem nameLength_any (s : ByteArray) (w : World) (hs : s.size ≤ 1000000000) :
    Calls Tryd.prog 13 #[.string s] w fun e w' => e = .returned (.int .i64 (nmE s 0 : Nat)) ∧ w = w' := by
  by_cases h0 : 0 < s.size
  · obtain ⟨c, hc⟩ : ∃ c, s[0].toNat = c := ⟨_, rfl⟩
    have hc256 : c < 256 := by rw [← hc]; exact s[0].toNat_lt
    have hl := fun w => letter_any c w hc256
    have he := emp_no h0
    cases hL : isLn c with
    | false =>
      rw [nmE_no h0 (by rw [hc]; exact hL)]
      rw [hL] at hl
      clear hL hc256
      go_enter Tryd.func13, Tryd.ntmps13
      go_wp2_with (go_at_call 17; refine (hl _).mono ?_; rintro e w' ⟨rfl, rfl⟩)
      go_ret
      exact ⟨rfl, rfl⟩
    | true =>
      have h2 := fun w => runW_any s w hs
      rw [nmE_run h0 (by rw [hc]; exact hL)]
      rw [hL] at hl
      clear hL hc256
      go_enter Tryd.func13, Tryd.ntmps13
      go_wp2_with (first | (go_at_call 18; refine (h2 _).mono ?_; rintro e w' ⟨rfl, rfl⟩) | (go_at_call 17; refine (hl _).mono ?_; rintro e w' ⟨rfl, rfl⟩))
      go_ret
      exact ⟨rfl, rfl⟩
  · rw [nmE_end (by omega)]
    obtain rfl := emp_eq h0
    go_enter Tryd.func13, Tryd.ntmps13
    go_wp2
    go_ret
    exact ⟨rfl, rfl⟩
/-- a name is there, and not too long -/
def fitB (s : ByteArray) : Bool := !decide (s.size = 0) && decide (s.size ≤ 16)
set_option maxRecDepth 100000 in
set_option maxHeartbeats 1000000 in
theorem fits_any (s : ByteArray) (w : World) (hs : s.size ≤ 1000000000) :
    Calls Tryd.prog 12 #[.string s] w fun e w' => e = .returned (.bool (fitB s)) ∧ w = w' := by
  by_cases h0 : 0 < s.size
  · have he := emp_no h0
    have hf : fitB s = decide ((s.size : Int) ≤ 16) := by
      unfold fitB
      rw [decide_eq_false (show ¬ s.size = 0 by omega)]
      exact decide_eq_decide.2 (by omega)
    rw [hf]
    clear hf
    go_enter Tryd.func12, Tryd.ntmps12
    go_wp2
    all_goals go_ret
    all_goals exact ⟨rfl, rfl⟩
  · obtain rfl := emp_eq h0
    go_enter Tryd.func12, Tryd.ntmps12
    go_wp2
    go_ret
    exact ⟨rfl, rfl⟩
theorem keyIs_eq (s : ByteArray) : keyIs s = decide (s.toList ∈ ([[100, 101, 102], [105, 102], [116, 104, 101, 110], [101, 108, 115, 101], [101, 110, 100], [116, 114, 121], [99, 97, 116, 99, 104], [114, 101, 100, 117, 99, 101], [102, 111, 114, 101, 97, 99, 104], [97, 115], [108, 97, 98, 101, 108], [98, 114, 101, 97, 107], [97, 110, 100], [111, 114], [116, 114, 117, 101], [102, 97, 108, 115, 101], [110, 117, 108, 108], [101, 109, 112, 116, 121], [114, 101, 108, 101, 97, 115, 101], [114, 97, 110, 103, 101]] : List (List UInt8))) := by
  rw [ByteArray.toList_eq]; rfl
set_option maxRecDepth 100000 in
set_option maxHeartbeats 4000000 in
theorem key_any (s : ByteArray) (w : World) (_hs : s.size ≤ 1000000000) :
    Calls Tryd.prog 10 #[.string s] w fun e w' => e = .returned (.bool (keyIs s)) ∧ Below w.heap.size w w' := by
  go_enter Tryd.func10, Tryd.ntmps10
  go_wp2
  all_goals first | (exfalso; simp_all; done) | skip
  all_goals go_ret
  all_goals refine ⟨ret_b ?_, Below.refl _ _⟩
  all_goals (rw [keyIs_eq]; simp_all)
set_option maxRecDepth 100000 in
set_option maxHeartbeats 1000000 in
theorem ident_any (s : ByteArray) (w : World) (hs : s.size ≤ 1000000000) :
    Calls Tryd.prog 8 #[.string s] w fun e w' => e = .returned (.bool (identB s)) ∧ Below w.heap.size w w' := by
  have h1 := fun w => fits_any s w hs
  have h2 := fun w => nameLength_any s w hs
  have h3 := fun w => key_any s w hs
  have hf : identB s = (fitB s && decide (nmE s 0 = s.size) && !keyIs s) := by
    unfold identB fitB
    rw [Bool.eq_iff_iff]; simp only [Bool.and_eq_true]; constructor <;> (rintro ⟨⟨⟨_, _⟩, _⟩, _⟩; simp_all)
  rw [hf]
  clear hf
  obtain ⟨m, hm⟩ : ∃ m, nmE s 0 = m := ⟨_, rfl⟩
  obtain ⟨b, hb⟩ : ∃ b, fitB s = b := ⟨_, rfl⟩
  obtain ⟨q, hq⟩ : ∃ q, keyIs s = q := ⟨_, rfl⟩
  rw [hm] at h2 ⊢
  rw [hb] at h1 ⊢
  rw [hq] at h3 ⊢
  clear hm hb hq
  go_enter Tryd.func8, Tryd.ntmps8
  cases b
  · go_wp2_with (go_at_call 12; refine (h1 _).mono ?_; rintro e w' ⟨rfl, rfl⟩)
    all_goals go_ret
    all_goals exact ⟨rfl, Below.refl _ _⟩
  · by_cases he : m = s.size
    · have g1 : ((m : Int) == (s.size : Int)) = true := by simp; omega
      rw [decide_eq_true he]
      clear he
      go_wp2_with (first | (go_at_call 10; refine (h3 _).mono ?_; rintro e w' ⟨rfl, b3⟩) | (go_at_call 13; refine (h2 _).mono ?_; rintro e w' ⟨rfl, rfl⟩) | (go_at_call 12; refine (h1 _).mono ?_; rintro e w' ⟨rfl, rfl⟩))
      all_goals go_ret
      all_goals exact ⟨rfl, b3⟩
    · have g1 : ((m : Int) == (s.size : Int)) = false := by simp; omega
      rw [decide_eq_false he]
      clear he
      go_wp2_with (first | (go_at_call 13; refine (h2 _).mono ?_; rintro e w' ⟨rfl, rfl⟩) | (go_at_call 12; refine (h1 _).mono ?_; rintro e w' ⟨rfl, rfl⟩))
      all_goals go_ret
      all_goals exact ⟨by simp, Below.refl _ _⟩
end Lx
end Go.Proofs.YtpddkchnogfjkaaDoor
