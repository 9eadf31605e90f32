/- What the document's digit, four and simple answer. -/
import Derived.Test.YtpddkchnogfjkaaGreatDoorUtDig
namespace Go.Proofs.YtpddkchnogfjkaaGreatDoor
open Go.RowKit
namespace Ut
/-- a number, or -1 -/
def orM (o : Option Nat) : Int := match o with | some n => (n : Nat) | none => -1
theorem ret_int {a b : Int} (h : a = b) : Ending.returned (.int .i64 a) = .returned (.int .i64 b) := by rw [h]
set_option maxRecDepth 100000 in
set_option maxHeartbeats 1000000 in
theorem rdigit_any (b : Nat) (w : World) (hb : b < 256) :
    Calls Tryz.prog 41 #[.int .u8 b] w fun e w' => e = .returned (.int .i64 (orM (dg b))) ∧ w = w' := by
  go_enter Tryz.func41, Tryz.ntmps41
  go_wp2
  all_goals
    go_ret
    first
    | exact ⟨ret_int (by rw [dg1 (by omega) (by omega)]; unfold orM; simp; omega), rfl⟩
    | exact ⟨ret_int (by rw [dg2 (by omega) (by omega)]; unfold orM; simp; omega), rfl⟩
    | exact ⟨ret_int (by rw [dg3 (by omega) (by omega)]; unfold orM; simp; omega), rfl⟩
    | exact ⟨ret_int (by rw [dg0 (by omega) (by omega) (by omega)]; rfl), rfl⟩
set_option maxRecDepth 100000 in
set_option maxHeartbeats 1000000 in
theorem rsimple_any (c : Nat) (w : World) (hc : c < 256) :
    Calls Tryz.prog 28 #[.int .u8 c] w fun e w' => e = .returned (.int .i64 (orM (smp c))) ∧ w = w' := by
  go_enter Tryz.func28, Tryz.ntmps28
  go_wp2
  all_goals
    go_ret
    refine ⟨ret_int ?_, rfl⟩
    (try simp only [beq_iff_eq, beq_eq_false_iff_ne, ne_eq] at *)
    unfold smp
    repeat first | rw [if_pos (by omega)] | rw [if_neg (by omega)]
    first
    | rfl
    | (obtain rfl : c = 34 := by omega
       rfl)
    | (obtain rfl : c = 92 := by omega
       rfl)
    | (obtain rfl : c = 47 := by omega
       rfl)
set_option maxRecDepth 100000 in
set_option maxHeartbeats 1000000 in
theorem rfour_any (s : ByteArray) (i : Nat) (w : World) (hs : s.size ≤ 1000000000) (hi : i ≤ 2000000000) :
    Calls Tryz.prog 29 #[.string s, .int .i64 (i : Nat)] w fun e w' => e = .returned (.int .i64 (orM (four ((byt s).drop i)))) ∧ w = w' := by
  obtain ⟨l, hl⟩ : ∃ l, (byt s).drop i = l := ⟨_, rfl⟩
  have HL := Lib.hid hl
  rw [hl, four_dgs]
  clear hl
  go_enter Tryz.func29, Tryz.ntmps29
  go_wp2
  go_loop [5, 6] (fun n j => ∃ (k x : Nat), j = .int .i64 k ∧ n = .int .i64 x ∧ k ≤ 4 ∧ x < 16 ^ k ∧ Hid (dgs l k = some x)) (fun _ j => 4 - (intOf j).toNat)
  case atStart => exact ⟨0, 0, rfl, rfl, by omega, by decide, Lib.hid rfl⟩
  case round =>
    obtain ⟨k, x, rfl, rfl, hk4, hx, HX⟩ := hrel
    by_cases hlt : k < 4
    · have hx4 : x < 4096 := by
        have : 16 ^ k ≤ 16 ^ 3 := Nat.pow_le_pow_right (by decide) (by omega)
        omega
      by_cases hsz : s.size ≤ i + k
      · have hn : Hid (dgs l 4 = none) := Lib.hid (dgs_none (dgs_stop (j := k) (by rw [← HL.out, List.getD_eq_getElem?_getD, List.getElem?_drop, List.getElem?_eq_none (by rw [byt_len]; omega)]; rfl)) 4 (by omega))
        go_wp2
        go_ret
        exact ⟨ret_int (by rw [hn.out]; rfl), rfl⟩
      obtain ⟨b, hb⟩ : ∃ b, s[i + k].toNat = b := ⟨_, rfl⟩
      have hb256 : b < 256 := by rw [← hb]; exact s[i + k].toNat_lt
      have hg := byt_getD2 s i k (by omega)
      rw [HL.out, hb] at hg
      have HG := Lib.hid hg
      clear hg
      have hc := fun w => rdigit_any b w hb256
      cases hd : dg b with
      | none =>
        rw [hd] at hc
        unfold orM at hc
        simp only at hc
        have hn : Hid (dgs l 4 = none) := Lib.hid (dgs_none (dgs_stop (by rw [HG.out]; exact hd)) 4 (show k + 1 ≤ 4 by omega))
        clear hd
        go_wp2_with (go_at_call 41; refine (hc _).mono ?_; rintro e w' ⟨rfl, rfl⟩)
        go_ret
        exact ⟨ret_int (by rw [hn.out]; rfl), rfl⟩
      | some d =>
        have hd16 := dg_lt hd
        rw [hd] at hc
        unfold orM at hc
        simp only at hc
        have hn : Hid (dgs l (k + 1) = some (16 * x + d)) := Lib.hid (dgs_succ HX.out (by rw [HG.out]; exact hd))
        clear hd
        have hp : 16 ^ (k + 1) = 16 * 16 ^ k := by rw [Nat.pow_succ]; omega
        have HP := Lib.hid hp
        clear hp
        go_wp2_with (go_at_call 41; refine (hc _).mono ?_; rintro e w' ⟨rfl, rfl⟩)
        go_round
        case rel => exact ⟨k + 1, 16 * x + d, by go_num, by go_num, by omega, by rw [HP.out]; omega, hn⟩
        case measure => simp [intOf]; omega
    · obtain rfl : k = 4 := by omega
      go_wp2
      go_ret
      exact ⟨ret_int (by rw [HX.out]; rfl), rfl⟩
end Ut
end Go.Proofs.YtpddkchnogfjkaaGreatDoor
