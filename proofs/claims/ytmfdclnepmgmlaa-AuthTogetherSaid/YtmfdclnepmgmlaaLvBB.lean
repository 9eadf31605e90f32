/- What belowBounds does. -/
import Derived.Test.YtmfdclnepmgmlaaLvWalks1
import Derived.Test.YtmfdclnepmgmlaaLvRel
namespace Go.Proofs.Ytmfdclnepmgmlaa
open Go.RowKit
namespace Lv
set_option maxHeartbeats 400000 in
theorem below_any (r : Nat → Nat → Bool) (n a b c : Nat) (w : World) (hn : n ≤ 8) (ha : a < 8) (hb : b < 8) (hc : c < 8) :
    Calls Try.prog 37 #[.agg (relA r), .int .i64 n, .int .i64 a, .int .i64 b, .int .i64 c] w fun e w' => e = .returned (.bool (bbB r n a b c)) ∧ Below w.heap.size w w' := by
  go_enter Try.func37, Try.ntmps37
  go_wp2
  go_loop [11, 13] (fun _ i => ∃ k : Nat, k ≤ n ∧ i = .int .i64 k ∧ ∀ d, d < k → r a d = true → r b d = true → r c d = true) (fun _ i => n - (intOf i).toNat)
  case atStart => exact ⟨0, by omega, rfl, fun d h => by omega⟩
  case round =>
    obtain ⟨k, hk, rfl, hall⟩ := hrel
    have H := Lib.hid hall
    clear hall
    by_cases hlt : k < n
    · have e1 := relA_at r a k ha (by omega)
      have e2 := relA_at r b k hb (by omega)
      have e3 := relA_at r c k hc (by omega)
      have step : (r a k = true → r b k = true → r c k = true) → ∀ d, d < k + 1 → r a d = true → r b d = true → r c d = true := fun h d hd => if hdk : d < k then H.out d hdk else by
        obtain rfl : d = k := by omega
        exact h
      have S := Lib.hid step
      clear step
      cases h1 : r a k
      · rw [h1] at e1
        go_wp2
        go_round
        case rel => exact ⟨k + 1, by omega, by go_num, S.out (by simp [h1])⟩
        case measure => simp [intOf]; omega
      · cases h2 : r b k
        · rw [h1] at e1
          rw [h2] at e2
          go_wp2
          go_round
          case rel => exact ⟨k + 1, by omega, by go_num, S.out (by simp [h2])⟩
          case measure => simp [intOf]; omega
        · cases h3 : r c k
          · rw [h1] at e1
            rw [h2] at e2
            rw [h3] at e3
            go_wp2
            go_ret
            exact ⟨ret_bool (bbB_false hlt h1 h2 h3).symm, (Below.refl _ _).alloc (Nat.le_refl _) _⟩
          · rw [h1] at e1
            rw [h2] at e2
            rw [h3] at e3
            go_wp2
            go_round
            case rel => exact ⟨k + 1, by omega, by go_num, S.out (by simp [h3])⟩
            case measure => simp [intOf]; omega
    · go_wp2
      go_ret
      exact ⟨ret_bool (bbB_true fun d hd => H.out d (by omega)).symm, (Below.refl _ _).alloc (Nat.le_refl _) _⟩
end Lv
end Go.Proofs.Ytmfdclnepmgmlaa
