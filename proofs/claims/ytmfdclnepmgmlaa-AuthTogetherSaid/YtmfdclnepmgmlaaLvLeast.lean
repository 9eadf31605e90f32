/- What least does. -/
import Derived.Test.YtmfdclnepmgmlaaLvBB
import Derived.Test.YtmfdclnepmgmlaaLvRows
namespace Go.Proofs.Ytmfdclnepmgmlaa
open Go.RowKit
namespace Lv
def leastO (r : Nat → Nat → Bool) (n a b : Nat) : Option Nat := (List.range n).find? fun c => r a c && r b c && bbB r n a b c
theorem find_range {p : Nat → Bool} {n k : Nat} (hk : k < n) (h1 : p k = true) (h0 : ∀ d, d < k → p d = false) : (List.range n).find? p = some k := by
  rw [List.find?_eq_some_iff_append]
  refine ⟨h1, List.range k, List.range' (k + 1) (n - (k + 1)), ?_, ?_⟩
  · rw [List.range_eq_range', List.range_eq_range']
    have : k :: List.range' (k + 1) (n - (k + 1)) = List.range' k (n - k) := by
      rw [show n - k = (n - (k + 1)) + 1 by omega, List.range'_succ]
    rw [this]
    have e := List.range'_append_1 (s := 0) (m := k) (n := n - k)
    rw [Nat.zero_add] at e
    rw [e]
    congr 1
    omega
  · intro d hd
    simp [h0 d (by simpa using hd)]
theorem find_range_none {p : Nat → Bool} {n : Nat} (h0 : ∀ d, d < n → p d = false) : (List.range n).find? p = none := by
  rw [List.find?_eq_none]
  intro d hd
  simp [h0 d (by simpa using hd)]
theorem snocF {p : Nat → Bool} {k : Nat} (H : ∀ d, d < k → p d = false) (h : p k = false) : ∀ d, d < k + 1 → p d = false := by
  intro d hd
  by_cases e : d < k
  · exact H d e
  · obtain rfl : d = k := by omega
    exact h
set_option maxHeartbeats 400000 in
theorem least_any (r : Nat → Nat → Bool) (n a b : Nat) (w : World) (hn : n ≤ 8) (ha : a < 8) (hb : b < 8) :
    Calls Try.prog 34 #[.agg (relA r), .int .i64 n, .int .i64 a, .int .i64 b] w fun e w' => e = .returned (.tuple #[.int .i64 ((leastO r n a b).getD 0 : Nat), .bool (leastO r n a b).isSome]) ∧ Below w.heap.size w w' := by
  go_enter Try.func34, Try.ntmps34
  go_wp2
  go_loopw [10, 12] (fun _ i wr => ∃ k : Nat, k ≤ n ∧ i = .int .i64 k ∧ Below w.heap.size w wr ∧ wr.heap[w.heap.size]? = some (.cells (relA r) 58) ∧ ∀ d, d < k → (r a d && r b d && bbB r n a b d) = false) (fun _ i _ => n - (intOf i).toNat)
  case atStart => exact ⟨0, by omega, rfl, (Below.refl _ _).alloc (Nat.le_refl _) _, al_new _ _, fun d h => by omega⟩
  case round =>
    obtain ⟨k, hk, rfl, hbw, hblk, hall⟩ := hrel
    have H := Lib.hid hall
    have HB := Lib.hid hblk
    clear hall hblk
    by_cases hlt : k < n
    · have e1 := relA_at r a k ha (by omega)
      have e2 := relA_at r b k hb (by omega)
      have c1 := (cell_of_row wr w.heap.size (a * 8 + k) _ _ _ HB.out).trans e1
      have c2 := (cell_of_row wr w.heap.size (b * 8 + k) _ _ _ HB.out).trans e2
      clear e1 e2
      cases h1 : r a k
      · rw [h1] at c1
        go_wp2
        go_roundw
        case rel => exact ⟨k + 1, by omega, by go_num, hbw, HB.out, snocF H.out (by simp [h1])⟩
        case measure => simp [intOf]; omega
      · cases h2 : r b k
        · rw [h1] at c1
          rw [h2] at c2
          go_wp2
          go_roundw
          case rel => exact ⟨k + 1, by omega, by go_num, hbw, HB.out, snocF H.out (by simp [h2])⟩
          case measure => simp [intOf]; omega
        · rw [h1] at c1
          rw [h2] at c2
          cases h3 : bbB r n a b k
          · go_wp2_with (first | (refine wpList_loadR rfl _ rfl _ rfl r _ _ HB.out ?_) | (go_at_call 37; refine (below_any r n a b k _ hn ha hb (by omega)).mono ?_; rintro e w1 ⟨rfl, hb1⟩))
            go_roundw
            case rel => exact ⟨k + 1, by omega, by go_num, bt hbw hb1, bkeep hb1 HB.out, snocF H.out (by simp [h3])⟩
            case measure => simp [intOf]; omega
          · go_wp2_with (first | (refine wpList_loadR rfl _ rfl _ rfl r _ _ HB.out ?_) | (go_at_call 37; refine (below_any r n a b k _ hn ha hb (by omega)).mono ?_; rintro e w1 ⟨rfl, hb1⟩))
            go_ret2
            have hf : leastO r n a b = some k := find_range hlt (by simp [h1, h2, h3]) H.out
            exact ⟨by rw [hf]; rfl, bt hbw hb1⟩
    · go_wp2
      go_ret2
      have hf : leastO r n a b = none := find_range_none fun d hd => H.out d (by omega)
      exact ⟨by rw [hf]; rfl, hbw⟩
end Lv
end Go.Proofs.Ytmfdclnepmgmlaa
