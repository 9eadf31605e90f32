/- keyholelaw03's lives answers true; UtfQuotes walked. -/
import Derived.Test.YtbolnciofcmoaaaUtQuote
import Derived.Test.YtbolnciofcmoaaaUtRQuote
namespace Go.Proofs.Ytbolnciofcmoaaa
open Go.RowKit
namespace Ut
theorem str_self (t : ByteArray) : (t.toList == t.toList) = true := toL_eq.2 rfl
theorem lives_any (w : World) : Calls Try.prog 8 #[] w fun e w' => e = .returned (.bool true) ∧ Below w.heap.size w w' := by
  have hq := fun w => quote_any ⟨#[97, 34, 1]⟩ w (by decide)
  have e1 : sigs (byt ⟨#[97, 34, 1]⟩) = some [97, 34, 1] := by rfl
  have e2 : str (quoted [97, 34, 1]) = ⟨#[34, 97, 92, 34, 92, 117, 48, 48, 48, 49, 34]⟩ := by rfl
  rw [e1] at hq
  unfold quoV at hq
  simp only [e2] at hq
  clear e1 e2
  go_enter Try.func8, Try.ntmps8
  go_wp2_with (go_at_call 14; refine (hq _).mono ?_; rintro e w1 ⟨rfl, b1⟩)
  go_ret
  exact ⟨rfl, b1⟩
theorem rsigns_none {s : ByteArray} (hs : s.size ≤ 1000000000) (hg : sigs (byt s) = none) (w : World) : Calls Try.prog 9 #[.string s] w fun e w' => ∃ v, e = .returned (.tuple #[v, .bool false]) ∧ w'.ownsRow w.heap.size 3 1 v 0 [] ∧ Below w.heap.size w w' := by
  refine (rsigns_any s w hs).mono ?_
  rintro e w' ⟨v, he, ho, hb⟩
  rw [vldB_none hg] at he
  rw [sgsOf_none hg] at ho
  exact ⟨v, he, ho, hb⟩
theorem rsigns_some {s : ByteArray} {cs : List Nat} (hs : s.size ≤ 1000000000) (hg : sigs (byt s) = some cs) (w : World) : Calls Try.prog 9 #[.string s] w fun e w' => ∃ v, e = .returned (.tuple #[v, .bool true]) ∧ w'.ownsRow w.heap.size 3 1 v cs.length (inl cs) ∧ Below w.heap.size w w' := by
  refine (rsigns_any s w hs).mono ?_
  rintro e w' ⟨v, he, ho, hb⟩
  rw [vldB_some hg] at he
  rw [sgsOf_some hg] at ho
  exact ⟨v, he, ho, hb⟩
set_option maxRecDepth 100000 in
set_option maxHeartbeats 1000000 in
theorem utfQuotes_any (s : ByteArray) (w : World) (hs : s.size ≤ maxLen) : Calls Try.prog 4 #[.string s] w fun e w' => e = .returned (.bool true) ∧ Below w.heap.size w w' := by
  unfold maxLen at hs
  by_cases h2 : 2000 < s.size
  · go_enter Try.func4, Try.ntmps4
    go_wp2_with (go_at_call 8; refine (lives_any _).mono ?_; rintro e w1 ⟨rfl, b1⟩)
    go_ret
    exact ⟨rfl, b1⟩
  have hq := fun w => quote_any s w (by omega)
  cases hg : sigs (byt s) with
  | none =>
    have hr := fun w => rsigns_none (s := s) (by omega) hg w
    rw [hg] at hq
    clear hg
    have e0 : quoV none = .tuple #[.string ⟨#[]⟩, .int .i64 7] := rfl
    rw [e0] at hq
    clear e0
    go_enter Try.func4, Try.ntmps4
    go_wp2_with (first | (go_at_call 14; refine (hq _).mono ?_; rintro e w1 ⟨rfl, b1⟩) | (go_at_call 9; refine (hr _).mono ?_; rintro e w2 ⟨v, rfl, ho, b2⟩) | (go_at_call 8; refine (lives_any _).mono ?_; rintro e w3 ⟨rfl, b3⟩))
    go_ret
    exact ⟨rfl, (b1.trans (b2.mono b1.size)).trans (b3.mono (Nat.le_trans b1.size b2.size))⟩
  | some cs =>
    have hr := fun w => rsigns_some (s := s) (by omega) hg w
    have hcs := (sigs_iff.1 hg).1
    have hn : cs.length ≤ 1000000000 := by have := sgsOf_len s; rw [sgsOf_some hg] at this; omega
    have hrq := fun v B w ho => rquote_any cs v B w hcs hn ho
    rw [hg] at hq
    clear hg hcs hn
    have e0 : quoV (some cs) = .tuple #[.string (str (quoted cs)), .int .i64 0] := rfl
    rw [e0] at hq
    clear e0
    generalize str (quoted cs) = T at hq hrq
    have hT := str_self T
    go_enter Try.func4, Try.ntmps4
    go_wp2_with (first | (go_at_call 14; refine (hq _).mono ?_; rintro e w1 ⟨rfl, b1⟩) | (go_at_call 9; refine (hr _).mono ?_; rintro e w2 ⟨v, rfl, ho, b2⟩) | (go_at_call 15; refine (hrq _ _ _ ho).mono ?_; rintro e w3 ⟨rfl, b3⟩) | (go_at_call 8; refine (lives_any _).mono ?_; rintro e w4 ⟨rfl, b4⟩))
    go_ret
    exact ⟨rfl, (b1.trans (b2.mono b1.size)).trans ((b3.trans (b4.mono b3.size)).mono (Nat.le_trans b1.size b2.size))⟩
end Ut
end Go.Proofs.Ytbolnciofcmoaaa
