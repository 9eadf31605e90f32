/- UtfReads walked: it answers true for every string. -/
import Derived.Test.YtbolnciofcmoaaaUtLives
import Derived.Test.YtbolnciofcmoaaaUtRUnq
namespace Go.Proofs.Ytbolnciofcmoaaa
open Go.RowKit
namespace Ut
theorem ansV_form (o : Option (Option (List Nat))) : ∃ (X : ByteArray) (E : Int), ansV o = .tuple #[.string X, .int .i64 E] := by
  match o with
  | none => exact ⟨_, _, rfl⟩
  | some none => exact ⟨_, _, rfl⟩
  | some (some b) =>
    unfold ansV
    simp only
    by_cases h : vldB (byt (str b)) = true
    · rw [if_pos h]; exact ⟨_, _, rfl⟩
    · rw [if_neg h]; exact ⟨_, _, rfl⟩
set_option maxRecDepth 100000 in
set_option maxHeartbeats 1000000 in
theorem utfReads_any (s : ByteArray) (w : World) (hs : s.size ≤ maxLen) : Calls Try.prog 5 #[.string s] w fun e w' => e = .returned (.bool true) ∧ Below w.heap.size w w' := by
  unfold maxLen at hs
  by_cases h2 : 2000 < s.size
  · go_enter Try.func5, Try.ntmps5
    go_wp2_with (go_at_call 8; refine (lives_any _).mono ?_; rintro e w1 ⟨rfl, b1⟩)
    go_ret
    exact ⟨rfl, b1⟩
  have hu := fun w => unquote_any s w (by omega)
  have hr := fun w => runquote_any s w (by omega)
  obtain ⟨X, E, hX⟩ := ansV_form (rdO s)
  rw [hX] at hu hr
  clear hX
  have hXX := str_self X
  go_enter Try.func5, Try.ntmps5
  go_wp2_with (first | (go_at_call 16; refine (hu _).mono ?_; rintro e w1 ⟨rfl, b1⟩) | (go_at_call 17; refine (hr _).mono ?_; rintro e w2 ⟨rfl, b2⟩) | (go_at_call 8; refine (lives_any _).mono ?_; rintro e w3 ⟨rfl, b3⟩))
  go_ret
  exact ⟨rfl, (b1.trans (b2.mono b1.size)).trans (b3.mono (Nat.le_trans b1.size b2.size))⟩
end Ut
end Go.Proofs.Ytbolnciofcmoaaa
