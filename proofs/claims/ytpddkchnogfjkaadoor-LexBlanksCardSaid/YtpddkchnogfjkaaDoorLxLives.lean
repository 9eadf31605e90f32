/- Layer 13: lives: the chapter's example. -/
import Derived.Test.YtpddkchnogfjkaaDoorLxCode
namespace Go.Proofs.YtpddkchnogfjkaaDoor
open Go.RowKit
namespace Lx
theorem ex_lives : ansT ⟨#[46, 97, 124, 49, 46, 53]⟩ = ([⟨5, [46], 0, 0, 0⟩, ⟨1, [97], 0, 0, 1⟩, ⟨5, [124], 0, 0, 2⟩, ⟨3, [49, 46, 53], 15, 1, 3⟩, ⟨6, [], 0, 0, 6⟩], 0, 0) := by
  rfl
set_option maxRecDepth 100000 in
set_option maxHeartbeats 1000000 in
theorem lives_any (w : World) : Calls Tryd.prog 6 #[] w fun e w' => e = .returned (.bool true) ∧ Below w.heap.size w w' := by
  have ht := fun w => tokens_any ⟨#[46, 97, 124, 49, 46, 53]⟩ w (by decide)
  unfold TokP at ht
  rw [ex_lives] at ht
  simp only at ht
  go_enter Tryd.func6, Tryd.ntmps6
  go_wp2_with (go_at_call 11; refine (ht _).mono ?_; rintro e w1 ⟨b1, v, rfl, hv⟩; obtain ⟨ao, cap, rfl, hc, hv⟩ := hv; obtain ⟨k, o, rfl, hk, hv⟩ := hv (by decide); have HB := Lib.hid b1; obtain ⟨a0, a1, a2, a3, a4⟩ := hv 0 _ rfl; obtain ⟨c0, c1, c2, c3, c4⟩ := hv 1 _ rfl; obtain ⟨d0, d1, d2, d3, d4⟩ := hv 3 _ rfl; obtain ⟨e0, e1, e2, e3, e4⟩ := hv 4 _ rfl; clear b1 hv)
  go_ret
  exact ⟨rfl, HB.out⟩
end Lx
end Go.Proofs.YtpddkchnogfjkaaDoor
