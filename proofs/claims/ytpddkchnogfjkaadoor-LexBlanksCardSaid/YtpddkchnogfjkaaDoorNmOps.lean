/- Make, Int, Mul, Mod, Floor, Whole, and two numbers at one scale. -/
import Derived.Test.YtpddkchnogfjkaaDoorNmHeld
namespace Go.Proofs.YtpddkchnogfjkaaDoor
open Go.RowKit
namespace Nm
/-- a number as a value, or that there is none -/
def ansP : Option (Int × Nat) → Int × Int × Int
  | some (c, s) => (c, s, 0)
  | none => (0, 0, 8)
theorem ans_form (o : Option (Int × Nat)) : ans o = .tuple #[.agg #[.int .i64 (ansP o).1, .int .i64 (ansP o).2.1], .int .i64 (ansP o).2.2] := by cases o <;> rfl
/-- an answer's three numbers, as variables -/
theorem ans_ex (o : Option (Int × Nat)) : ∃ c s e, ans o = .tuple #[.agg #[.int .i64 c, .int .i64 s], .int .i64 e] := ⟨_, _, _, ans_form o⟩
def mk (c s : Int) : Option (Int × Nat) := if 0 ≤ s ∧ s ≤ 30 then hold c s.toNat else none
set_option maxRecDepth 100000 in
set_option maxHeartbeats 1000000 in
theorem make_any (c s : Int) (w : World) (c0 : -9223372036854775808 ≤ c) (c1 : c < 9223372036854775808) :
    Calls Tryd.prog 46 #[.int .i64 c, .int .i64 s] w fun e w' => e = .returned (ans (mk c s)) ∧ Below w.heap.size w w' := by
  unfold mk
  by_cases h1 : s < 0
  · rw [if_neg (by omega)]
    go_enter Tryd.func46, Tryd.ntmps46
    go_wp2
    simp [bodyPost, results, Tryd.results46, go_sem]
    exact ⟨rfl, (bA1 _ _)⟩
  by_cases h2 : 30 < s
  · rw [if_neg (by omega)]
    go_enter Tryd.func46, Tryd.ntmps46
    go_wp2
    simp [bodyPost, results, Tryd.results46, go_sem]
    exact ⟨rfl, (bA1 _ _)⟩
  rw [if_pos (by omega)]
  obtain ⟨n, rfl⟩ := Int.eq_ofNat_of_zero_le (show 0 ≤ s by omega)
  rw [show ((n : Int)).toNat = n by omega]
  have hp := fun w => product_any c 1 w c0 c1 (by decide) (by decide)
  rw [Int.mul_one] at hp
  have hh := fun w => held_any c n w (by omega) (by omega) (by omega)
  obtain ⟨x, y, z, hz⟩ := ans_ex (hold c n)
  rw [hz] at hh ⊢
  clear hz
  obtain ⟨a, b, hA⟩ := wd_form c
  rw [hA] at hh hp
  clear hA
  go_enter Tryd.func46, Tryd.ntmps46
  go_wp2_with (first | (go_at_call 44; refine (hp _).mono ?_; rintro e w1 ⟨rfl, b1⟩; obtain ⟨c0, c1, f0, f1⟩ := boxed b1 w.heap.size (.int .i64 0) (.int .i64 0) (by simp [go_sem]) (by simp [go_sem]) (by simp [go_sem]) (by simp [go_sem])) | (go_at_call 43; refine (hh _).mono ?_; rintro e w2 ⟨rfl, b2⟩; obtain ⟨c2, c3, f2, f3⟩ := boxed b2 _ _ _ c0 c1 f0 f1))
  simp [bodyPost, results, Tryd.results46, go_sem, c2, c3]
  exact ((bT (bT (bA1 _ _) b1) b2).setCell (by simp) _).setCell (by simp) _
end Nm
end Go.Proofs.YtpddkchnogfjkaaDoor
