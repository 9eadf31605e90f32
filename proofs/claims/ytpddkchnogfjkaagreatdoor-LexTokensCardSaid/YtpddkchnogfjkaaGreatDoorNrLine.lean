/- Whole numbers without bound: Told, Line. -/
import Derived.Test.YtpddkchnogfjkaaGreatDoorNrNum
import Derived.Test.YtpddkchnogfjkaaGreatDoorNmArith
namespace Go.Proofs.YtpddkchnogfjkaaGreatDoor
open Go.RowKit
namespace Nm
theorem ans_split (o : Option (Int × Nat)) : (∃ c s, o = some (c, s) ∧ numA o = .tuple #[.agg #[.int .i64 c, .int .i64 (s : Int)], .bool true] ∧ ans o = .tuple #[.agg #[.int .i64 c, .int .i64 (s : Int)], .int .i64 0]) ∨ (numA o = .tuple #[.agg #[.int .i64 0, .int .i64 0], .bool false] ∧ ans o = .tuple #[.agg #[.int .i64 0, .int .i64 0], .int .i64 8]) := by
  rcases o with _ | ⟨c, s⟩
  · exact Or.inr ⟨rfl, rfl⟩
  · exact Or.inl ⟨c, s, rfl, rfl, rfl⟩
theorem sg_of (c : Int) : sg (decide (c < 0)) c.natAbs = c := by
  unfold sg
  by_cases h : c < 0
  · rw [decide_eq_true h, if_pos rfl]; omega
  · rw [decide_eq_false h, if_neg (by simp)]; omega
/-- what Line answers -/
def LineIs (x y : Int) (m : Nat) (w : World) (e : Ending) (w' : World) : Prop := ∃ v1 v2, e = .returned (.tuple #[.agg #[.bool (decide (x < 0)), v1], .agg #[.bool (decide (y < 0)), v2], .int .i64 (m : Int)]) ∧ Rw w' v1 (dgs x.natAbs) ∧ Rw w' v2 (dgs y.natAbs) ∧ Below w.heap.size w w'
theorem sg_ng (b : Bool) (n : Nat) (z : Int) (h : sg b n = z) : ng b n = decide (z < 0) ∧ n = z.natAbs := by
  subst h
  exact ⟨ng_sg b n, (abs_sg b n).symm⟩
theorem dgs_24 {z : Int} (h0 : -1000000000000000000000000 < z) (h1 : z < 1000000000000000000000000) : (dgs z.natAbs).length ≤ 24 := dgs_len.2 (by omega)
end Nm
end Go.Proofs.YtpddkchnogfjkaaGreatDoor
