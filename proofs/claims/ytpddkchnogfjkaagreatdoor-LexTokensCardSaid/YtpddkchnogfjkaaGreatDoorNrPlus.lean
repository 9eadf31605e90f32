/- Whole numbers without bound: Plus. -/
import Derived.Test.YtpddkchnogfjkaaGreatDoorNrLess
import Derived.Test.YtpddkchnogfjkaaGreatDoorNrSv
namespace Go.Proofs.YtpddkchnogfjkaaGreatDoor
open Go.RowKit
namespace Nm
theorem dgs_max (n : Nat) {k : Nat} (h : (dgs n).length ≤ k) : n < 10 ^ k := dgs_len.1 h
/-- a size with its sign -/
def sg (b : Bool) (n : Nat) : Int := if b then -(n : Int) else n
theorem ng_sg (b : Bool) (n : Nat) : ng b n = decide (sg b n < 0) := by
  unfold ng sg
  cases b
  · first | (simp; done) | (simp; omega)
  · by_cases h : n = 0
    · subst h; simp
    · rw [show (n != 0) = true by simpa using h]; first | (simp; done) | (simp; omega)
theorem abs_sg (b : Bool) (n : Nat) : (sg b n).natAbs = n := by unfold sg; cases b <;> simp
/-- what answers a whole number -/
def IntIs (z : Int) (w : World) (e : Ending) (w' : World) : Prop := ∃ v, e = .returned (.agg #[.bool (decide (z < 0)), v]) ∧ Rw w' v (dgs z.natAbs) ∧ Below w.heap.size w w'
theorem LongIs.int {b : Bool} {n : Nat} {z : Int} {w w' : World} {e : Ending} (h : LongIs b n w e w') (hz : sg b n = z) : IntIs z w e w' := by
  obtain ⟨v, he, hr, hb⟩ := h
  subst hz
  exact ⟨v, by rw [he, ng_sg], by rw [abs_sg]; exact hr, hb⟩
end Nm
end Go.Proofs.YtpddkchnogfjkaaGreatDoor
