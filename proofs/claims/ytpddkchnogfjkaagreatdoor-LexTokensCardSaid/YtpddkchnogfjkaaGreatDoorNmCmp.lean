/- Cmp, of any two numbers. -/
import Derived.Test.YtpddkchnogfjkaaGreatDoorNmArith
namespace Go.Proofs.YtpddkchnogfjkaaGreatDoor
open Go.RowKit
namespace Nm
theorem run_items {P : Program} (d : Nat) (e : TypeId) (c : Nat) (xs ys : Array Value) (w : World) (q : Nat → Bool) : ∀ (is : List Nat),
    (∀ i, i ∈ is → ∃ a b, (part e xs (i * c)).run P w = .ok a w ∧ (part e ys (i * c)).run P w = .ok b w ∧ (Op.equalIn d e a b).run P w = .ok (q i) w) →
    (Op.eqItems d e c xs ys is).run P w = .ok (is.all q) w
  | [], _ => by simp [Op.eqItems]
  | i :: is, h => by
    obtain ⟨a, b, h1, h2, h3⟩ := h i (by simp)
    have ih := run_items d e c xs ys w q is (fun j hj => h j (by simp [hj]))
    simp only [Op.eqItems, Sem.run_bind, h1, h2, h3, Result.andThen_ok]
    cases hq : q i
    · simp [hq]
    · simp [hq, ih]
theorem cellsU : Tryz.prog.cellsOf 69 = 1 := by kernel_rfl
set_option maxRecDepth 100000 in
theorem run_eqW (a b c d : Int) (w : World) : (Op.equalIn 10000 71 (.agg #[.int .u64 a, .int .u64 b]) (.agg #[.int .u64 c, .int .u64 d])).run Tryz.prog w = .ok (a == c && b == d) w := by
  rw [show (10000 : Nat) = 9999 + 1 from rfl, run_equalIn_array w 9999 _ _ Tryz.underlying71 Tryz.type69, cellsU]
  refine (run_items _ _ _ _ _ _ (fun i => if i = 0 then a == c else b == d) _ fun i hi => ?_).trans (by simp [List.range_succ])
  simp only [List.mem_range] at hi
  have : i = 0 ∨ i = 1 := by omega
  rcases this with rfl | rfl
  · exact ⟨.int .u64 a, .int .u64 c, by simp [part, Tryz.isAgg69], by simp [part, Tryz.isAgg69], by rw [run_equalIn_int w _ _ _ _ _ _ Tryz.underlying69]; simp⟩
  · exact ⟨.int .u64 b, .int .u64 d, by simp [part, Tryz.isAgg69], by simp [part, Tryz.isAgg69], by rw [run_equalIn_int w _ _ _ _ _ _ Tryz.underlying69]; simp⟩
/-- which of two is greater -/
def cmpI (x y : Int) : Int := if x = y then 0 else if x < y then -1 else 1
end Nm
end Go.Proofs.YtpddkchnogfjkaaGreatDoor
