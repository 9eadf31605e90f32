/- Add, Sub, Mul and Cmp, of any two numbers. -/
import Derived.Test.YtkmfoclhhnhkdaaNmSv
namespace Go.Proofs.Ytkmfoclhhnhkdaa
open Go.RowKit
namespace Nm
theorem is_c {c s : Int} {b : Bool} (h : isB c s = b) (w : World) : Calls Try.prog 71 #[.agg #[.int .i64 c, .int .i64 s]] w fun e w' => e = .returned (.bool b) ∧ Below w.heap.size w w' := by
  rw [← h]; exact is_any c s w
theorem isB_iff {c s : Int} : isB c s = true ↔ (0 ≤ s ∧ s ≤ 9) ∧ (-1000000000000000 < c ∧ c < 1000000000000000) ∧ (s = 0 ∨ c.tmod 10 ≠ 0) := by unfold isB; exact decide_eq_true_iff
theorem Sv.nil {B : Nat} {o a : World} (h : Below B o a) : Sv B o [] [] a := ⟨h, fun t ht => by simp at ht, fun t ht => by simp at ht⟩
theorem Sv.addf {B : Nat} {o a : World} {fx : List (Nat × Value × Value)} {op : List Nat} (h : Sv B o fx op a) {k : Nat} {x y : Value} (hb : Bx a k x y) : Sv B o ((k, x, y) :: fx) op a :=
  ⟨h.1, fun t ht => by
    rcases List.mem_cons.1 ht with rfl | ht
    · exact hb
    · exact h.2.1 t ht, h.2.2⟩
theorem Sv.addo {B : Nat} {o a : World} {fx : List (Nat × Value × Value)} {op : List Nat} (h : Sv B o fx op a) {k : Nat} {x y : Value} (hb : Bx a k x y) : Sv B o fx (k :: op) a :=
  ⟨h.1, h.2.1, fun t ht => by
    rcases List.mem_cons.1 ht with rfl | ht
    · exact ⟨x, y, hb⟩
    · exact h.2.2 t ht⟩
/-- what may not be -/
def bad : Value := .tuple #[nv 0 0, .int .i64 1]
/-- both scales' greater one -/
def mx (sa sb : Int) : Nat := (max sa sb).toNat
/-- a number at a greater scale -/
def up (c s : Int) (m : Nat) : Int := c * ((10 ^ (m - s.toNat) : Nat) : Int)
theorem up_le {c s : Int} {m : Nat} (hm : m ≤ 9) (c0 : -1000000000000000 < c) (c1 : c < 1000000000000000) : -1000000000000000000000000 < up c s m ∧ up c s m < 1000000000000000000000000 := by
  unfold up
  have a : 10 ^ (m - s.toNat) ≤ 10 ^ 9 := Nat.pow_le_pow_right (by decide) (by omega)
  have b : 0 < 10 ^ (m - s.toNat) := Nat.pow_pos (by decide)
  generalize 10 ^ (m - s.toNat) = t at *
  have e1 : c * (t : Int) ≤ 999999999999999 * (t : Int) := mul_le_of _ _ _ (by omega) (by omega)
  have e2 : -999999999999999 * (t : Int) ≤ c * (t : Int) := mul_le_of _ _ _ (by omega) (by omega)
  omega
theorem aligned_c (ca sa cb sb : Int) (ia : isB ca sa = true) (ib : isB cb sb = true) (w : World) :
    Calls Try.prog 79 #[.agg #[.int .i64 ca, .int .i64 sa], .agg #[.int .i64 cb, .int .i64 sb]] w fun e w' => e = .returned (.tuple #[wd (up ca sa (mx sa sb)), wd (up cb sb (mx sa sb)), .int .i64 (mx sa sb : Int)]) ∧ Below w.heap.size w w' := by
  rw [isB_iff] at ia ib
  exact aligned_any ca sa cb sb w (mx sa sb) (by unfold mx; omega) (by omega) (by omega) (by unfold mx; omega) (by omega) (by omega) (by omega) (by omega)
end Nm
end Go.Proofs.Ytkmfoclhhnhkdaa
