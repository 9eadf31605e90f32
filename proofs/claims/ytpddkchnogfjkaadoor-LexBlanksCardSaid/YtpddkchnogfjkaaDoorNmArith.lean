/- Add, Sub, Mul and Cmp, of any two numbers. -/
import Derived.Test.YtpddkchnogfjkaaDoorNmSv
namespace Go.Proofs.YtpddkchnogfjkaaDoor
open Go.RowKit
namespace Nm
theorem isB_iff {c s : Int} : isB c s = true ↔ (0 ≤ s ∧ s ≤ 9) ∧ (-1000000000000000 < c ∧ c < 1000000000000000) ∧ (s = 0 ∨ c.tmod 10 ≠ 0) := by unfold isB; exact decide_eq_true_iff
theorem Sv.nil {B : Nat} {o a : World} (h : Below B o a) : Sv B o [] [] a := ⟨h, fun t ht => by simp at ht, fun t ht => by simp at ht⟩
theorem Sv.addf {B : Nat} {o a : World} {fx : List (Nat × Value × Value)} {op : List Nat} (h : Sv B o fx op a) {k : Nat} {x y : Value} (hb : Bx a k x y) : Sv B o ((k, x, y) :: fx) op a :=
  ⟨h.1, fun t ht => by
    rcases List.mem_cons.1 ht with rfl | ht
    · exact hb
    · exact h.2.1 t ht, h.2.2⟩
theorem Sv.addo {B : Nat} {o a : World} {fx : List (Nat × Value × Value)} {op : List Nat} (h : Sv B o fx op a) {k : Nat} {x y : Value} (hb : Bx a k x y) : Sv B o fx (k :: op) a :=
  ⟨h.1, h.2.1, fun t ht => by
    rcases List.mem_cons.1 ht with rfl | ht
    · exact ⟨x, y, hb⟩
    · exact h.2.2 t ht⟩
/-- what may not be -/
def bad : Value := .tuple #[nv 0 0, .int .i64 1]
/-- both scales' greater one -/
def mx (sa sb : Int) : Nat := (max sa sb).toNat
/-- a number at a greater scale -/
def up (c s : Int) (m : Nat) : Int := c * ((10 ^ (m - s.toNat) : Nat) : Int)
theorem up_le {c s : Int} {m : Nat} (hm : m ≤ 9) (c0 : -1000000000000000 < c) (c1 : c < 1000000000000000) : -1000000000000000000000000 < up c s m ∧ up c s m < 1000000000000000000000000 := by
  unfold up
  have a : 10 ^ (m - s.toNat) ≤ 10 ^ 9 := Nat.pow_le_pow_right (by decide) (by omega)
  have b : 0 < 10 ^ (m - s.toNat) := Nat.pow_pos (by decide)
  generalize 10 ^ (m - s.toNat) = t at *
  have e1 : c * (t : Int) ≤ 999999999999999 * (t : Int) := mul_le_of _ _ _ (by omega) (by omega)
  have e2 : -999999999999999 * (t : Int) ≤ c * (t : Int) := mul_le_of _ _ _ (by omega) (by omega)
  omega
end Nm
end Go.Proofs.YtpddkchnogfjkaaDoor
