/- Div, of any two numbers. -/
import Derived.Test.YtkmfoclhhnhkdaaNmArith
namespace Go.Proofs.Ytkmfoclhhnhkdaa
open Go.RowKit
namespace Nm
theorem bxNew (a : World) (x y : Value) (t : TypeId) : Bx (a.alloc (.cells #[x, y] t)) a.heap.size x y := ⟨by simp [go_sem], by simp [go_sem], by simp [go_sem], by simp [go_sem]⟩
theorem bxNewD (a : World) (x y : Value) (t : TypeId) : Bx (a.alloc (.cells #[x, y] t)).drew a.heap.size x y := bxNew a x y t
theorem Sv.lt {B : Nat} {o a : World} {fx : List (Nat × Value × Value)} {op : List Nat} (h : Sv B o fx op a) {k : Nat} (hk : k ∈ op) : k < a.heap.size := by
  obtain ⟨_, _, g⟩ := h.2.2 k hk
  exact kl g.1
theorem Sv.ne {B : Nat} {o a : World} {fx : List (Nat × Value × Value)} {op : List Nat} (h : Sv B o fx op a) : ∀ t ∈ fx, a.heap.size ≠ t.1 := fun t ht => Nat.ne_of_gt (kl (h.2.1 t ht).1)
theorem Sv.new {B : Nat} {o a b : World} {fx : List (Nat × Value × Value)} {op : List Nat} (h : Sv B o fx op a) (h0 : Sv B o fx op b) (hB : B ≤ o.heap.size) (u v : Value) : Sv B o fx op ((a.setCell ⟨b.heap.size, 0, none⟩ u).setCell ⟨b.heap.size, 1, none⟩ v) :=
  (h.set0 (Nat.le_trans hB h0.1.size) h0.ne u).set1 (Nat.le_trans hB h0.1.size) h0.ne v
theorem div_sign {X cb : Int} (hc : cb ≠ 0) (hd : X % cb = 0) : (X.natAbs : Int) / (cb.natAbs : Int) = ((X / cb).natAbs : Int) ∧ ((decide (X < 0) != decide (cb < 0)) = true → X / cb ≤ 0) ∧ ((decide (X < 0) != decide (cb < 0)) = false → 0 ≤ X / cb) := by
  have e := Int.mul_ediv_add_emod X cb
  rw [hd, Int.add_zero] at e
  generalize X / cb = k at *
  subst e
  refine ⟨?_, ?_, ?_⟩
  · rw [Int.natAbs_mul, Int.natCast_mul, Int.mul_ediv_cancel_left _ (by omega)]
  · intro h
    rcases Int.lt_or_le 0 k with g | g
    · exfalso
      rcases Int.lt_or_le cb 0 with g2 | g2
      · have := Int.mul_neg_of_neg_of_pos g2 g
        simp [this, g2] at h
      · have := Int.mul_pos (show 0 < cb by omega) g
        have h1 : ¬ cb * k < 0 := by omega
        have h2 : ¬ cb < 0 := by omega
        simp [h1, h2] at h
    · exact g
  · intro h
    rcases Int.lt_or_le k 0 with g | g
    · exfalso
      rcases Int.lt_or_le cb 0 with g2 | g2
      · have := Int.mul_pos_of_neg_of_neg g2 g
        have h1 : ¬ cb * k < 0 := by omega
        simp [h1, g2] at h
      · have := Int.mul_neg_of_pos_of_neg (show 0 < cb by omega) g
        have h2 : ¬ cb < 0 := by omega
        simp [this, h2] at h
    · exact g
/-- a quotient -/
def divO (ca sa cb sb : Int) : Option (Int × Nat) :=
  if cb = 0 then none else
  if (ca * ((10 ^ (9 + sb - sa).toNat : Nat) : Int)) % cb = 0 then hold (ca * ((10 ^ (9 + sb - sa).toNat : Nat) : Int) / cb) 9 else none
end Nm
end Go.Proofs.Ytkmfoclhhnhkdaa
