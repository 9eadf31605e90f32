/- jval.Int, of every int. -/
import Derived.Test.YtkmfoclhhnhkdaaJvObj
namespace Go.Proofs.Ytkmfoclhhnhkdaa
open Go.RowKit
namespace Jv
open _root_.Go.Proofs.Ytkmfoclhhnhkdaa.Nm
/-- a block that holds a value -/
def Vb (w : World) (k : Nat) (cs : Array Value) : Prop := w.heap[k]? = some (.cells cs 27 (0, 0))
section
variable {w a b : World} {k : Nat} {cs : Array Value}
theorem Vb.lt (h : Vb w k cs) : k < w.heap.size := (Array.getElem?_eq_some_iff.1 h).1
theorem Vb.new (w : World) (cs : Array Value) : Vb (w.alloc (.cells cs 27)) w.heap.size cs := heap_alloc_new w _
theorem Vb.on (h : Vb a k cs) (hb : Below a.heap.size a b) : Vb b k cs := (hb.block k h.lt).trans h
theorem Vb.alloc (h : Vb a k cs) (o : Obj) : Vb (a.alloc o) k cs := h.on (bA1 a o)
theorem Vb.set (h : Vb a k cs) (i : Nat) (u : Value) : Vb (a.setCell ⟨k, i, none⟩ u) k (cs.setIfInBounds i u) := by
  unfold Vb at h ⊢
  simp [World.setCell, Array.getElem?_modify, h]
theorem Vb.cell (h : Vb w k cs) (i : Nat) : w.cell? ⟨k, i, none⟩ = cs[i]? := cell_of_row w k i cs _ _ h
theorem Vb.free (h : Vb w k cs) (i : Nat) : w.frozen? ⟨k, i, none⟩ = false := by
  unfold Vb at h
  simp [World.frozen?, h]
theorem Vb.put {x0 x1 x2 x3 x4 x5 : Value} (h : Vb w k #[x0, x1, x2, x3, x4, x5]) (u0 u1 u2 u3 u4 u5 : Value) :
    Vb ((((((w.setCell ⟨k, 0, none⟩ u0).setCell ⟨k, 1, none⟩ u1).setCell ⟨k, 2, none⟩ u2).setCell ⟨k, 3, none⟩ u3).setCell ⟨k, 4, none⟩ u4).setCell ⟨k, 5, none⟩ u5) k #[u0, u1, u2, u3, u4, u5] :=
  (((((h.set 0 u0).set 1 u1).set 2 u2).set 3 u3).set 4 u4).set 5 u5
theorem Vb.six {x0 x1 x2 x3 x4 x5 : Value} (h : Vb w k #[x0, x1, x2, x3, x4, x5]) : w.cell? ⟨k, 0, none⟩ = some x0 ∧ w.cell? ⟨k, 1, none⟩ = some x1 ∧ w.cell? ⟨k, 2, none⟩ = some x2 ∧ w.cell? ⟨k, 3, none⟩ = some x3 ∧ w.cell? ⟨k, 4, none⟩ = some x4 ∧ w.cell? ⟨k, 5, none⟩ = some x5 :=
  ⟨h.cell 0, h.cell 1, h.cell 2, h.cell 3, h.cell 4, h.cell 5⟩
end
theorem b6 {w a : World} {k : Nat} (h : Below w.heap.size w a) (hk : w.heap.size ≤ k) (u0 u1 u2 u3 u4 u5 : Value) :
    Below w.heap.size w ((((((a.setCell ⟨k, 0, none⟩ u0).setCell ⟨k, 1, none⟩ u1).setCell ⟨k, 2, none⟩ u2).setCell ⟨k, 3, none⟩ u3).setCell ⟨k, 4, none⟩ u4).setCell ⟨k, 5, none⟩ u5) :=
  (((((h.setCell hk u0).setCell hk u1).setCell hk u2).setCell hk u3).setCell hk u4).setCell hk u5
/-- a whole number as a value -/
def intV (n : Int) : Value := if -1000000000000000 < n ∧ n < 1000000000000000 then vV 3 n 0 ⟨#[]⟩ (.slice none 0 0) (.slice none 0 0) else vV 7 0 0 ⟨#[110, 117, 109, 98, 101, 114]⟩ (.slice none 0 0) (.slice none 0 0)
theorem hold_int (n : Int) : hold n 0 = if -1000000000000000 < n ∧ n < 1000000000000000 then some (n, 0) else none := by
  unfold hold strip
  simp only
  by_cases h : -1000000000000000 < n ∧ n < 1000000000000000
  · rw [if_pos h, if_neg (by omega)]
    congr 2
    split <;> omega
  · rw [if_neg h, if_pos (by omega)]
set_option maxRecDepth 100000 in
set_option maxHeartbeats 2000000 in
theorem int_v (n : Int) (w : World) (h0 : -9223372036854775808 ≤ n) (h1 : n < 9223372036854775808) :
    Calls Try.prog 26 #[.int .i64 n] w fun e w' => e = .returned (intV n) ∧ Below w.heap.size w w' := by
  have hint := fun w => int_any n w h0 h1
  rw [show mk n 0 = hold n 0 by unfold mk; rw [if_pos (by omega)]; rfl, hold_int] at hint
  have hwr := fun w => wrong_v ⟨#[110, 117, 109, 98, 101, 114]⟩ w
  unfold intV
  unfold vV at hwr ⊢
  by_cases h : -1000000000000000 < n ∧ n < 1000000000000000
  · rw [if_pos h] at hint ⊢
    unfold ans nv at hint
    simp only at hint
    clear h h0 h1 hwr
    go_enter Try.func26, Try.ntmps26
    go_wp2_with (go_at_call 47; refine (hint _).mono ?_; rintro e w1 ⟨rfl, b1⟩; have hc := fun o => b1.cell (p := ⟨w.heap.size, o, none⟩) (by simp); have hf := fun o => b1.frozen (p := ⟨w.heap.size, o, none⟩) (by simp); have hz : w.heap.size < w1.heap.size := (by have := b1.size; simp at this; omega))
    have HV := Lib.hid (((Vb.new w #[.int .i64 0, .int .i64 0, .int .i64 0, .string ⟨#[]⟩, .slice none 0 0, .slice none 0 0]).on b1).put (.int .i64 3) (.int .i64 n) (.int .i64 0) (.string ⟨#[]⟩) (.slice none 0 0) (.slice none 0 0))
    obtain ⟨z0, z1, z2, z3, z4, z5⟩ := (HV.out.alloc (Obj.cells #[.int .i64 n, .int .i64 0] 23)).six
    have HB := Lib.hid ((b6 (bT (bA1 _ _) b1) (Nat.le_refl _) (.int .i64 3) (.int .i64 n) (.int .i64 0) (.string ⟨#[]⟩) (.slice none 0 0) (.slice none 0 0)).alloc (by have := hz; simp; omega) (Obj.cells #[.int .i64 n, .int .i64 0] 23))
    clear hc hf
    simp [bodyPost, results, Try.results26, go_sem, z0, z1, z2, z3, z4, z5]
    exact HB.out
  · rw [if_neg h] at hint ⊢
    unfold ans nv at hint
    simp only at hint
    clear h h0 h1
    go_enter Try.func26, Try.ntmps26
    go_wp2_with (first | (go_at_call 47; refine (hint _).mono ?_; rintro e w1 ⟨rfl, b1⟩; have hc := fun o => b1.cell (p := ⟨w.heap.size, o, none⟩) (by simp); have hf := fun o => b1.frozen (p := ⟨w.heap.size, o, none⟩) (by simp); have hz : w.heap.size < w1.heap.size := (by have := b1.size; simp at this; omega)) | (go_at_call 48; refine (hwr _).mono ?_; rintro e w2 ⟨rfl, b2⟩; have hc2 := fun o => b2.cell (p := ⟨w.heap.size, o, none⟩) (by simp; omega); have hf2 := fun o => b2.frozen (p := ⟨w.heap.size, o, none⟩) (by simp; omega)))
    have HV := Lib.hid ((((Vb.new w #[.int .i64 0, .int .i64 0, .int .i64 0, .string ⟨#[]⟩, .slice none 0 0, .slice none 0 0]).on b1).alloc (Obj.cells #[.int .i64 0, .int .i64 0] 23)).on b2)
    obtain ⟨z0, z1, z2, z3, z4, z5⟩ := (HV.out.put (.int .i64 7) (.int .i64 0) (.int .i64 0) (.string ⟨#[110, 117, 109, 98, 101, 114]⟩) (.slice none 0 0) (.slice none 0 0)).six
    have HB := Lib.hid (b6 (bT ((bT (bA1 _ _) b1).alloc (by omega) _) b2) (Nat.le_refl _) (.int .i64 7) (.int .i64 0) (.int .i64 0) (.string ⟨#[110, 117, 109, 98, 101, 114]⟩) (.slice none 0 0) (.slice none 0 0))
    clear hc hf hc2 hf2
    simp [bodyPost, results, Try.results26, go_sem, z0, z1, z2, z3, z4, z5]
    exact HB.out
end Jv
end Go.Proofs.Ytkmfoclhhnhkdaa
