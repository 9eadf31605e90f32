/- What a region that draws its order may lean on: blocks that stand, blocks that are written. -/
import Derived.Test.YtpddkchnogfjkaaDoorNmOps
import Derived.Outline
namespace Go.Proofs.YtpddkchnogfjkaaDoor
open Go.RowKit
namespace Nm
/-- o's blocks below B stand; so do the blocks fx, with what they hold; the blocks op are there -/
def Sv (B : Nat) (o : World) (fx : List (Nat × Value × Value)) (op : List Nat) (w : World) : Prop :=
  Below B o w ∧ (∀ t ∈ fx, Bx w t.1 t.2.1 t.2.2) ∧ (∀ k ∈ op, ∃ x y, Bx w k x y)
variable {B : Nat} {o a b : World} {fx : List (Nat × Value × Value)} {op : List Nat}
theorem Sv.drew (h : Sv B o fx op a) : Sv B o fx op a.drew := ⟨h.1.drew, h.2.1, h.2.2⟩
theorem Sv.call (h : Sv B o fx op a) (k : Below a.heap.size a b) (hB : B ≤ o.heap.size) : Sv B o fx op b :=
  ⟨h.1.trans (k.mono (Nat.le_trans hB h.1.size)), fun t ht => (h.2.1 t ht).on k, fun j hj => by obtain ⟨x, y, g⟩ := h.2.2 j hj; exact ⟨x, y, g.on k⟩⟩
theorem Sv.alloc (h : Sv B o fx op a) (hB : B ≤ o.heap.size) (c : Obj) : Sv B o fx op (a.alloc c) := h.call (bA1 a c) hB
theorem Bx.set0 {k : Nat} {x y : Value} (h : Bx a k x y) (v : Value) : Bx (a.setCell ⟨k, 0, none⟩ v) k v y := by
  have n1 : (⟨k, 0, none⟩ : Addr) ≠ ⟨k, 1, none⟩ := by simp
  refine ⟨World.cell?_setCell_same _ _ _ h.1, ?_, ?_, ?_⟩
  · rw [World.cell?_setCell_other (h := n1)]; exact h.2.1
  · rw [World.frozen?_setCell]; exact h.2.2.1
  · rw [World.frozen?_setCell]; exact h.2.2.2
theorem Bx.set1 {k : Nat} {x y : Value} (h : Bx a k x y) (v : Value) : Bx (a.setCell ⟨k, 1, none⟩ v) k x v := by
  have n1 : (⟨k, 1, none⟩ : Addr) ≠ ⟨k, 0, none⟩ := by simp
  refine ⟨?_, World.cell?_setCell_same _ _ _ h.2.1, ?_, ?_⟩
  · rw [World.cell?_setCell_other (h := n1)]; exact h.1
  · rw [World.frozen?_setCell]; exact h.2.2.1
  · rw [World.frozen?_setCell]; exact h.2.2.2
theorem Sv.set0 (h : Sv B o fx op a) {k : Nat} (hk : B ≤ k) (hf : ∀ t ∈ fx, k ≠ t.1) (v : Value) : Sv B o fx op (a.setCell ⟨k, 0, none⟩ v) :=
  ⟨h.1.setCell hk v, fun t ht => (h.2.1 t ht).far (hf t ht) v, fun j hj => by
    obtain ⟨x, y, g⟩ := h.2.2 j hj
    by_cases e : k = j
    · subst e; exact ⟨_, _, g.set0 v⟩
    · exact ⟨x, y, g.far (p := ⟨k, 0, none⟩) e v⟩⟩
theorem Sv.set1 (h : Sv B o fx op a) {k : Nat} (hk : B ≤ k) (hf : ∀ t ∈ fx, k ≠ t.1) (v : Value) : Sv B o fx op (a.setCell ⟨k, 1, none⟩ v) :=
  ⟨h.1.setCell hk v, fun t ht => (h.2.1 t ht).far (hf t ht) v, fun j hj => by
    obtain ⟨x, y, g⟩ := h.2.2 j hj
    by_cases e : k = j
    · subst e; exact ⟨_, _, g.set1 v⟩
    · exact ⟨x, y, g.far (p := ⟨k, 1, none⟩) e v⟩⟩
theorem Sv.fix0 {k : Nat} {x y : Value} (hm : (k, x, y) ∈ fx) : ∀ w, Sv B o fx op w → w.cell? ⟨k, 0, none⟩ = some x := fun _ h => (h.2.1 _ hm).1
theorem Sv.fix1 {k : Nat} {x y : Value} (hm : (k, x, y) ∈ fx) : ∀ w, Sv B o fx op w → w.cell? ⟨k, 1, none⟩ = some y := fun _ h => (h.2.1 _ hm).2.1
theorem Sv.get {k : Nat} (hm : k ∈ op) : ∃ G H : World → Value, (∀ w, Sv B o fx op w → w.cell? ⟨k, 0, none⟩ = some (G w)) ∧ (∀ w, Sv B o fx op w → w.cell? ⟨k, 1, none⟩ = some (H w)) ∧ (∀ w, Sv B o fx op w → w.frozen? ⟨k, 0, none⟩ = false) ∧ (∀ w, Sv B o fx op w → w.frozen? ⟨k, 1, none⟩ = false) := by
  refine ⟨fun w => (w.cell? ⟨k, 0, none⟩).getD undef, fun w => (w.cell? ⟨k, 1, none⟩).getD undef, ?_, ?_, ?_, ?_⟩ <;> intro w h <;> obtain ⟨x, y, g⟩ := h.2.2 k hm
  · simp only [g.1, Option.getD_some]
  · simp only [g.2.1, Option.getD_some]
  · exact g.2.2.1
  · exact g.2.2.2
theorem set_none {a : World} {p : Addr} {v : Value} (h : a.cell? p = none) : (a.setCell p v).cell? p = none := by
  unfold World.cell? at h
  simp only [World.setCell, World.cell?, Array.getElem?_modify, ↓reduceIte]
  cases hh : a.heap[p.block]? with
  | none => simp
  | some x =>
    rw [hh] at h
    cases x <;> simp at h ⊢
    cases hs : p.spot with
    | some _ => simp
    | none => simp [hs] at h ⊢; omega
theorem set_is {a : World} {p q : Addr} {v u : Value} (h : (a.setCell p v).cell? q = some u) : ∃ u', a.cell? q = some u' := by
  by_cases e : p = q
  · subst e
    cases hc : a.cell? p with
    | some u' => exact ⟨u', rfl⟩
    | none => rw [set_none hc] at h; simp at h
  · rw [World.cell?_setCell_other (h := e)] at h; exact ⟨u, h⟩
/-- a block that is there behind a store into both its cells holds what was stored -/
theorem Bx.was {k : Nat} {x y v1 v2 : Value} (h : Bx ((a.setCell ⟨k, 0, none⟩ v1).setCell ⟨k, 1, none⟩ v2) k x y) : Bx ((a.setCell ⟨k, 0, none⟩ v1).setCell ⟨k, 1, none⟩ v2) k v1 v2 := by
  obtain ⟨_, h0⟩ := set_is h.1
  obtain ⟨_, h0⟩ := set_is h0
  obtain ⟨_, h1⟩ := set_is h.2.1
  obtain ⟨_, h1⟩ := set_is h1
  have f0 := h.2.2.1
  have f1 := h.2.2.2
  rw [World.frozen?_setCell, World.frozen?_setCell] at f0 f1
  exact Bx.put ⟨h0, h1, f0, f1⟩ v1 v2
theorem Bx.near {k : Nat} {x y v : Value} {p : Addr} (h : Bx (a.setCell p v) k x y) (hp : p.block ≠ k) : Bx a k x y := by
  obtain ⟨h0, h1, f0, f1⟩ := h
  rw [World.cell?_setCell_far _ _ _ _ hp] at h0 h1
  rw [World.frozen?_setCell] at f0 f1
  exact ⟨h0, h1, f0, f1⟩
theorem wrapS (x : Int) (h0 : -9223372036854775808 ≤ x) (h1 : x < 9223372036854775808) : IntKind.i64.wrap x = x := by
  simp only [IntKind.wrap, IntKind.bits, IntKind.signed]
  simp
  omega
/-- t is ten to the power of x -/
def Ten (x t : Int) : Prop := ∃ n : Nat, n ≤ 18 ∧ (n : Int) = x ∧ ((10 ^ n : Nat) : Int) = t
theorem ten_c {x t : Int} (h : Ten x t) (w : World) : Calls Tryd.prog 45 #[.int .i64 x] w fun e w' => e = .returned (.int .i64 t) ∧ w = w' := by
  obtain ⟨n, hn, rfl, rfl⟩ := h
  exact ten_any n w hn
/-- p and q are the halves of a product -/
def Prd (a b p q : Int) : Prop := -9223372036854775808 ≤ a ∧ a < 9223372036854775808 ∧ -9223372036854775808 ≤ b ∧ b < 9223372036854775808 ∧ wd (a * b) = .agg #[.int .u64 p, .int .u64 q]
theorem prd_c {a b p q : Int} (h : Prd a b p q) (w : World) : Calls Tryd.prog 44 #[.int .i64 a, .int .i64 b] w fun e w' => e = .returned (.agg #[.int .u64 p, .int .u64 q]) ∧ Below w.heap.size w w' := by
  obtain ⟨h1, h2, h3, h4, h5⟩ := h
  rw [← h5]
  exact product_any a b w h1 h2 h3 h4
end Nm
end Go.Proofs.YtpddkchnogfjkaaDoor
