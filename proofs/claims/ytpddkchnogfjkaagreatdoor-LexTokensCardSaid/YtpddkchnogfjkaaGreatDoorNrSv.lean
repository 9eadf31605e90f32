/- What a region that draws its order may lean on, where it writes whole numbers without bound. -/
import Derived.Test.YtpddkchnogfjkaaGreatDoorNrMem
import Derived.Test.YtpddkchnogfjkaaGreatDoorNmSv
namespace Go.Proofs.YtpddkchnogfjkaaGreatDoor
open Go.RowKit
namespace Nm
/-- as Sv; the blocks op hold a bool and a slice -/
def Sr (B : Nat) (o : World) (fx : List (Nat × Value × Value)) (op : List Nat) (w : World) : Prop :=
  Below B o w ∧ (∀ t ∈ fx, Bx w t.1 t.2.1 t.2.2) ∧ (∀ k ∈ op, ∃ b ao n c, Bx w k (.bool b) (.slice ao n c))
variable {B : Nat} {o a b : World} {fx : List (Nat × Value × Value)} {op : List Nat}
theorem Sr.sv (h : Sr B o fx op a) : Sv B o fx op a := ⟨h.1, h.2.1, fun k hk => by obtain ⟨_, _, _, _, g⟩ := h.2.2 k hk; exact ⟨_, _, g⟩⟩
theorem Sr.drew (h : Sr B o fx op a) : Sr B o fx op a.drew := ⟨h.1.drew, h.2.1, h.2.2⟩
theorem bN (h : Below B o a) (n : Nat) : Below B o (a.drewN n) := by
  cases n with
  | zero => exact h
  | succ n =>
    have e : (a.drewN n).drew = a.drewN (n + 1) := by rfl
    rw [← e]
    exact (bN h n).drew
theorem Sr.drewN (h : Sr B o fx op a) (n : Nat) : Sr B o fx op (a.drewN n) := ⟨bN h.1 _, h.2.1, h.2.2⟩
theorem Sr.call (h : Sr B o fx op a) (k : Below a.heap.size a b) (hB : B ≤ o.heap.size) : Sr B o fx op b :=
  ⟨h.1.trans (k.mono (Nat.le_trans hB h.1.size)), fun t ht => (h.2.1 t ht).on k, fun j hj => by obtain ⟨x, y, u, v, g⟩ := h.2.2 j hj; exact ⟨x, y, u, v, g.on k⟩⟩
theorem Sr.put (h : Sr B o fx op a) {k : Nat} (hk : B ≤ k) (hf : ∀ t ∈ fx, k ≠ t.1) (x : Bool) (p : Option Addr) (n c : Nat) : Sr B o fx op ((a.setCell ⟨k, 0, none⟩ (.bool x)).setCell ⟨k, 1, none⟩ (.slice p n c)) :=
  ⟨(h.1.setCell hk _).setCell hk _, fun t ht => ((h.2.1 t ht).far (p := ⟨k, 0, none⟩) (hf t ht) _).far (p := ⟨k, 1, none⟩) (hf t ht) _, fun j hj => by
    obtain ⟨u, v, q, r, g⟩ := h.2.2 j hj
    by_cases e : k = j
    · subst e; exact ⟨_, _, _, _, g.put _ _⟩
    · exact ⟨u, v, q, r, (g.far (p := ⟨k, 0, none⟩) e _).far (p := ⟨k, 1, none⟩) e _⟩⟩
theorem Sr.fix0 {k : Nat} {x y : Value} (hm : (k, x, y) ∈ fx) : ∀ w, Sr B o fx op w → w.cell? ⟨k, 0, none⟩ = some x := fun _ h => (h.2.1 _ hm).1
theorem Sr.fix1 {k : Nat} {x y : Value} (hm : (k, x, y) ∈ fx) : ∀ w, Sr B o fx op w → w.cell? ⟨k, 1, none⟩ = some y := fun _ h => (h.2.1 _ hm).2.1
theorem Sr.get {k : Nat} (hm : k ∈ op) : ∃ G H : World → Value, (∀ w, Sr B o fx op w → w.cell? ⟨k, 0, none⟩ = some (G w)) ∧ (∀ w, Sr B o fx op w → w.cell? ⟨k, 1, none⟩ = some (H w)) ∧ (∀ w, Sr B o fx op w → w.frozen? ⟨k, 0, none⟩ = false) ∧ (∀ w, Sr B o fx op w → w.frozen? ⟨k, 1, none⟩ = false) := by
  obtain ⟨G, H, g0, g1, g2, g3⟩ := Sv.get (B := B) (o := o) (fx := fx) hm
  exact ⟨G, H, fun w h => g0 w h.sv, fun w h => g1 w h.sv, fun w h => g2 w h.sv, fun w h => g3 w h.sv⟩
/-- a store into a cell that holds no int leaves the rows as they are -/
theorem Rw.apart {v u u' : Value} {l : List Nat} {p : Addr} (h : Rw a v l) (hp : a.cell? p = some u') (hu : ∀ n, u' ≠ .int .i64 n) : Rw (a.setCell p u) v l := by
  rcases h with h | ⟨k, o, cap, rfl, hc, hk, h⟩
  · exact Or.inl h
  · refine Or.inr ⟨k, o, cap, rfl, hc, by simpa using hk, fun j d hj => ?_⟩
    have e := h j d hj
    rw [World.cell?_setCell_other]
    · exact e
    · intro he
      rw [← he, hp] at e
      exact hu _ (Option.some.inj e)
theorem Rw.box {v x y : Value} {l : List Nat} {k : Nat} {q : Bool} {ao : Option Addr} {n c : Nat} (h : Rw a v l) (hb : Bx a k (.bool q) (.slice ao n c)) : Rw ((a.setCell ⟨k, 0, none⟩ x).setCell ⟨k, 1, none⟩ y) v l := by
  refine (h.apart hb.1 (by intro n; simp)).apart (u' := .slice ao n c) ?_ (by intro n; simp)
  rw [World.cell?_setCell_other (h := by simp)]
  exact hb.2.1
/-- behind the store of a result -/
theorem Sr.row {v x y : Value} {l : List Nat} {k : Nat} (h : Sr B o fx op a) (hk : k ∈ op) (hr : Rw a v l) : Rw ((a.setCell ⟨k, 0, none⟩ x).setCell ⟨k, 1, none⟩ y) v l := by
  obtain ⟨_, _, _, _, g⟩ := h.2.2 k hk
  exact hr.box g
theorem Sr.is {x y : Value} {k : Nat} (h : Sr B o fx op a) (hk : k ∈ op) : Bx ((a.setCell ⟨k, 0, none⟩ x).setCell ⟨k, 1, none⟩ y) k x y := by
  obtain ⟨_, _, _, _, g⟩ := h.2.2 k hk
  exact g.put _ _
end Nm
end Go.Proofs.YtpddkchnogfjkaaGreatDoor
