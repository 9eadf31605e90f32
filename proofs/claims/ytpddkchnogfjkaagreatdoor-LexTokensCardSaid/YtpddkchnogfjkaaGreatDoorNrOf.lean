/- Whole numbers without bound: Of, Shift. -/
import Derived.Test.YtpddkchnogfjkaaGreatDoorNrPlus
namespace Go.Proofs.YtpddkchnogfjkaaGreatDoor
open Go.RowKit
namespace Nm
/-- a block that holds a whole number without bound -/
def Lb (w : World) (k : Nat) (x y : Value) : Prop := w.heap[k]? = some (.cells #[x, y] 49 (0, 0))
section
variable {w a b : World} {k B : Nat} {x y v : Value} {l : List Nat}
theorem Lb.lt (h : Lb w k x y) : k < w.heap.size := (Array.getElem?_eq_some_iff.1 h).1
theorem Lb.bx (h : Lb w k x y) : Bx w k x y := by
  have h' : w.heap[k]? = some (.cells #[x, y] 49 (0, 0)) := h
  exact ⟨by rw [cell_of_row w k 0 _ _ _ h']; rfl, by rw [cell_of_row w k 1 _ _ _ h']; rfl, by simp [World.frozen?, h'], by simp [World.frozen?, h']⟩
theorem Lb.new (w : World) (x y : Value) : Lb (w.alloc (.cells #[x, y] 49)) w.heap.size x y := heap_alloc_new w _
theorem Lb.on (h : Lb a k x y) (hb : Below a.heap.size a b) : Lb b k x y := (hb.block k h.lt).trans h
theorem Lb.alloc (h : Lb a k x y) (o : Obj) : Lb (a.alloc o) k x y := h.on (bA1 a o)
theorem Lb.set1 (h : Lb a k x y) (u : Value) : Lb (a.setCell ⟨k, 1, none⟩ u) k x u := by
  unfold Lb at h ⊢
  simp [World.setCell, Array.getElem?_modify, h]
theorem Lb.set0 (h : Lb a k x y) (u : Value) : Lb (a.setCell ⟨k, 0, none⟩ u) k u y := by
  unfold Lb at h ⊢
  simp [World.setCell, Array.getElem?_modify, h]
theorem Lb.far (h : Lb a k x y) {p : Addr} (hp : p.block ≠ k) (u : Value) : Lb (a.setCell p u) k x y := (Below.heap_setCell a p u k (fun e => hp e.symm)).trans h
/-- a row of ints is in no such block -/
theorem Ow.ne (h : Ow B a v l) (hk : Lb a k x y) : v.ownBlock ≠ some k := by
  rcases h.2 with ⟨rfl, _⟩ | ⟨g, cap, cur, rfl, _, hg, _⟩
  · simp [Value.ownBlock]
  · intro e
    have e2 : g = k := by simpa [Value.ownBlock] using e
    subst e2
    have hk' : a.heap[g]? = some (.cells #[x, y] 49 (0, 0)) := hk
    rw [hk'] at hg
    simp at hg
theorem Lb.grown (h : Lb a k x y) (ho : Ow B a v l) (hg : a.grownBy b v.ownBlock) : Lb b k x y := (hg.block k h.lt (fun e => ho.ne h e.symm)).trans h
theorem Ow.set (h : Ow B a v l) (hk : Lb a k x y) (i : Nat) (u : Value) : Ow B (a.setCell ⟨k, i, none⟩ u) v l := by
  refine ⟨h.1, ?_⟩
  rcases h.2 with h0 | ⟨g, cap, cur, hv, hB, hg, rest⟩
  · exact .inl h0
  · refine .inr ⟨g, cap, cur, hv, hB, ?_, rest⟩
    have hne : g ≠ k := fun e => h.ne hk (by rw [hv, e]; rfl)
    exact (Below.heap_setCell a ⟨k, i, none⟩ u g hne).trans hg
theorem Ow.on (h : Ow B a v l) (hb : Below a.heap.size a b) : Ow B b v l := by
  refine ⟨h.1, ?_⟩
  rcases h.2 with h0 | ⟨g, cap, cur, hv, hB, hg, rest⟩
  · exact .inl h0
  · exact .inr ⟨g, cap, cur, hv, hB, (hb.block g (Array.getElem?_eq_some_iff.1 hg).1).trans hg, rest⟩
theorem Ow.sl (h : Ow B a v l) : ∃ ao cap, v = .slice ao l.length cap := by
  rcases h.2 with ⟨rfl, h0⟩ | ⟨g, cap, cur, rfl, _⟩
  · exact ⟨none, 0, by rw [h0]⟩
  · exact ⟨_, cap, rfl⟩
end
theorem dgs_next {n x : Nat} {out : List Nat} (h : dgs n = out ++ dgs x) (hx : x ≠ 0) : dgs n = (out ++ [x % 10]) ++ dgs (x / 10) := by
  rw [h, dgs_pos hx, List.append_assoc]; rfl
theorem dgs_short {n : Nat} (h : n < 10000000000000000000) : (dgs n).length ≤ 19 := dgs_len.2 h
end Nm
end Go.Proofs.YtpddkchnogfjkaaGreatDoor
