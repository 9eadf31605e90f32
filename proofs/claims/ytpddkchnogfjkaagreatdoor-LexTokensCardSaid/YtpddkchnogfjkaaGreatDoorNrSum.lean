/- Rows of digits: sum, less, above. -/
import Derived.Test.YtpddkchnogfjkaaGreatDoorNrMem
import Derived.Deep.QuietTactic
import Derived.BigQuiet
namespace Go.Proofs.YtpddkchnogfjkaaGreatDoor
open Go.RowKit
namespace Nm
theorem info_i : (Tryz.prog.info? 3).map (fun i => (i.zero, i.size, i.bytes)) = some (some (.int .i64 0), 1, 8) := by kernel_rfl
/-- a row of the call's own -/
def Ow (B : Nat) (w : World) (v : Value) (l : List Nat) : Prop := w.ownsRow B 3 1 v l.length (dcel l)
/-- it grew by a digit -/
theorem Ow.push {B : Nat} {w : World} {v : Value} {l : List Nat} {d : Nat} {n : Int} (hn : n = (d : Nat)) (h : w.ownsRow B 3 1 v (l.length + 1) (dcel l ++ [.int .i64 n])) : Ow B w v (l ++ [d]) := by
  unfold Ow
  rw [dcel_app, List.length_append]
  subst hn
  exact h
theorem cells_new (w : World) (xs : List Value) (t : TypeId) : ∀ j u, xs[j]? = some u → (w.alloc (.cells xs.toArray t)).cell? ((⟨w.heap.size, 0, none⟩ : Addr).add j) = some u := by
  intro j u hj
  have hadd : (⟨w.heap.size, 0, none⟩ : Addr).add j = ⟨w.heap.size, j, none⟩ := by unfold Addr.add; split <;> simp_all
  rw [hadd, cell_of_row _ w.heap.size j xs.toArray t (0, 0) (heap_alloc_new w _)]
  simpa using hj
theorem one_int (n : Int) : ∀ u ∈ [Value.int .i64 n], u.oneCell' = true := by
  intro u hu
  rw [List.mem_singleton.1 hu]; rfl
theorem Ow.bel {B : Nat} {w a b : World} {v : Value} {l : List Nat} {o : Obj} (h : Ow B a v l) (hB : B ≤ w.heap.size) (hb : Below w.heap.size w a) (hB2 : w.heap.size ≤ B) (hg : (a.alloc o).grownBy b v.ownBlock) : Below w.heap.size w b := by
  obtain rfl : B = w.heap.size := Nat.le_antisymm hB hB2
  exact (hb.alloc hb.size _).grown hg (by have := hb.size; simp; omega) (fun q hq => (World.ownsRow.lt h q hq).1)
theorem dat_is {l : List Nat} {k x : Nat} (h : l[k]? = some x) : dat l k = x := by unfold dat; rw [List.getD_eq_getElem?_getD, h]; rfl
theorem dat_no {l : List Nat} {k : Nat} (h : ¬ k < l.length) : dat l k = 0 := by unfold dat; rw [List.getD_eq_getElem?_getD, List.getElem?_eq_none (by omega)]; rfl
theorem Sm.next {a b out : List Nat} {k c s : Nat} (h : Sm a b out k c) (ha : Dg a) (hb : Dg b) (hs : s = c + dat a k + dat b k) : Sm a b (out ++ [s % 10]) (k + 1) (s / 10) := by
  subst hs; exact h.step ha hb
end Nm
end Go.Proofs.YtpddkchnogfjkaaGreatDoor
