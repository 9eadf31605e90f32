/- Whole tables of 8 by 8, read, written, made, compared. No condition. -/
import Derived.Test.YtmfdclnepmgmlaaRows
import Derived.Test.YtmfdclnepmgmlaaLvRel
import Derived.WalkKit
import Derived.Deep.MidRow
import Derived.ChangeKeysEq
import Derived.Laws.CopyOwn
import Derived.Deep.WholeRow
namespace Go.Proofs.Ytmfdclnepmgmlaa
open Go.RowKit
namespace Lv
theorem bt {a b c : World} (h : Below a.heap.size a b) (k : Below b.heap.size b c) : Below a.heap.size a c := h.trans (k.mono h.size)
theorem lt_of_some {w : World} {g : Nat} {o : Obj} (h : w.heap[g]? = some o) : g < w.heap.size := (Array.getElem?_eq_some_iff.1 h).1
theorem bkeep {w w1 : World} {g : Nat} {o : Obj} (hb : Below w.heap.size w w1) (hg : w.heap[g]? = some o) : w1.heap[g]? = some o := (hb.block g (lt_of_some hg)).trans hg
theorem al_new (w : World) (o : Obj) : (w.alloc o).heap[w.heap.size]? = some o := by
  show (w.heap.push o)[w.heap.size]? = some o
  simp
theorem al_old (w : World) (o : Obj) (i : Nat) (h : i < w.heap.size) : (w.alloc o).heap[i]? = w.heap[i]? := by
  show (w.heap.push o)[i]? = w.heap[i]?
  rw [Array.getElem?_push, if_neg (Nat.ne_of_lt h)]
theorem al_size (w : World) (o : Obj) : (w.alloc o).heap.size = w.heap.size + 1 := by
  show (w.heap.push o).size = _
  simp
theorem infoR : (Try.prog.info? 58).map (·.size) = some 64 := by kernel_rfl
theorem loadR (w : World) (g : Nat) (r : Nat → Nat → Bool) (t : TypeId) (fr : Nat × Nat) (hg : w.heap[g]? = some (.cells (relA r) t fr)) :
    (Instr.loadAt 58 (.pointer (some ⟨g, 0, none⟩))).run Try.prog w = .ok (.agg (relA r)) w := by
  simp only [Instr.loadAt, Instr.sureAddr, Sem.run_bind, Sem.run_pure, Result.andThen_ok]
  exact run_loadVar_row w g t _ (relA r) fr _ hg Try.underlying58 rfl (by rw [relA_size]; exact infoR)
theorem wpList_loadR {ops : Array Oper} {rest : List Oper} {o : Oper} {a : Act} {w : World} {Q : Exit → Act → World → Prop} (hgd : Region.wanted o (yielded ops a.tmps) = true)
    (x : Operand) (ho : o.op = .load 58 x) (g : Nat) (hx : a.eval x = .pointer (some ⟨g, 0, none⟩)) (r : Nat → Nat → Bool) (t : TypeId) (fr : Nat × Nat)
    (hg : w.heap[g]? = some (.cells (relA r) t fr)) (h : wpList Try.prog ops Q rest (a.put o.dst (.agg (relA r))) w) : wpList Try.prog ops Q (o :: rest) a w :=
  wpList_step fun K hK => by
    rw [if_pos hgd]
    exact wp_load_row _ x ho g hx t (relA r) fr _ hg Try.underlying58 rfl (by rw [relA_size]; exact infoR) (hK _ _ h)
theorem wpList_storeR {ops : Array Oper} {rest : List Oper} {o : Oper} {a : Act} {w : World} {Q : Exit → Act → World → Prop} (hgd : Region.wanted o (yielded ops a.tmps) = true)
    (x y : Operand) (ho : o.op = .store 58 x y) (g : Nat) (r s : Nat → Nat → Bool) (hx : a.eval x = .pointer (some ⟨g, 0, none⟩)) (hy : a.eval y = .agg (relA s)) (t : TypeId)
    (hg : w.heap[g]? = some (.cells (relA r) t (0, 0))) (h : wpList Try.prog ops Q rest (a.put o.dst undef) (w.setRow g (relA s))) : wpList Try.prog ops Q (o :: rest) a w :=
  wpList_step fun K hK => by
    rw [if_pos hgd]
    exact wp_store_row _ x y ho g (relA s) hx hy t (relA r) hg (by rw [relA_size]; exact infoR) (by rw [relA_size, relA_size]) (relA_one s) (hK _ _ h)
theorem resultR {fn : Func} {p : Tmp} (h : fn.results = #[.cell p 58]) (tmps : Array Value) (w : World) (g : Nat) (t : TypeId) (r : Nat → Nat → Bool) (fr : Nat × Nat)
    (hp : tmps.getD p undef = .pointer (some ⟨g, 0, none⟩)) (hg : w.heap[g]? = some (.cells (relA r) t fr)) : (results fn tmps).run Try.prog w = .ok (.agg (relA r)) w :=
  results_cell_row h tmps w g t (relA r) fr _ hp hg Try.underlying58 rfl (by rw [relA_size]; exact infoR)
theorem putR {w : World} {g : Nat} {s : Nat → Nat → Bool} {t : TypeId} (a b : Nat) (v : Bool) (hb : b < 8) (hg : w.heap[g]? = some (.cells (relA s) t (0, 0))) :
    (w.setCell ⟨g, a * 8 + b, none⟩ (.bool v)).heap[g]? = some (.cells (relA (upd s a b v)) t (0, 0)) := by
  rw [heap_setCell_same w g (a * 8 + b) (relA s) t (.bool v) hg, relA_set s a b v hb]
theorem zeroR : #[Value.bool false, Value.bool false, Value.bool false, Value.bool false, Value.bool false, Value.bool false, Value.bool false, Value.bool false, Value.bool false, Value.bool false, Value.bool false, Value.bool false, Value.bool false, Value.bool false, Value.bool false, Value.bool false, Value.bool false, Value.bool false, Value.bool false, Value.bool false, Value.bool false, Value.bool false, Value.bool false, Value.bool false, Value.bool false, Value.bool false, Value.bool false, Value.bool false, Value.bool false, Value.bool false, Value.bool false, Value.bool false, Value.bool false, Value.bool false, Value.bool false, Value.bool false, Value.bool false, Value.bool false, Value.bool false, Value.bool false, Value.bool false, Value.bool false, Value.bool false, Value.bool false, Value.bool false, Value.bool false, Value.bool false, Value.bool false, Value.bool false, Value.bool false, Value.bool false, Value.bool false, Value.bool false, Value.bool false, Value.bool false, Value.bool false, Value.bool false, Value.bool false, Value.bool false, Value.bool false, Value.bool false, Value.bool false, Value.bool false, Value.bool false] = relA (fun _ _ => false) := by
  kernel_rfl
theorem infoC : (Try.prog.info? 64).map (·.size) = some 64 := by kernel_rfl
theorem wpList_loadC {ops : Array Oper} {rest : List Oper} {o : Oper} {a : Act} {w : World} {Q : Exit → Act → World → Prop} (hgd : Region.wanted o (yielded ops a.tmps) = true)
    (x : Operand) (ho : o.op = .load 64 x) (g : Nat) (hx : a.eval x = .pointer (some ⟨g, 0, none⟩)) (r : Nat → Nat → Nat) (t : TypeId) (fr : Nat × Nat)
    (hg : w.heap[g]? = some (.cells (chA r) t fr)) (h : wpList Try.prog ops Q rest (a.put o.dst (.agg (chA r))) w) : wpList Try.prog ops Q (o :: rest) a w :=
  wpList_step fun K hK => by
    rw [if_pos hgd]
    exact wp_load_row _ x ho g hx t (chA r) fr _ hg Try.underlying64 rfl (by rw [chA_size]; exact infoC) (hK _ _ h)
theorem wpList_storeC {ops : Array Oper} {rest : List Oper} {o : Oper} {a : Act} {w : World} {Q : Exit → Act → World → Prop} (hgd : Region.wanted o (yielded ops a.tmps) = true)
    (x y : Operand) (ho : o.op = .store 64 x y) (g : Nat) (r s : Nat → Nat → Nat) (hx : a.eval x = .pointer (some ⟨g, 0, none⟩)) (hy : a.eval y = .agg (chA s)) (t : TypeId)
    (hg : w.heap[g]? = some (.cells (chA r) t (0, 0))) (h : wpList Try.prog ops Q rest (a.put o.dst undef) (w.setRow g (chA s))) : wpList Try.prog ops Q (o :: rest) a w :=
  wpList_step fun K hK => by
    rw [if_pos hgd]
    exact wp_store_row _ x y ho g (chA s) hx hy t (chA r) hg (by rw [chA_size]; exact infoC) (by rw [chA_size, chA_size]) (chA_one s) (hK _ _ h)
theorem resultC2 {fn : Func} {p u : Tmp} (h : fn.results = #[.cell p 64, .tmp u]) (tmps : Array Value) (w : World) (g : Nat) (t : TypeId) (r : Nat → Nat → Nat) (fr : Nat × Nat) (v : Value)
    (hp : tmps.getD p undef = .pointer (some ⟨g, 0, none⟩)) (hu : tmps.getD u undef = v) (hg : w.heap[g]? = some (.cells (chA r) t fr)) : (results fn tmps).run Try.prog w = .ok (.tuple #[.agg (chA r), v]) w := by
  rw [results_cell_tmp h, hp, hu]
  have h1 : (asAddr (.pointer (some ⟨g, 0, none⟩))).run Try.prog w = .ok ⟨g, 0, none⟩ w := rfl
  rw [h1]
  simp only [Result.andThen_ok]
  rw [run_loadVar_row w g t _ (chA r) fr _ hg Try.underlying64 rfl (by rw [chA_size]; exact infoC)]
  rfl
theorem putC {w : World} {g : Nat} {s : Nat → Nat → Nat} {t : TypeId} (a b : Nat) (v : Nat) (hb : b < 8) (hg : w.heap[g]? = some (.cells (chA s) t (0, 0))) :
    (w.setCell ⟨g, a * 8 + b, none⟩ (.int .i64 (v : Nat))).heap[g]? = some (.cells (chA (upd s a b v)) t (0, 0)) := by
  rw [heap_setCell_same w g (a * 8 + b) (chA s) t _ hg, chA_set s a b v hb]
theorem zeroC : #[Value.int IntKind.i64 0, Value.int IntKind.i64 0, Value.int IntKind.i64 0, Value.int IntKind.i64 0, Value.int IntKind.i64 0, Value.int IntKind.i64 0, Value.int IntKind.i64 0, Value.int IntKind.i64 0, Value.int IntKind.i64 0, Value.int IntKind.i64 0, Value.int IntKind.i64 0, Value.int IntKind.i64 0, Value.int IntKind.i64 0, Value.int IntKind.i64 0, Value.int IntKind.i64 0, Value.int IntKind.i64 0, Value.int IntKind.i64 0, Value.int IntKind.i64 0, Value.int IntKind.i64 0, Value.int IntKind.i64 0, Value.int IntKind.i64 0, Value.int IntKind.i64 0, Value.int IntKind.i64 0, Value.int IntKind.i64 0, Value.int IntKind.i64 0, Value.int IntKind.i64 0, Value.int IntKind.i64 0, Value.int IntKind.i64 0, Value.int IntKind.i64 0, Value.int IntKind.i64 0, Value.int IntKind.i64 0, Value.int IntKind.i64 0, Value.int IntKind.i64 0, Value.int IntKind.i64 0, Value.int IntKind.i64 0, Value.int IntKind.i64 0, Value.int IntKind.i64 0, Value.int IntKind.i64 0, Value.int IntKind.i64 0, Value.int IntKind.i64 0, Value.int IntKind.i64 0, Value.int IntKind.i64 0, Value.int IntKind.i64 0, Value.int IntKind.i64 0, Value.int IntKind.i64 0, Value.int IntKind.i64 0, Value.int IntKind.i64 0, Value.int IntKind.i64 0, Value.int IntKind.i64 0, Value.int IntKind.i64 0, Value.int IntKind.i64 0, Value.int IntKind.i64 0, Value.int IntKind.i64 0, Value.int IntKind.i64 0, Value.int IntKind.i64 0, Value.int IntKind.i64 0, Value.int IntKind.i64 0, Value.int IntKind.i64 0, Value.int IntKind.i64 0, Value.int IntKind.i64 0, Value.int IntKind.i64 0, Value.int IntKind.i64 0, Value.int IntKind.i64 0, Value.int IntKind.i64 0] = chA (fun _ _ => 0) := by
  kernel_rfl
theorem wpList_storeRn {ops : Array Oper} {rest : List Oper} {o : Oper} {a : Act} {w : World} {Q : Exit → Act → World → Prop} (hgd : Region.wanted o (yielded ops a.tmps) = true)
    (x y : Operand) (ho : o.op = .store 58 x y) (r s : Nat → Nat → Bool) (hx : a.eval x = .pointer (some ⟨w.heap.size, 0, none⟩)) (hy : a.eval y = .agg (relA s)) (t : TypeId)
    (h : wpList Try.prog ops Q rest (a.put o.dst undef) (w.alloc (.cells (relA s) t))) : wpList Try.prog ops Q (o :: rest) a (w.alloc (.cells (relA r) t)) :=
  wpList_storeR hgd x y ho w.heap.size r s hx hy t (al_new _ _) (by rw [World.setRow_alloc_new]; exact h)
theorem wpList_storeCn {ops : Array Oper} {rest : List Oper} {o : Oper} {a : Act} {w : World} {Q : Exit → Act → World → Prop} (hgd : Region.wanted o (yielded ops a.tmps) = true)
    (x y : Operand) (ho : o.op = .store 64 x y) (r s : Nat → Nat → Nat) (hx : a.eval x = .pointer (some ⟨w.heap.size, 0, none⟩)) (hy : a.eval y = .agg (chA s)) (t : TypeId)
    (h : wpList Try.prog ops Q rest (a.put o.dst undef) (w.alloc (.cells (chA s) t))) : wpList Try.prog ops Q (o :: rest) a (w.alloc (.cells (chA r) t)) :=
  wpList_storeC hgd x y ho w.heap.size r s hx hy t (al_new _ _) (by rw [World.setRow_alloc_new]; exact h)
theorem run_alloc_any {P : Program} (w : World) (t : TypeId) (cs : Array Value) (hz : ∀ w, (zeroValue t).run P w = .ok (.agg cs) w) :
    (Instr.alloc t true (.tuple #[])).run P w = .ok (.pointer (some ⟨w.heap.size, 0, none⟩)) (w.alloc (.cells cs t)) := by
  simp [Instr.alloc, hz, newVar, newRow, newObj, Value.cells, Sem.run_bind]
  rfl
theorem wpList_allocR {ops : Array Oper} {rest : List Oper} {o : Oper} {a : Act} {w : World} {Q : Exit → Act → World → Prop} (hgd : Region.wanted o (yielded ops a.tmps) = true)
    (ho : o.op = .alloc 58) (h : wpList Try.prog ops Q rest (a.put o.dst (.pointer (some ⟨w.heap.size, 0, none⟩))) (w.alloc (.cells (relA fun _ _ => false) 58))) : wpList Try.prog ops Q (o :: rest) a w :=
  wpList_step fun K hK => by
    rw [if_pos hgd]
    unfold Oper.wp execOp
    simp only [ho, Sem.run_bind, run_alloc_any w _ _ (fun w => by rw [Try.zeroValue58, zeroR]), Result.andThen_ok]
    exact hK _ _ h
theorem wpList_allocC {ops : Array Oper} {rest : List Oper} {o : Oper} {a : Act} {w : World} {Q : Exit → Act → World → Prop} (hgd : Region.wanted o (yielded ops a.tmps) = true)
    (ho : o.op = .alloc 64) (h : wpList Try.prog ops Q rest (a.put o.dst (.pointer (some ⟨w.heap.size, 0, none⟩))) (w.alloc (.cells (chA fun _ _ => 0) 64))) : wpList Try.prog ops Q (o :: rest) a w :=
  wpList_step fun K hK => by
    rw [if_pos hgd]
    unfold Oper.wp execOp
    simp only [ho, Sem.run_bind, run_alloc_any w _ _ (fun w => by rw [Try.zeroValue64, zeroC]), Result.andThen_ok]
    exact hK _ _ h
end Lv
end Go.Proofs.Ytmfdclnepmgmlaa
