/- Layer 13: rows of tokens of the call's own. -/
import Derived.Test.YtpddkchnogfjkaaDoorLxRows
import Derived.Laws.AppendOwn
import Derived.Laws.AppendOwnNone
namespace Go.Proofs.YtpddkchnogfjkaaDoor
open Go.RowKit
namespace Lx
open _root_.Go.Proofs.YtpddkchnogfjkaaDoor.Nm (bT)
def five (x : Tk) : List Value := [.int .i64 (x.k : Nat), .string ⟨x.t.toArray⟩, .int .i64 x.c, .int .i64 x.s, .int .i64 (x.p : Nat)]
theorem info5 : (Tryd.prog.info? 34).map (fun i => (i.zero, i.size, i.bytes)) = some (some (.agg #[.int .i64 0, .string ⟨#[]⟩, .int .i64 0, .int .i64 0, .int .i64 0]), 5, 48) := by kernel_rfl
/-- a row of tokens of the call's own -/
def Own5 (B : Nat) (w : World) (v : Value) (l : List Tk) : Prop := w.ownsRow B 34 5 v l.length (l.flatMap five)
theorem Own5.nil (w : World) (B : Nat) : Own5 B w (.slice none 0 0) [] := World.ownsRow_nil w B 34 5
theorem Own5.on {B : Nat} {w w' : World} {v : Value} {l : List Tk} (h : Own5 B w v l) (hb : Below w.heap.size w w') : Own5 B w' v l := by
  obtain ⟨h0, h1⟩ := h
  refine ⟨h0, ?_⟩
  rcases h1 with h1 | ⟨g, cap, cur, h1, h2, h3, h4⟩
  · exact Or.inl h1
  · exact Or.inr ⟨g, cap, cur, h1, h2, (hb.block g (Array.getElem?_eq_some_iff.1 h3).1).trans h3, h4⟩
theorem Own5.set {B k : Nat} {w : World} {v : Value} {l : List Tk} (h : Own5 B w v l) (i : Nat) (u : Value) (hk : k < B) : Own5 B (w.setCell ⟨k, i, none⟩ u) v l := by
  obtain ⟨h0, h1⟩ := h
  refine ⟨h0, ?_⟩
  rcases h1 with h1 | ⟨g, cap, cur, h1, h2, h3, h4⟩
  · exact Or.inl h1
  · refine Or.inr ⟨g, cap, cur, h1, h2, ?_, h4⟩
    rw [RowKit.Below.heap_setCell _ _ _ _ (by show g ≠ k; omega)]
    exact h3
theorem one5 {l : List Tk} : ∀ u ∈ l.flatMap five, u.oneCell' = true := by
  intro u hu
  obtain ⟨y, hy, hu⟩ := List.mem_flatMap.1 hu
  simp only [five, List.mem_cons, List.not_mem_nil, or_false] at hu
  rcases hu with rfl | rfl | rfl | rfl | rfl <;> rfl
theorem Own5.form {B : Nat} {w : World} {v : Value} {l : List Tk} (h : Own5 B w v l) : ∃ ao cap, v = .slice ao l.length cap := by
  rcases h.2 with ⟨h1, h2⟩ | ⟨g, cap, cur, h1, _⟩
  · exact ⟨none, 0, by rw [h1, h2]⟩
  · exact ⟨_, cap, h1⟩
theorem flat5_get : ∀ (l : List Tk) (j i : Nat) (x : Tk) (u : Value), l[j]? = some x → (five x)[i]? = some u → (l.flatMap five)[j * 5 + i]? = some u := by
  intro l
  induction l with
  | nil => intro j i x u h _; simp at h
  | cons y l ih =>
    intro j i x u h hu
    have hi : i < 5 := (List.getElem?_eq_some_iff.1 hu).1
    cases j with
    | zero =>
      simp only [List.getElem?_cons_zero, Option.some.injEq] at h
      subst h
      rw [List.flatMap_cons, List.getElem?_append_left (by show 0 * 5 + i < 5; omega), Nat.zero_mul, Nat.zero_add]
      exact hu
    | succ j =>
      rw [List.getElem?_cons_succ] at h
      rw [List.flatMap_cons, List.getElem?_append_right (by show 5 ≤ _; omega)]
      rw [show (j + 1) * 5 + i - (five y).length = j * 5 + i by show _ - 5 = _; omega]
      exact ih j i x u h hu
theorem Own5.tks {B : Nat} {w : World} {v : Value} {l : List Tk} (h : Own5 B w v l) : Tks w v l := by
  rcases h.2 with ⟨rfl, h2⟩ | ⟨g, cap, cur, rfl, hB, hg, hn, _⟩
  · obtain rfl : l = [] := List.length_eq_zero_iff.1 h2
    exact Tks.nil0 w none 0
  · refine ⟨_, cap, rfl, hn, fun _ => ⟨g, 0, rfl, (Array.getElem?_eq_some_iff.1 hg).1, fun j x hj => ?_⟩⟩
    have hc := World.ownsRow.cells h (g := g) rfl
    have hat : ∀ i u, (five x)[i]? = some u → w.cell? ⟨g, 0 + j * 5 + i, none⟩ = some u := fun i u hu => by
      have := hc (j * 5 + i) u (flat5_get l j i x u hj hu)
      rw [Go.WideShapes.add_plain] at this
      rw [show 0 + j * 5 + i = 0 + (j * 5 + i) by omega]
      exact this
    exact ⟨hat 0 _ rfl, hat 1 _ rfl, hat 2 _ rfl, hat 3 _ rfl, hat 4 _ rfl⟩
/-- one token is put behind a row of the call's own -/
theorem app5 {B : Nat} {w : World} {v : Value} {l : List Tk} {y : Tk} {b : Nat} (ty : TypeId) (h : Own5 B w v l) (hy : w.heap[b]? = some (.cells (five y).toArray 34 (0, 0))) (hn : l.length ≤ 1000000000) (hB : B ≤ w.heap.size) :
    ∃ v' w', (Builtin.append_ #[27, 27] ty #[v, .slice (some ⟨b, 0, none⟩) 1 1]).run Tryd.prog w = .ok v' w' ∧ Own5 B w' v' (l ++ [y]) ∧ (∀ k, k < w.heap.size → v.ownBlock ≠ some k → w'.heap[k]? = w.heap[k]?) ∧ Below B w w' ∧ (v'.ownBlock = v.ownBlock ∨ v'.ownBlock = some w.heap.size) := by
  obtain ⟨i0, hi, hz0, hz1, hz2⟩ := info_parts info5
  obtain ⟨v', w', hr, g1, g2, _, g4⟩ := run_append_own_at (P := Tryd.prog) w B 27 ty 34 i0 _ 5 48 Tryd.underlying27 hi hz0 hz1 hz2 rfl (by decide) v l.length _ h ⟨b, 0, none⟩ 1 1 (five y) rfl (fun j u hj => by
    rw [Go.WideShapes.add_plain, Nat.zero_add, cell_of_row w b j _ _ _ hy]
    simpa using hj) (fun u hu => one5 (l := [y]) u (by simpa using hu)) (by unfold maxLen; omega) (by omega) hB
  refine ⟨v', w', hr, ?_, fun k hk hne => g2.block k hk (fun e => hne e.symm), ⟨g2.os, g2.tape, g2.output, g2.size, fun k hk => g2.block k (by omega) (fun e => ?_)⟩, g4⟩
  · unfold Own5
    rw [List.length_append, List.flatMap_append]
    simpa using g1
  · have := (h.lt k e.symm).1
    omega
theorem wpList_app5 {ops : Array Oper} {rest : List Oper} {o : Oper} {a : Act} {w : World} {Q : Exit → Act → World → Prop} (hgd : o.guard = none) (s x : Operand)
    (hop : o.op = Op.call { callee := Callee.builtin Builtin.append, args := #[s, x], argTypes := #[27, 27] }) (B b : Nat) (v : Value) (l : List Tk) (y : Tk) (hs : a.eval s = v) (hx : a.eval x = .slice (some ⟨b, 0, none⟩) 1 1)
    (h : Own5 B w v l) (hy : w.heap[b]? = some (.cells (five y).toArray 34 (0, 0))) (hn : l.length ≤ 1000000000) (hB : B ≤ w.heap.size)
    (hK : ∀ v' w', Own5 B w' v' (l ++ [y]) → Below B w w' → wpList Tryd.prog ops Q rest (a.put o.dst v') w') :
    wpList Tryd.prog ops Q (o :: rest) a w := by
  refine wpList_plain hgd fun K hK' => ?_
  obtain ⟨v', w', hrun, r1, r2, r3, r4⟩ := app5 o.type h hy hn hB
  unfold Oper.wp
  simp [execOp, hop, resolve, invoke, builtin, hs, hx, hrun, Result.andThen]
  exact hK' _ _ (hK v' w' r1 r3)
end Lx
end Go.Proofs.YtpddkchnogfjkaaDoor
