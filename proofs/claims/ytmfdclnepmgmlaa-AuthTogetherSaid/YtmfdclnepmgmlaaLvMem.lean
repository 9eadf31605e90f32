/- Tables and rows of ints behind slices; one int laid behind those that are there. -/
import Derived.Test.YtmfdclnepmgmlaaLvPairs
namespace Go.Proofs.Ytmfdclnepmgmlaa
open Go.RowKit
namespace Lv
/-- a slice of n rows of n bools -/
structure TabAt (w : World) (v : Value) (n : Nat) (r : Nat → Nat → Bool) : Prop where
  form : ∃ (g cap : Nat) (R C : Nat → Nat), v = .slice (some ⟨g, 0, none⟩) n cap ∧ ∀ a, a < n → w.cell? ⟨g, a, none⟩ = some (.slice (some ⟨R a, 0, none⟩) n (C a)) ∧ ∀ b, b < n → w.cell? ⟨R a, b, none⟩ = some (.bool (r a b))
theorem tab_go {w w1 : World} {g n : Nat} {R C : Nat → Nat} {r : Nat → Nat → Bool} (h : ∀ a, a < n → w.cell? ⟨g, a, none⟩ = some (.slice (some ⟨R a, 0, none⟩) n (C a)) ∧ ∀ b, b < n → w.cell? ⟨R a, b, none⟩ = some (.bool (r a b))) (hb : Below w.heap.size w w1) :
    ∀ a, a < n → w1.cell? ⟨g, a, none⟩ = some (.slice (some ⟨R a, 0, none⟩) n (C a)) ∧ ∀ b, b < n → w1.cell? ⟨R a, b, none⟩ = some (.bool (r a b)) :=
  fun a ha => ⟨cellB hb (h a ha).1, fun b hb' => cellB hb ((h a ha).2 b hb')⟩
theorem TabAt.go {w w1 : World} {v : Value} {n : Nat} {r : Nat → Nat → Bool} (h : TabAt w v n r) (hb : Below w.heap.size w w1) : TabAt w1 v n r := by
  obtain ⟨g, cap, R, C, hv, ht⟩ := h.form
  exact ⟨g, cap, R, C, hv, tab_go ht hb⟩
def intV (x : Nat) : Value := Value.int .i64 (x : Nat)
/-- a slice of ints that holds l -/
def IntsAt (w : World) (v : Value) (l : List Nat) : Prop := (l = [] ∧ v = .slice none 0 0) ∨ ∃ g cap, v = .slice (some ⟨g, 0, none⟩) l.length cap ∧ ∀ i x, l[i]? = some x → w.cell? ⟨g, i, none⟩ = some (.int .i64 (x : Nat))
def IntsPost (l : List Nat) (w : World) (e : Ending) (w' : World) : Prop := Below w.heap.size w w' ∧ ∃ v, e = .returned v ∧ IntsAt w' v l
theorem ints_own {w : World} {base : Nat} {v : Value} {l : List Nat} (h : w.ownsRow base 3 1 v l.length (l.map intV)) : IntsAt w v l := by
  rcases h.2 with ⟨hv, h0⟩ | ⟨g, cap, cur, rfl, _⟩
  · exact .inl ⟨List.length_eq_zero_iff.1 h0, hv⟩
  · refine .inr ⟨g, cap, rfl, fun i x hx => ?_⟩
    have hi := (List.getElem?_eq_some_iff.1 hx).1
    rw [h.cellAt i (by omega), List.getElem?_map, hx]
    rfl
theorem info_int : (Try.prog.info? 3).map (fun i => (i.zero, i.size, i.bytes)) = some (some (.int .i64 0), 1, 8) := by kernel_rfl
/-- one int behind those of a slice that is the call's own -/
theorem wpList_append1 {ops : Array Oper} {rest : List Oper} {o : Oper} {a : Act} {w0 : World} {Q : Exit → Act → World → Prop} (hgd : o.guard = none) (s x : Operand)
    (ho : o.op = .call { callee := .builtin .append, args := #[s, x], argTypes := #[34, 34] }) (base : Nat) (u : Value) (l : List Nat) (c : Nat) (hs : a.eval s = u)
    (hx : a.eval x = .slice (some ⟨w0.heap.size, 0, none⟩) 1 1) (hown : w0.ownsRow base 3 1 u l.length (l.map intV)) (hlen : l.length ≤ 8) (hbase : base ≤ w0.heap.size)
    (h : ∀ v' w', w'.ownsRow base 3 1 v' (l ++ [c]).length ((l ++ [c]).map intV) → Below base w0 w' → wpList Try.prog ops Q rest (a.put o.dst v') w') :
    wpList Try.prog ops Q (o :: rest) a (w0.alloc (.cells #[.int .i64 (c : Nat)] 3)) := by
  obtain ⟨i0, hi, hz0, hz1, hz2⟩ := info_parts info_int
  refine wpList_append_own _ hgd s x 34 ho base 3 i0 (.int .i64 0) 1 8 Try.underlying34 hi hz0 hz1 hz2 rfl (by decide) u l.length _ hs (hown.alloc _) ⟨w0.heap.size, 0, none⟩ 1 1 [.int .i64 (c : Nat)] hx rfl ?_ ?_ ?_ ?_ ?_ ?_
  · intro j v hj
    match j, hj with
    | 0, hj =>
      cases hj
      exact cell_of_row _ _ 0 _ _ _ (al_new _ _)
  · intro v hv
    simp only [List.mem_singleton] at hv
    subst hv
    rfl
  · unfold maxLen; omega
  · omega
  · rw [al_size]; omega
  · intro v' w' h1 h2 _
    refine h v' w' (by simpa [intV] using h1) (((Below.refl _ _).alloc hbase _).grown h2 (by rw [al_size]; omega) fun k hk => (hown.lt k hk).1)
end Lv
end Go.Proofs.Ytmfdclnepmgmlaa
