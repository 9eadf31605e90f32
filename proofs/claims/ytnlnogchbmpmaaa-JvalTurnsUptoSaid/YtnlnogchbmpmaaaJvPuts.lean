/- JvalPuts answers true for every two values and two texts. -/
import Derived.Test.YtnlnogchbmpmaaaJvBs
import Derived.Deep.QuietTactic
import Derived.BigQuiet
namespace Go.Proofs.Ytnlnogchbmpmaaa
open Go.RowKit
namespace Jv
open _root_.Go.Proofs.Ytnlnogchbmpmaaa.Nm
set_option maxRecDepth 100000 in
theorem run_leB (x y : ByteArray) (w : World) : (binOp .leq 9 (.string x) (.string y)).run Try.prog w = .ok (.bool (leB x y)) w := by
  simp [binOp, Op.stringOp, leB, go_sem]
/-- a value's parts that stand in slices -/
theorem VT.parts {w : World} {n : Nat} {x : Six} {t : JV} (h : VT w n x t) : ∃ ko kc io ic, x.kv = .slice ko t.keys.length kc ∧ x.iv = .slice io t.items.length ic ∧ t.keys.length ≤ maxLen ∧ t.items.length ≤ maxLen ∧
    (0 < t.keys.length → ∃ k o, ko = some ⟨k, o, none⟩ ∧ k < w.heap.size ∧ ∀ j s, t.keys[j]? = some s → w.cell? ⟨k, o + j, none⟩ = some (.string s)) ∧
    (0 < t.items.length → ∃ k o, io = some ⟨k, o, none⟩ ∧ k < w.heap.size ∧ ∀ j z, t.items[j]? = some z → ∃ y m, At6 w k (o + j * 6) y ∧ VT w m y z) ∧ x.k = t.k ∧ ∀ s ∈ t.keys, s.size ≤ maxLen := by
  cases n with
  | zero => exact h.elim
  | succ n =>
    obtain ⟨e1, _, _, _, ⟨ko, kc, h1, h2, h3, _, h4⟩, hB, l, ⟨io, ic, g1, g2, g3, _, g4⟩, hl, ht⟩ := h
    refine ⟨ko, kc, io, ic, h1, hl ▸ g1, by omega, by omega, h4, fun h0 => ?_, e1, hB.2.2.2.2⟩
    obtain ⟨k, o, q1, q2, q3⟩ := g4 (by omega)
    refine ⟨k, o, q1, q2, fun j z hz => ?_⟩
    have hj : j < l.length := by have := (List.getElem?_eq_some_iff.1 hz).1; omega
    exact ⟨_, n, q3 j _ (List.getElem?_eq_getElem hj), ht j _ z (List.getElem?_eq_getElem hj) hz⟩
theorem Sx.set6 {B k : Nat} {o a : World} {fx : List (Addr × Value)} (h : Sx B o fx a) (hk : B ≤ k) (hl : ∀ t ∈ fx, t.1.block < k) (u0 u1 u2 u3 u4 u5 : Value) :
    Sx B o fx ((((((a.setCell ⟨k, 0, none⟩ u0).setCell ⟨k, 1, none⟩ u1).setCell ⟨k, 2, none⟩ u2).setCell ⟨k, 3, none⟩ u3).setCell ⟨k, 4, none⟩ u4).setCell ⟨k, 5, none⟩ u5) := by
  have step : ∀ (a : World) (i : Nat) (u : Value), Sx B o fx a → Sx B o fx (a.setCell ⟨k, i, none⟩ u) := fun a i u h =>
    ⟨h.1.setCell hk u, fun t ht => ⟨by simpa using (h.2 t ht).1, (World.cell?_of_block (a := t.1) (Below.heap_setCell a ⟨k, i, none⟩ u t.1.block (Nat.ne_of_lt (hl t ht)))).trans (h.2 t ht).2⟩⟩
  exact step _ 5 u5 (step _ 4 u4 (step _ 3 u3 (step _ 2 u2 (step _ 1 u1 (step _ 0 u0 h)))))
theorem Bs.new5 {w wr wx : World} {l : List (Nat × Six × JV)} {k n : Nat} {x : Six} {t : JV} (h : Bs w wr l) (hb : Below wr.heap.size wr wx) (hv : Vb wx k x.cells.toArray) (ht : VT wr n x t) : Bs w wx ((k, x, t) :: l) := by
  have h' := h.on hb
  refine ⟨h'.bel, fun p hp => ?_, fun p hp => ?_⟩
  · rcases List.mem_cons.1 hp with rfl | hp
    · exact hv
    · exact h'.box p hp
  · rcases List.mem_cons.1 hp with rfl | hp
    · exact ⟨n, VT.on hb n ht⟩
    · exact h'.tree p hp
/-- Same, cell by cell, of values of one tree -/
theorem same_cells (x y : Six) (t : JV) (wr : World) (h : ∃ n, VT wr n x t) (g : ∃ n, VT wr n y t) :
    Calls Try.prog 15 #[.agg #[.int .i64 x.k, .int .i64 x.c, .int .i64 x.s, .string x.st, x.iv, x.kv], .agg #[.int .i64 y.k, .int .i64 y.c, .int .i64 y.s, .string y.st, y.iv, y.kv]] wr fun e w' => e = .returned (.bool true) ∧ Below wr.heap.size wr w' := by
  obtain ⟨n, h⟩ := h
  obtain ⟨m, g⟩ := g
  have h1 := rsame_any n m x y t t wr h g
  unfold Six.val vV at h1
  rw [sameB_refl] at h1
  exact h1
/-- what Put's value has -/
theorem puts_facts {tx ty : JV} {a : ByteArray} (h6 : tx.k = 6 ∧ tx.keys.length = tx.items.length) (hu : Up tx.keys) :
    (putT tx a ty).k = 6 ∧ Up (putT tx a ty).keys ∧ (putT tx a ty).keys.length = (putT tx a ty).items.length ∧ gotT (putT tx a ty) a = (ty, true) ∧ (∀ b, b ≠ a → gotT (putT tx a ty) b = gotT tx b) ∧
    (∀ (i : Nat) (s : ByteArray) (z : JV), tx.keys[i]? = some s → tx.items[i]? = some z → (gotT (putT tx a ty) s).2 = true ∧ (s ≠ a → (gotT (putT tx a ty) s).1 = z)) ∧
    (putT tx a ty).keys.length = (if (gotT tx a).2 = true then tx.keys.length else tx.keys.length + 1) := by
  obtain ⟨h1, h2⟩ := h6
  have e : putT tx a ty = .mk tx.k tx.c tx.s tx.st (putI tx.keys tx.items a ty) (putK tx.keys a) := by unfold putT; rw [if_pos ⟨h1, h2⟩]
  have hl := putKI_len (key := a) (v := ty) h2
  have g0 : ∀ b, gotT tx b = gotL tx.keys tx.items jv0 b := fun b => by unfold gotT; rw [if_pos ⟨h1, h2⟩]
  have g1 : ∀ b, gotT (putT tx a ty) b = gotL (putK tx.keys a) (putI tx.keys tx.items a ty) jv0 b := fun b => by
    rw [e]; unfold gotT; rw [if_pos ⟨h1, hl⟩]; rfl
  have g2 : ∀ b, b ≠ a → gotT (putT tx a ty) b = gotT tx b := fun b hb => by rw [g1, g0, got_other h2 hu hb]
  refine ⟨by rw [e]; exact h1, by rw [e]; exact putK_up hu, by rw [e]; exact hl, by rw [g1, got_put h2 hu], g2, fun i s z hs hz => ?_, ?_⟩
  · by_cases hsa : s = a
    · subst hsa
      rw [g1, got_put h2 hu]
      exact ⟨rfl, fun h => absurd rfl h⟩
    · rw [g2 s hsa, g0, gotL_some hu (v := z) (List.mem_of_getElem? (i := i) (List.getElem?_zip_eq_some.2 ⟨hs, hz⟩))]
      exact ⟨rfl, fun _ => rfl⟩
  · rw [g0, got_snd h2, e]
    show (putK tx.keys a).length = _
    rw [putK_len]
    simp only [decide_eq_true_eq]
end Jv
end Go.Proofs.Ytnlnogchbmpmaaa
