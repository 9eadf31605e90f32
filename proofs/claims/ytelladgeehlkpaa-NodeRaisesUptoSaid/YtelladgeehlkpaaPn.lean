/- Which values may be, as data; values whose texts are not too long. -/
import Derived.Test.YtelladgeehlkpaaPk
import Derived.Test.YtelladgeehlkpaaPm
import Derived.Test.YtelladgeehlkpaaPa
import Derived.Test.YtelladgeehlkpaaPi
import Derived.Test.YtelladgeehlkpaaPj
import Derived.Maps.AppendAt
namespace Go.Proofs.Ytelladgeehlkpaa
open Go.RowKit
namespace Jv
open _root_.Go.Proofs.Ytelladgeehlkpaa.Nm
open _root_.Go.Proofs.Ytelladgeehlkpaa.Ut (byt vldB)
/-- are a value's texts of at most so many bytes? -/
def Sm (B : Nat) : Nat → JV → Prop
  | 0, _ => True
  | n + 1, t => t.st.size ≤ B ∧ (∀ x ∈ t.keys, x.size ≤ B) ∧ ∀ z ∈ t.items, Sm B n z
theorem Sm.mono {B C : Nat} (h : B ≤ C) : ∀ (n : Nat) {t : JV}, Sm B n t → Sm C n t
  | 0, _, _ => trivial
  | n + 1, _, ⟨h1, h2, h3⟩ => ⟨Nat.le_trans h1 h, fun x hx => Nat.le_trans (h2 x hx) h, fun z hz => Sm.mono h n (h3 z hz)⟩
/-- all of a value's texts are of at most so many bytes -/
def SmA (B : Nat) (t : JV) : Prop := ∀ n, Sm B n t
theorem SmA.st {B : Nat} {t : JV} (h : SmA B t) : t.st.size ≤ B := (h 1).1
theorem SmA.key {B : Nat} {t : JV} (h : SmA B t) : ∀ x ∈ t.keys, x.size ≤ B := (h 1).2.1
theorem SmA.item {B : Nat} {t : JV} (h : SmA B t) : ∀ z ∈ t.items, SmA B z := fun z hz n => (h (n + 1)).2.2 z hz
/-- has a value nothing but what its kind may have? -/
def ZeroP (t : JV) : Prop := (t.k ≠ 3 → t.c = 0 ∧ t.s = 0) ∧ (t.k ≠ 4 → t.k ≠ 7 → t.st = ⟨#[]⟩) ∧ (t.k ≠ 5 → t.k ≠ 6 → t.items = []) ∧ (t.k ≠ 6 → t.keys = [])
/-- may a value be, whatever its items are? -/
def HeadP (t : JV) : Prop := (0 ≤ t.k ∧ t.k ≤ 7) ∧ ZeroP t ∧ vldB (byt t.st) = true ∧ (t.k = 3 → isB t.c t.s = true) ∧ (t.k = 6 → t.keys.length = t.items.length) ∧ (∀ x ∈ t.keys, vldB (byt x) = true) ∧ Up t.keys
/-- may a value be that has at most so many levels? -/
def IsP : Nat → JV → Prop
  | 0, _ => False
  | n + 1, t => HeadP t ∧ ∀ z ∈ t.items, z.k ≠ 7 ∧ IsP n z
noncomputable def isT (n : Nat) (t : JV) : Bool := @decide (IsP n t) (Classical.propDecidable _)
theorem isT_iff {n : Nat} {t : JV} : isT n t = true ↔ IsP n t := by unfold isT; simp
theorem isT_no {n : Nat} {t : JV} : isT n t = false ↔ ¬ IsP n t := by unfold isT; simp
noncomputable def zeroT (t : JV) : Bool := @decide (ZeroP t) (Classical.propDecidable _)
theorem zeroT_iff {t : JV} : zeroT t = true ↔ ZeroP t := by unfold zeroT; simp
theorem zeroT_no {t : JV} : zeroT t = false ↔ ¬ ZeroP t := by unfold zeroT; simp
theorem IsP.up {n : Nat} {t : JV} (h : IsP n t) : Up t.keys := by
  cases n with
  | zero => exact h.elim
  | succ n => exact h.1.2.2.2.2.2.2
theorem IsP.len {n : Nat} {t : JV} (h : IsP n t) : t.k = 6 → t.keys.length = t.items.length := by
  cases n with
  | zero => exact h.elim
  | succ n => exact h.1.2.2.2.2.1
end Jv
end Go.Proofs.Ytelladgeehlkpaa
namespace Go.Proofs.Ytelladgeehlkpaa
open Go.RowKit
namespace Nd
open _root_.Go.Proofs.Ytelladgeehlkpaa.Nm _root_.Go.Proofs.Ytelladgeehlkpaa.Jv
/-- a slice that isn't empty stands at such a block -/
def InP (P : Nat → Prop) (v : Value) : Prop := ∃ ao n c, v = .slice ao n c ∧ (0 < n → ∀ a, ao = some a → P a.block)
theorem InP.nil (P : Nat → Prop) : InP P (.slice none 0 0) := ⟨_, _, _, rfl, fun h => absurd h (by omega)⟩
/-- a value in memory reads as data, its rows at such blocks -/
def VTb (P : Nat → Prop) (w : World) : Nat → Six → JV → Prop
  | 0, _, _ => False
  | n + 1, x, t => x.k = t.k ∧ x.c = t.c ∧ x.s = t.s ∧ x.st = t.st ∧ Ks w x.kv t.keys ∧ Bd x.k x.c x.s x.st t.keys ∧ InP P x.kv ∧ InP P x.iv ∧
      ∃ l : List Six, Vs w x.iv l ∧ l.length = t.items.length ∧ ∀ (j : Nat) (y : Six) (z : JV), l[j]? = some y → t.items[j]? = some z → VTb P w n y z
theorem VTb.vt {P : Nat → Prop} {w : World} : ∀ (n : Nat) {x : Six} {t : JV}, VTb P w n x t → VT w n x t
  | 0, _, _, h => h.elim
  | n + 1, _, _, ⟨h1, h2, h3, h4, h5, hB, _, _, l, h6, h7, h8⟩ => ⟨h1, h2, h3, h4, h5, hB, l, h6, h7, fun j y z hy hz => VTb.vt n (h8 j y z hy hz)⟩
theorem At6.keep {a b : World} {k p : Nat} {x : Six} (h : At6 a k p x) (hb : b.heap[k]? = a.heap[k]?) : At6 b k p x := by
  obtain ⟨h0, h1, h2, h3, h4, h5⟩ := h
  have e : ∀ o, b.cell? ⟨k, o, none⟩ = a.cell? ⟨k, o, none⟩ := fun o => World.cell?_of_block hb
  exact ⟨(e _).trans h0, (e _).trans h1, (e _).trans h2, (e _).trans h3, (e _).trans h4, (e _).trans h5⟩
theorem Vs.keep {P : Nat → Prop} {a b : World} {v : Value} {l : List Six} (h : Vs a v l) (hn : InP P v) (hb : ∀ k, P k → k < a.heap.size → b.heap[k]? = a.heap[k]?) (hs : a.heap.size ≤ b.heap.size) : Vs b v l := by
  obtain ⟨ao, cap, h1, h2, h3, h4, h⟩ := h
  obtain ⟨ao', n', c', h6, h7⟩ := hn
  refine ⟨ao, cap, h1, h2, h3, h4, fun h0 => ?_⟩
  obtain ⟨g, o, h5, hk, h⟩ := h h0
  rw [h1] at h6
  injection h6 with h6 h8
  have hp : P g := h7 (by omega) ⟨g, o, none⟩ (h6 ▸ h5)
  exact ⟨g, o, h5, by omega, fun j d hj => At6.keep (h j d hj) (hb g hp hk)⟩
theorem Ks.keep {P : Nat → Prop} {a b : World} {v : Value} {l : List ByteArray} (h : Ks a v l) (hn : InP P v) (hb : ∀ k, P k → k < a.heap.size → b.heap[k]? = a.heap[k]?) (hs : a.heap.size ≤ b.heap.size) : Ks b v l := by
  obtain ⟨ao, cap, h1, h2, h3, h4, h⟩ := h
  obtain ⟨ao', n', c', h6, h7⟩ := hn
  refine ⟨ao, cap, h1, h2, h3, h4, fun h0 => ?_⟩
  obtain ⟨g, o, h5, hk, h⟩ := h h0
  rw [h1] at h6
  injection h6 with h6 h8
  have hp : P g := h7 (by omega) ⟨g, o, none⟩ (h6 ▸ h5)
  exact ⟨g, o, h5, by omega, fun j d hj => (World.cell?_of_block (a := ⟨g, o + j, none⟩) (hb g hp hk)).trans (h j d hj)⟩
theorem VTb.keep {P : Nat → Prop} {a b : World} (hb : ∀ k, P k → k < a.heap.size → b.heap[k]? = a.heap[k]?) (hs : a.heap.size ≤ b.heap.size) : ∀ (n : Nat) {x : Six} {t : JV}, VTb P a n x t → VTb P b n x t
  | 0, _, _, h => h.elim
  | n + 1, _, _, ⟨h1, h2, h3, h4, h5, hB, q1, q2, l, h6, h7, h8⟩ => ⟨h1, h2, h3, h4, Ks.keep h5 q1 hb hs, hB, q1, q2, l, Vs.keep h6 q2 hb hs, h7, fun j y z hy hz => VTb.keep hb hs n (h8 j y z hy hz)⟩
theorem InP.weak {P Q : Nat → Prop} {v : Value} (h : InP P v) (hpq : ∀ k, P k → Q k) : InP Q v := by
  obtain ⟨ao, n, c, h1, h2⟩ := h
  exact ⟨ao, n, c, h1, fun h a ha => hpq _ (h2 h a ha)⟩
theorem VTb.weak {P Q : Nat → Prop} {w : World} (hpq : ∀ k, P k → Q k) : ∀ (n : Nat) {x : Six} {t : JV}, VTb P w n x t → VTb Q w n x t
  | 0, _, _, h => h.elim
  | n + 1, _, _, ⟨h1, h2, h3, h4, h5, hB, q1, q2, l, h6, h7, h8⟩ => ⟨h1, h2, h3, h4, h5, hB, q1.weak hpq, q2.weak hpq, l, h6, h7, fun j y z hy hz => VTb.weak hpq n (h8 j y z hy hz)⟩
theorem Ks.inLt {P : Nat → Prop} {w : World} {v : Value} {l : List ByteArray} (h : Ks w v l) (hn : InP P v) : InP (fun k => P k ∧ k < w.heap.size) v := by
  obtain ⟨ao, cap, h1, h2, h3, h4, h⟩ := h
  obtain ⟨ao', n', c', h6, h7⟩ := hn
  refine ⟨ao', n', c', h6, fun h0 a ha => ⟨h7 h0 a ha, ?_⟩⟩
  rw [h1] at h6
  injection h6 with h6 h8 h9
  obtain ⟨g, o, h5, hk, _⟩ := h (by omega)
  rw [← h6, h5] at ha
  obtain rfl := Option.some.inj ha
  exact hk
theorem Vs.inLt {P : Nat → Prop} {w : World} {v : Value} {l : List Six} (h : Vs w v l) (hn : InP P v) : InP (fun k => P k ∧ k < w.heap.size) v := by
  obtain ⟨ao, cap, h1, h2, h3, h4, h⟩ := h
  obtain ⟨ao', n', c', h6, h7⟩ := hn
  refine ⟨ao', n', c', h6, fun h0 a ha => ⟨h7 h0 a ha, ?_⟩⟩
  rw [h1] at h6
  injection h6 with h6 h8 h9
  obtain ⟨g, o, h5, hk, _⟩ := h (by omega)
  rw [← h6, h5] at ha
  obtain rfl := Option.some.inj ha
  exact hk
/-- all rows stand below the world's end -/
theorem VTb.inLt {P : Nat → Prop} {w : World} : ∀ (n : Nat) {x : Six} {t : JV}, VTb P w n x t → VTb (fun k => P k ∧ k < w.heap.size) w n x t
  | 0, _, _, h => h.elim
  | n + 1, _, _, ⟨h1, h2, h3, h4, h5, hB, q1, q2, l, h6, h7, h8⟩ => ⟨h1, h2, h3, h4, h5, hB, Ks.inLt h5 q1, Vs.inLt h6 q2, l, h6, h7, fun j y z hy hz => VTb.inLt n (h8 j y z hy hz)⟩
mutual
/-- a node without labels -/
def NV.strip : NV → JV
  | .mk _ _ k c s st items ks => .mk k c s st (stripL items) ks
def stripL : List NV → List JV
  | [] => []
  | x :: xs => x.strip :: stripL xs
end
theorem stripL_map (l : List NV) : stripL l = l.map NV.strip := by
  induction l with
  | nil => rfl
  | cons x l ih => simp [stripL, ih]
theorem strip_items (t : NV) : t.strip.items = t.items.map NV.strip := by cases t; simp only [NV.strip, JV.items, NV.items, stripL_map]
theorem strip_k (t : NV) : t.strip.k = t.k := by cases t; rfl
theorem strip_c (t : NV) : t.strip.c = t.c := by cases t; rfl
theorem strip_s (t : NV) : t.strip.s = t.s := by cases t; rfl
theorem strip_st (t : NV) : t.strip.st = t.st := by cases t; rfl
theorem strip_keys (t : NV) : t.strip.keys = t.keys := by cases t; rfl
/-- are a node's texts, and its rows of keys, of at most so many? -/
def Sn (B : Nat) : Nat → NV → Prop
  | 0, _ => True
  | n + 1, t => t.st.size ≤ B ∧ (∀ x ∈ t.keys, x.size ≤ B) ∧ t.keys.length ≤ B ∧ ∀ z ∈ t.items, Sn B n z
def SnA (B : Nat) (t : NV) : Prop := ∀ n, Sn B n t
theorem SnA.st {B : Nat} {t : NV} (h : SnA B t) : t.st.size ≤ B := (h 1).1
theorem SnA.key {B : Nat} {t : NV} (h : SnA B t) : ∀ x ∈ t.keys, x.size ≤ B := (h 1).2.1
theorem SnA.len {B : Nat} {t : NV} (h : SnA B t) : t.keys.length ≤ B := (h 1).2.2.1
theorem SnA.item {B : Nat} {t : NV} (h : SnA B t) : ∀ z ∈ t.items, SnA B z := fun z hz n => (h (n + 1)).2.2.2 z hz
theorem Sn.sm {B : Nat} : ∀ (n : Nat) {t : NV}, Sn B n t → Sm B n t.strip
  | 0, _, _ => trivial
  | n + 1, t, ⟨h1, h2, _, h3⟩ => ⟨by rw [strip_st]; exact h1, by rw [strip_keys]; exact h2, fun z hz => by
    rw [strip_items] at hz
    obtain ⟨y, hy, rfl⟩ := List.mem_map.1 hz
    exact Sn.sm n (h3 y hy)⟩
theorem SnA.sm {B : Nat} {t : NV} (h : SnA B t) : SmA B t.strip := fun n => Sn.sm n (h n)
/-- a row of values of the call's own -/
def Own6 (B : Nat) (w : World) (v : Value) (l : List Six) : Prop := w.ownsRow B 62 6 v l.length (l.flatMap Six.cells)
theorem Own6.nil (w : World) (B : Nat) : Own6 B w (.slice none 0 0) [] := World.ownsRow_nil w B 62 6
theorem Own6.on {B : Nat} {w w' : World} {v : Value} {l : List Six} (h : Own6 B w v l) (hb : Below w.heap.size w w') : Own6 B w' v l := by
  obtain ⟨h0, h1⟩ := h
  refine ⟨h0, ?_⟩
  rcases h1 with h1 | ⟨g, cap, cur, h1, h2, h3, h4⟩
  · exact Or.inl h1
  · exact Or.inr ⟨g, cap, cur, h1, h2, (hb.block g (Array.getElem?_eq_some_iff.1 h3).1).trans h3, h4⟩
theorem Own6.set {B k : Nat} {w : World} {v : Value} {l : List Six} (h : Own6 B w v l) (i : Nat) (u : Value) (hk : k < B) : Own6 B (w.setCell ⟨k, i, none⟩ u) v l := by
  obtain ⟨h0, h1⟩ := h
  refine ⟨h0, ?_⟩
  rcases h1 with h1 | ⟨g, cap, cur, h1, h2, h3, h4⟩
  · exact Or.inl h1
  · refine Or.inr ⟨g, cap, cur, h1, h2, ?_, h4⟩
    rw [RowKit.Below.heap_setCell _ _ _ _ (by show g ≠ k; omega)]
    exact h3
/-- have a value's cells one cell's size? -/
def one6 (x : Six) : Prop := x.iv.oneCell' = true ∧ x.kv.oneCell' = true
theorem one_flat {l : List Six} (h : ∀ y ∈ l, one6 y) : ∀ u ∈ l.flatMap Six.cells, u.oneCell' = true := by
  intro u hu
  obtain ⟨y, hy, hu⟩ := List.mem_flatMap.1 hu
  obtain ⟨h1, h2⟩ := h y hy
  simp only [Six.cells, List.mem_cons, List.not_mem_nil, or_false] at hu
  rcases hu with rfl | rfl | rfl | rfl | rfl | rfl <;> first | rfl | assumption
theorem Own6.cs {B : Nat} {w : World} {v : Value} {l : List Six} (h : Own6 B w v l) (h1 : ∀ y ∈ l, one6 y) : Cs 6 w v l.length (l.flatMap Six.cells) := own_cs h (one_flat h1)
theorem Own6.vs {B : Nat} {w : World} {v : Value} {l : List Six} (h : Own6 B w v l) (h1 : ∀ y ∈ l, one6 y) : Vs w v l := (h.cs h1).vs rfl
theorem Own6.form {B : Nat} {w : World} {v : Value} {l : List Six} (h : Own6 B w v l) : ∃ ao cap, v = .slice ao l.length cap := by
  rcases h.2 with ⟨h1, h2⟩ | ⟨g, cap, cur, h1, _⟩
  · exact ⟨none, 0, by rw [h1, h2]⟩
  · exact ⟨_, cap, h1⟩
theorem Own6.inP {B : Nat} {w : World} {v : Value} {l : List Six} (h : Own6 B w v l) : InP (fun k => B ≤ k) v := by
  rcases h.2 with ⟨rfl, h2⟩ | ⟨g, cap, cur, rfl, hB, _⟩
  · exact InP.nil _
  · exact ⟨_, _, _, rfl, fun _ a ha => by obtain rfl := Option.some.inj ha; exact hB⟩
/-- one value is put behind a row of values of the call's own -/
theorem app6 {B : Nat} {w : World} {v : Value} {l : List Six} {y : Six} {b : Nat} (ty : TypeId) (h : Own6 B w v l) (hy : w.heap[b]? = some (.cells y.cells.toArray 62 (0, 0))) (h1 : one6 y) (hn : l.length ≤ 1000000000) (hB : B ≤ w.heap.size) :
    ∃ v' w', (Builtin.append_ #[60, 60] ty #[v, .slice (some ⟨b, 0, none⟩) 1 1]).run Try.prog w = .ok v' w' ∧ Own6 B w' v' (l ++ [y]) ∧ (∀ k, k < w.heap.size → v.ownBlock ≠ some k → w'.heap[k]? = w.heap[k]?) ∧ Below B w w' ∧ (v'.ownBlock = v.ownBlock ∨ v'.ownBlock = some w.heap.size) := by
  obtain ⟨i0, hi, hz0, hz1, hz2⟩ := info_parts infoV
  obtain ⟨v', w', hr, g1, g2, _, g4⟩ := run_append_own_at (P := Try.prog) w B 60 ty 62 i0 _ 6 88 Try.underlying60 hi hz0 hz1 hz2 rfl (by decide) v l.length _ h ⟨b, 0, none⟩ 1 1 y.cells rfl (fun j u hj => by
    rw [Go.WideShapes.add_plain, Nat.zero_add, cell_of_row w b j _ _ _ hy]
    simpa using hj) (fun u hu => one_flat (l := [y]) (fun z hz => by simp only [List.mem_singleton] at hz; rw [hz]; exact h1) u (by simpa using hu)) (by unfold maxLen; omega) (by omega) hB
  refine ⟨v', w', hr, ?_, fun k hk hne => g2.block k hk (fun e => hne e.symm), ⟨g2.os, g2.tape, g2.output, g2.size, fun k hk => g2.block k (by omega) (fun e => ?_)⟩, g4⟩
  · unfold Own6
    rw [List.length_append, List.flatMap_append]
    simpa using g1
  · have := (h.lt k e.symm).1
    omega
/-- texts are put behind no texts -/
theorem appK {w : World} {src : Value} {l : List ByteArray} (ty : TypeId) (hs : Ks w src l) (hn : l.length ≤ 100000000) :
    ∃ v' w', (Builtin.append_ #[25, 25] ty #[.slice none 0 0, src]).run Try.prog w = .ok v' w' ∧ Ks w' v' l ∧ InP (fun k => w.heap.size ≤ k) v' ∧ Below w.heap.size w w' := by
  obtain ⟨i0, hi, hz0, hz1, hz2⟩ := info_parts (show (Try.prog.info? 9).map (fun i => (i.zero, i.size, i.bytes)) = some (some (.string ⟨#[]⟩), 1, 16) by kernel_rfl)
  have h0 : w.ownsRow w.heap.size 9 1 (.slice none 0 0) 0 [] := World.ownsRow_nil _ _ _ _
  obtain ⟨ao, cap, rfl, hc, hm, hno, hat⟩ := hs
  cases ao with
  | none =>
    have hk := hno rfl
    subst hk
    obtain rfl : l = [] := List.length_eq_zero_iff.1 (by omega)
    exact ⟨_, w, run_append_owned_none (P := Try.prog) w w.heap.size 25 ty 9 i0 1 Try.underlying25 hi _ 0 _ h0, Ks.nil0 w, InP.nil _, Below.refl _ _⟩
  | some ad =>
    obtain ⟨v', w', hr, g1, g2, _⟩ := run_append_own (P := Try.prog) w w.heap.size 25 ty 9 i0 _ 1 16 Try.underlying25 hi hz0 hz1 hz2 rfl (by decide) _ 0 _ h0 ad l.length cap (l.map Value.string) (by simp) (fun j u hj => by
      rw [List.getElem?_map] at hj
      obtain ⟨s, hs, rfl⟩ := Option.map_eq_some_iff.1 hj
      obtain ⟨k, o, e, _, h⟩ := hat (by have := (List.getElem?_eq_some_iff.1 hs).1; omega)
      obtain rfl := Option.some.inj e
      rw [Go.WideShapes.add_plain]
      exact h j s hs) (fun u hu => by obtain ⟨s, _, rfl⟩ := List.mem_map.1 hu; rfl) (by unfold maxLen; omega) (by omega) (Nat.le_refl _)
    have g1' : w'.ownsRow w.heap.size 9 1 v' l.length (l.map Value.string) := by simpa using g1
    refine ⟨v', w', hr, ?_, ?_, g2.os, g2.tape, g2.output, g2.size, fun k hk => g2.block k hk (fun e => by cases e)⟩
    · rcases g1'.2 with ⟨rfl, h⟩ | ⟨g, cap', cur, rfl, hb, hg, h4, h5, h6, h7⟩
      · obtain rfl : l = [] := List.length_eq_zero_iff.1 h
        exact Ks.nil0 w'
      · refine ⟨_, cap', rfl, h4, h5, fun h => (by cases h), fun _ => ⟨g, 0, rfl, (Array.getElem?_eq_some_iff.1 hg).1, fun j s hj => ?_⟩⟩
        rw [Nat.zero_add]
        have := World.ownsRow.cells g1' (g := g) rfl j (.string s) (by rw [List.getElem?_map, hj]; rfl)
        rw [Go.WideShapes.add_plain, Nat.zero_add] at this
        exact this
    · rcases g1'.2 with ⟨rfl, h⟩ | ⟨g, cap', cur, rfl, hb, hg, _⟩
      · exact InP.nil _
      · exact ⟨_, _, _, rfl, fun _ a ha => by obtain rfl := Option.some.inj ha; exact hb⟩
end Nd
end Go.Proofs.Ytelladgeehlkpaa
