/- slices.Grow of nothing, slices.Concat of three rows: of values, of texts. -/
import Derived.Test.YtelladgeehlkpaaPj
import Derived.Lib.AppendZeros
import Derived.Laws.AppendOwnNone
import Derived.Deep.RegionWith
import Derived.Deep.Slices
import Derived.Deep.DeepCutAuto
import Derived.StillTailTactics
import Derived.IntWalk
namespace Go.Proofs.Ytelladgeehlkpaa
open Go.RowKit
namespace Jv
open _root_.Go.Proofs.Ytelladgeehlkpaa.Nm
/-- a slice that reads as so many elements of sz cells each -/
def Cs (sz : Nat) (w : World) (v : Value) (n : Nat) (cs : List Value) : Prop :=
  cs.length = n * sz ∧ (∀ u ∈ cs, u.oneCell' = true) ∧ ∃ ao cap, v = .slice ao n cap ∧ n ≤ cap ∧ cap ≤ maxLen ∧ (ao = none → n = 0 ∧ cap = 0) ∧ ∀ a, ao = some a → (∀ j u, cs[j]? = some u → w.cell? (a.add j) = some u) ∧ (0 < n → a.block < w.heap.size)
theorem Cs.on {sz n : Nat} {a b : World} {v : Value} {cs : List Value} (h : Cs sz a v n cs) (hb : Below a.heap.size a b) : Cs sz b v n cs := by
  obtain ⟨h1, h2, ao, cap, h3, h4, h5, h6, h7⟩ := h
  refine ⟨h1, h2, ao, cap, h3, h4, h5, h6, fun d hd => ⟨fun j u hj => ?_, fun hn => Nat.lt_of_lt_of_le ((h7 d hd).2 hn) hb.size⟩⟩
  have hlt := World.block_lt_of_cell? a _ ((h7 d hd).1 j u hj)
  exact (hb.cell hlt).trans ((h7 d hd).1 j u hj)
theorem add_at (k o j : Nat) : (⟨k, o, none⟩ : Addr).add j = ⟨k, o + j, none⟩ := by simp [Addr.add]
theorem own_cs {sz n B : Nat} {e : TypeId} {w : World} {v : Value} {cs : List Value} (h : w.ownsRow B e sz v n cs) (h1 : ∀ u ∈ cs, u.oneCell' = true) : Cs sz w v n cs := by
  rcases h.2 with ⟨rfl, rfl⟩ | ⟨g, cap, cur, rfl, hb, hg, hn, hc, hs, ht⟩
  · exact ⟨h.1, h1, none, 0, rfl, Nat.le_refl _, by decide, fun _ => ⟨rfl, rfl⟩, fun a ha => by cases ha⟩
  · refine ⟨h.1, h1, _, cap, rfl, hn, hc, fun h => (by cases h), fun a ha => ?_⟩
    obtain rfl := Option.some.inj ha
    exact ⟨World.ownsRow.cells h rfl, fun _ => (Array.getElem?_eq_some_iff.1 hg).1⟩
theorem Cs.nilS {sz n cap : Nat} {w : World} {cs : List Value} (h : Cs sz w (.slice none n cap) n cs) : n = 0 ∧ cap = 0 ∧ cs = [] := by
  obtain ⟨p1, _, ao, cp, p2, _, _, p3, _⟩ := h
  injection p2 with p4 p5 p6
  obtain ⟨p7, p8⟩ := p3 p4.symm
  exact ⟨p7, by omega, List.length_eq_zero_iff.1 (by rw [p1, p7, Nat.zero_mul])⟩
theorem Cs.at {sz n cap : Nat} {w : World} {cs : List Value} {ad : Addr} (h : Cs sz w (.slice (some ad) n cap) n cs) : ∀ j u, cs[j]? = some u → w.cell? (ad.add j) = some u := by
  obtain ⟨p1, _, ao, cp, p2, _, _, p3, p9⟩ := h
  injection p2 with p4 p5 p6
  exact (p9 ad p4.symm).1
/-- a slice that stands in blocks from B on -/
def AtNew (B : Nat) (v : Value) : Prop := ∃ ao n c, v = .slice ao n c ∧ ∀ a, ao = some a → B ≤ a.block
theorem AtNew.mono {A B : Nat} {v : Value} (h : AtNew B v) (hA : A ≤ B) : AtNew A v := by
  obtain ⟨ao, n, c, h1, h2⟩ := h
  exact ⟨ao, n, c, h1, fun a ha => Nat.le_trans hA (h2 a ha)⟩
theorem own_new {sz n B : Nat} {e : TypeId} {w : World} {v : Value} {cs : List Value} (h : w.ownsRow B e sz v n cs) : AtNew B v := by
  rcases h.2 with ⟨rfl, rfl⟩ | ⟨g, cap, cur, rfl, hb, hg, hn, hc, hs, ht⟩
  · exact ⟨none, 0, 0, rfl, fun a h => by cases h⟩
  · exact ⟨_, n, cap, rfl, fun a h => by obtain rfl := Option.some.inj h; exact hb⟩
/-- what a grown row leaves of what was there -/
theorem own_bel {sz n B : Nat} {e : TypeId} {w a b : World} {v : Value} {cs : List Value} (h : Below w.heap.size w a) (ho : a.ownsRow B e sz v n cs) (hB : w.heap.size ≤ B) (hg : a.grownBy b v.ownBlock) : Below w.heap.size w b :=
  h.grown hg h.size (fun p hp => Nat.le_trans hB (World.ownsRow.lt ho p hp).1)
set_option maxRecDepth 100000 in
theorem infoV : (Try.prog.info? 62).map (fun i => (i.zero, i.size, i.bytes)) = some (some (.agg #[.int .i64 0, .int .i64 0, .int .i64 0, .string ⟨#[]⟩, .slice none 0 0, .slice none 0 0]), 6, 88) := by kernel_rfl
theorem infoS : (Try.prog.info? 9).map (fun i => (i.zero, i.size, i.bytes)) = some (some (.string ⟨#[]⟩), 1, 16) := by kernel_rfl
end Jv
end Go.Proofs.Ytelladgeehlkpaa
namespace Go.Proofs.Ytelladgeehlkpaa
open Go.RowKit
namespace Jv
open _root_.Go.Proofs.Ytelladgeehlkpaa.Nm
/-- do a value's items and keys stand in slices? -/
def Six.one (x : Six) : Prop := (∃ a n c, x.iv = .slice a n c) ∧ ∃ a n c, x.kv = .slice a n c
theorem Six.one_cells {x : Six} (h : x.one) : ∀ u ∈ x.cells, u.oneCell' = true := by
  obtain ⟨⟨a, n, c, h1⟩, a', n', c', h2⟩ := h
  intro u hu
  simp only [Six.cells, List.mem_cons, List.not_mem_nil, or_false] at hu
  rcases hu with rfl | rfl | rfl | rfl | rfl | rfl
  · rfl
  · rfl
  · rfl
  · rfl
  · rw [h1]; rfl
  · rw [h2]; rfl
end Jv
end Go.Proofs.Ytelladgeehlkpaa
namespace Go.Proofs.Ytelladgeehlkpaa
open Go.RowKit
namespace Jv
open _root_.Go.Proofs.Ytelladgeehlkpaa.Nm
theorem Vs.cs {w : World} {v : Value} {l : List Six} (h : Vs w v l) (h1 : ∀ x ∈ l, x.one) : Cs 6 w v l.length (l.flatMap Six.cells) := by
  obtain ⟨ao, cap, rfl, hc, hm, hn, h⟩ := h
  have hlen : ∀ l : List Six, (l.flatMap Six.cells).length = l.length * 6 := fun l => by
    induction l with
    | nil => rfl
    | cons x l ih => rw [List.flatMap_cons, List.length_append, ih, Six.cells_len, List.length_cons]; omega
  have hget : ∀ (l : List Six) (p : Nat) (u : Value), (l.flatMap Six.cells)[p]? = some u → ∃ x, l[p / 6]? = some x ∧ x.cells[p % 6]? = some u := fun l => by
    induction l with
    | nil => intro p u h; simp at h
    | cons x l ih =>
      intro p u h
      rw [List.flatMap_cons] at h
      by_cases hp : p < 6
      · rw [List.getElem?_append_left (by rw [Six.cells_len]; exact hp)] at h
        exact ⟨x, by rw [Nat.div_eq_of_lt hp]; rfl, by rw [Nat.mod_eq_of_lt hp]; exact h⟩
      · rw [List.getElem?_append_right (by rw [Six.cells_len]; omega), Six.cells_len] at h
        obtain ⟨y, h1, h2⟩ := ih (p - 6) u h
        refine ⟨y, ?_, by rw [show p % 6 = (p - 6) % 6 by omega]; exact h2⟩
        rw [show p / 6 = (p - 6) / 6 + 1 by omega, List.getElem?_cons_succ]
        exact h1
  refine ⟨hlen l, fun u hu => ?_, ao, cap, rfl, hc, hm, fun e => ⟨by have := hn e; omega, hn e⟩, fun a ha => ⟨fun p u hp => ?_, fun h0 => ?_⟩⟩
  · obtain ⟨x, hx, hux⟩ := List.mem_flatMap.1 hu
    exact Six.one_cells (h1 x hx) u hux
  · obtain ⟨x, hx, hux⟩ := hget l p u hp
    have hlt := (List.getElem?_eq_some_iff.1 hx).1
    obtain ⟨k, o, rfl, _, hcl⟩ := h (by omega)
    obtain rfl := Option.some.inj ha
    obtain ⟨c0, c1, c2, c3, c4, c5⟩ := hcl _ x hx
    rw [add_at]
    have hm6 := Nat.mod_lt p (show 0 < 6 by decide)
    have e : o + p = o + p / 6 * 6 + p % 6 := by omega
    rw [e]
    generalize p % 6 = q at hux hm6
    match q, hm6, hux with
    | 0, _, hux => rw [← hux]; exact c0
    | 1, _, hux => rw [← hux]; exact c1
    | 2, _, hux => rw [← hux]; exact c2
    | 3, _, hux => rw [← hux]; exact c3
    | 4, _, hux => rw [← hux]; exact c4
    | 5, _, hux => rw [← hux]; exact c5
  · obtain ⟨k, o, rfl, hk, _⟩ := h h0
    obtain rfl := Option.some.inj ha
    exact hk
theorem Cs.vs {w : World} {v : Value} {n : Nat} {l : List Six} (h : Cs 6 w v n (l.flatMap Six.cells)) (hn : n = l.length) : Vs w v l := by
  subst hn
  obtain ⟨h1, _, ao, cap, rfl, hc, hm, hno, h⟩ := h
  refine ⟨ao, cap, rfl, hc, hm, fun e => (hno e).2, fun h0 => ?_⟩
  cases ao with
  | none => have := (hno rfl).1; omega
  | some a =>
    obtain ⟨hcl, hb⟩ := h a rfl
    have hat : ∀ (l' : List Six) (j : Nat) (x : Six) (p : Nat) (u : Value), l'[j]? = some x → x.cells[p]? = some u → (l'.flatMap Six.cells)[j * 6 + p]? = some u := fun l' => by
      induction l' with
      | nil => intro j x p u h; simp at h
      | cons y l' ih =>
        intro j x p u hj hp
        have hp6 : p < 6 := by have := (List.getElem?_eq_some_iff.1 hp).1; rwa [Six.cells_len] at this
        rw [List.flatMap_cons]
        cases j with
        | zero =>
          obtain rfl : y = x := by simpa using hj
          rw [List.getElem?_append_left (by rw [Six.cells_len]; omega), Nat.zero_mul, Nat.zero_add]
          exact hp
        | succ j =>
          rw [List.getElem?_append_right (by rw [Six.cells_len]; omega), Six.cells_len, show (j + 1) * 6 + p - 6 = j * 6 + p by omega]
          exact ih j x p u (by simpa using hj) hp
    obtain ⟨x0, hx0⟩ : ∃ x, l[0]? = some x := ⟨_, List.getElem?_eq_getElem h0⟩
    have hc0 := hcl _ _ (hat l 0 x0 0 _ hx0 rfl)
    obtain ⟨k, o, spot⟩ := a
    have hspot : spot = none := by simpa [Addr.add] using World.cell?_spot hc0
    subst hspot
    refine ⟨k, o, rfl, hb h0, fun j x hx => ?_⟩
    have e : ∀ p, (⟨k, o, none⟩ : Addr).add (j * 6 + p) = ⟨k, o + j * 6 + p, none⟩ := fun p => by rw [add_at, Nat.add_assoc]
    have g := fun p u hp => (e p) ▸ hcl (j * 6 + p) u (hat l j x p u hx hp)
    exact ⟨g 0 _ rfl, g 1 _ rfl, g 2 _ rfl, g 3 _ rfl, g 4 _ rfl, g 5 _ rfl⟩
theorem Ks.cs {w : World} {v : Value} {l : List ByteArray} (h : Ks w v l) : Cs 1 w v l.length (l.map Value.string) := by
  obtain ⟨ao, cap, rfl, hc, hm, hn, h⟩ := h
  refine ⟨by simp, fun u hu => ?_, ao, cap, rfl, hc, hm, fun e => ⟨by have := hn e; omega, hn e⟩, fun a ha => ⟨fun p u hp => ?_, fun h0 => ?_⟩⟩
  · obtain ⟨x, _, rfl⟩ := List.mem_map.1 hu
    rfl
  · rw [List.getElem?_map, Option.map_eq_some_iff] at hp
    obtain ⟨x, hx, rfl⟩ := hp
    have hlt := (List.getElem?_eq_some_iff.1 hx).1
    obtain ⟨k, o, rfl, _, hcl⟩ := h (by omega)
    obtain rfl := Option.some.inj ha
    rw [add_at]
    exact hcl p x hx
  · obtain ⟨k, o, rfl, hk, _⟩ := h h0
    obtain rfl := Option.some.inj ha
    exact hk
theorem Cs.ks {w : World} {v : Value} {n : Nat} {l : List ByteArray} (h : Cs 1 w v n (l.map Value.string)) (hn : n = l.length) : Ks w v l := by
  subst hn
  obtain ⟨h1, _, ao, cap, rfl, hc, hm, hno, h⟩ := h
  refine ⟨ao, cap, rfl, hc, hm, fun e => (hno e).2, fun h0 => ?_⟩
  cases ao with
  | none => have := (hno rfl).1; omega
  | some a =>
    obtain ⟨hcl, hb⟩ := h a rfl
    have hc0 := hcl 0 (.string l[0]) (by rw [List.getElem?_map, List.getElem?_eq_getElem h0]; rfl)
    obtain ⟨k, o, spot⟩ := a
    have hspot : spot = none := by simpa [Addr.add] using World.cell?_spot hc0
    subst hspot
    refine ⟨k, o, rfl, hb h0, fun j x hx => ?_⟩
    have := hcl j (.string x) (by rw [List.getElem?_map, hx]; rfl)
    rwa [add_at] at this
/-- a beginning of a slice -/
theorem Cs.pre {sz n cap i : Nat} {w : World} {ao : Option Addr} {cs : List Value} (h : Cs sz w (.slice ao n cap) n cs) (hi : i ≤ n) (hno : ao = none → i = 0) : Cs sz w (.slice ao i cap) i (cs.take (i * sz)) := by
  obtain ⟨h1, h2, ao', cap', e, hc, hm, hn, h⟩ := h
  injection e with e1 e2 e3
  subst e1 e3
  have := Nat.mul_le_mul_right sz hi
  refine ⟨by rw [List.length_take, h1]; omega, fun u hu => h2 u (List.mem_of_mem_take hu), ao, cap, rfl, by omega, hm, fun e => ⟨hno e, (hn e).2⟩, fun a ha => ⟨fun j u hj => ?_, fun h0 => (h a ha).2 (by omega)⟩⟩
  rw [List.getElem?_take] at hj
  split at hj
  · exact (h a ha).1 j u hj
  · cases hj
/-- an end of a slice -/
theorem Cs.suf {sz n cap i : Nat} {w : World} {a : Addr} {cs : List Value} (h : Cs sz w (.slice (some a) n cap) n cs) (hi : i ≤ n) : Cs sz w (.slice (some (a.add (i * sz))) (n - i) (cap - i)) (n - i) (cs.drop (i * sz)) := by
  obtain ⟨h1, h2, ao', cap', e, hc, hm, hn, h⟩ := h
  injection e with e1 e2 e3
  subst e1 e3
  refine ⟨by rw [List.length_drop, h1, Nat.sub_mul], fun u hu => h2 u (List.mem_of_mem_drop hu), _, _, rfl, by omega, by omega, fun e => (by cases e), fun b hb => ?_⟩
  obtain rfl := Option.some.inj hb
  refine ⟨fun j u hj => ?_, fun h0 => ?_⟩
  · rw [List.getElem?_drop] at hj
    have := (h a rfl).1 _ u hj
    rw [Deep.add_add]
    exact this
  · have := (h a rfl).2 (by omega)
    unfold Addr.add
    split <;> exact this
end Jv
end Go.Proofs.Ytelladgeehlkpaa
namespace Go.Proofs.Ytelladgeehlkpaa
open Go.RowKit
namespace Jv
open _root_.Go.Proofs.Ytelladgeehlkpaa.Nm
/-- nothing -/
def six0 : Six := ⟨0, 0, 0, ⟨#[]⟩, .slice none 0 0, .slice none 0 0⟩
/-- what a key has -/
def gotS (x : Six) (keys : List ByteArray) (its : List Six) (key : ByteArray) : Six × Bool :=
  if x.k = 6 ∧ keys.length = its.length then (match its[(idx keys key).toNat]? with | some y => if 0 ≤ idx keys key then (y, true) else (six0, false) | none => (six0, false)) else (six0, false)
theorem idx_cases (l : List ByteArray) (key : ByteArray) : (idx l key = -1 ∧ key ∉ l) ∨ ∃ i : Nat, idx l key = i ∧ i < l.length ∧ l[i]? = some key ∧ ∀ j, j < i → l[j]? ≠ some key := by
  unfold idx
  cases h : l.findIdx? (fun x => decide (key = x)) with
  | none =>
    left
    refine ⟨rfl, fun hm => ?_⟩
    have := List.findIdx?_eq_none_iff.1 h key hm
    simp at this
  | some i =>
    right
    obtain ⟨h1, h2, h3⟩ := List.findIdx?_eq_some_iff_getElem.1 h
    have h2 := of_decide_eq_true h2
    refine ⟨i, rfl, h1, by rw [List.getElem?_eq_getElem h1, ← h2], fun j hj e => ?_⟩
    have h4 := h3 j hj
    rw [List.getElem?_eq_getElem (by omega)] at e
    rw [Option.some.inj e] at h4
    simp at h4
end Jv
end Go.Proofs.Ytelladgeehlkpaa
namespace Go.Proofs.Ytelladgeehlkpaa
open Go.RowKit
namespace Jv
open _root_.Go.Proofs.Ytelladgeehlkpaa.Nm
/-- the keys behind Put -/
def putK (keys : List ByteArray) (key : ByteArray) : List ByteArray := if 0 ≤ idx keys key then keys else keys.take (plc keys key) ++ ([key] ++ keys.drop (plc keys key))
/-- the items behind Put -/
def putI {α : Type} (keys : List ByteArray) (its : List α) (key : ByteArray) (v : α) : List α :=
  if 0 ≤ idx keys key then its.take (idx keys key).toNat ++ ([v] ++ its.drop ((idx keys key).toNat + 1)) else its.take (plc keys key) ++ ([v] ++ its.drop (plc keys key))
theorem plc_le (l : List ByteArray) (key : ByteArray) : plc l key ≤ l.length := by
  unfold plc
  cases h : l.findIdx? (fun x => gtB x key) with
  | none => exact Nat.le_refl _
  | some i => have := (List.findIdx?_eq_some_iff_getElem.1 h).1; exact Nat.le_of_lt this
theorem flat_len (l : List Six) : (l.flatMap Six.cells).length = l.length * 6 := by
  induction l with
  | nil => rfl
  | cons x l ih => rw [List.flatMap_cons, List.length_append, ih, Six.cells_len, List.length_cons]; omega
theorem flat_take (l : List Six) (i : Nat) : (l.flatMap Six.cells).take (i * 6) = (l.take i).flatMap Six.cells := by
  induction l generalizing i with
  | nil => simp
  | cons x l ih =>
    cases i with
    | zero => simp
    | succ i =>
      rw [List.flatMap_cons, List.take_succ_cons, List.flatMap_cons, ← ih i, List.take_append, Six.cells_len, List.take_of_length_le (by rw [Six.cells_len]; omega), show (i + 1) * 6 - 6 = i * 6 by omega]
theorem flat_drop (l : List Six) (i : Nat) : (l.flatMap Six.cells).drop (i * 6) = (l.drop i).flatMap Six.cells := by
  induction l generalizing i with
  | nil => simp
  | cons x l ih =>
    cases i with
    | zero => simp
    | succ i =>
      rw [List.flatMap_cons, List.drop_succ_cons, ← ih i, List.drop_append, Six.cells_len, List.drop_eq_nil_of_le (by rw [Six.cells_len]; omega), show (i + 1) * 6 - 6 = i * 6 by omega]
      rfl
theorem Cs.zero (w : World) (a : Addr) (sz : Nat) : Cs sz w (.slice (some a) 0 0) 0 [] :=
  ⟨by simp, fun u hu => by simp at hu, _, 0, rfl, Nat.le_refl _, by decide, fun e => (by cases e), fun b _ => ⟨fun j u h => by simp at h, fun h => absurd h (by omega)⟩⟩
theorem Vs.form' {w : World} {v : Value} {l : List Six} (h : Vs w v l) : ∃ a n c, v = .slice a n c := by
  obtain ⟨ao, cap, h1, _⟩ := h
  exact ⟨ao, _, cap, h1⟩
theorem Ks.form' {w : World} {v : Value} {l : List ByteArray} (h : Ks w v l) : ∃ a n c, v = .slice a n c := by
  obtain ⟨ao, cap, h1, _⟩ := h
  exact ⟨ao, _, cap, h1⟩
theorem At6.blk {a b : World} {k p : Nat} {x : Six} (h : At6 a k p x) (he : b.heap[k]? = a.heap[k]?) : At6 b k p x := by
  obtain ⟨h0, h1, h2, h3, h4, h5⟩ := h
  exact ⟨(World.cell?_of_block (a := ⟨k, _, none⟩) he).trans h0, (World.cell?_of_block (a := ⟨k, _, none⟩) he).trans h1, (World.cell?_of_block (a := ⟨k, _, none⟩) he).trans h2, (World.cell?_of_block (a := ⟨k, _, none⟩) he).trans h3, (World.cell?_of_block (a := ⟨k, _, none⟩) he).trans h4, (World.cell?_of_block (a := ⟨k, _, none⟩) he).trans h5⟩
theorem heap_far {w : World} {k k' : Nat} (hk : k ≠ k') (i : Nat) (u : Value) : (w.setCell ⟨k', i, none⟩ u).heap[k]? = w.heap[k]? := by
  simp only [World.setCell, Array.getElem?_modify]
  rw [if_neg (by omega)]
theorem heap_far6 {w : World} {k k' : Nat} (hk : k ≠ k') (u0 u1 u2 u3 u4 u5 : Value) : ((((((w.setCell ⟨k', 0, none⟩ u0).setCell ⟨k', 1, none⟩ u1).setCell ⟨k', 2, none⟩ u2).setCell ⟨k', 3, none⟩ u3).setCell ⟨k', 4, none⟩ u4).setCell ⟨k', 5, none⟩ u5).heap[k]? = w.heap[k]? := by
  rw [heap_far hk, heap_far hk, heap_far hk, heap_far hk, heap_far hk, heap_far hk]
/-- a row of values stands where its own block does -/
theorem Vs.on0 {a b : World} {v : Value} {l : List Six} {B : Nat} (h : Vs a v l) (hn : AtNew B v) (hb : ∀ k, B ≤ k → b.heap[k]? = a.heap[k]?) (hs : a.heap.size ≤ b.heap.size) : Vs b v l := by
  obtain ⟨ao, cap, h1, h2, h3, h4, h⟩ := h
  obtain ⟨ao', n', c', h6, h7⟩ := hn
  refine ⟨ao, cap, h1, h2, h3, h4, fun h0 => ?_⟩
  obtain ⟨k, o, h5, hk, h⟩ := h h0
  rw [h1] at h6
  injection h6 with h6
  exact ⟨k, o, h5, by omega, fun j d hj => (h j d hj).blk (hb k (h7 ⟨k, o, none⟩ (h6 ▸ h5)))⟩
theorem Ks.on0 {a b : World} {v : Value} {l : List ByteArray} {B : Nat} (h : Ks a v l) (hn : AtNew B v) (hb : ∀ k, B ≤ k → b.heap[k]? = a.heap[k]?) (hs : a.heap.size ≤ b.heap.size) : Ks b v l := by
  obtain ⟨ao, cap, h1, h2, h3, h4, h⟩ := h
  obtain ⟨ao', n', c', h6, h7⟩ := hn
  refine ⟨ao, cap, h1, h2, h3, h4, fun h0 => ?_⟩
  obtain ⟨k, o, h5, hk, h⟩ := h h0
  rw [h1] at h6
  injection h6 with h6
  exact ⟨k, o, h5, by omega, fun j d hj => (World.cell?_of_block (a := ⟨k, o + j, none⟩) (hb k (h7 ⟨k, o, none⟩ (h6 ▸ h5)))).trans (h j d hj)⟩
theorem Vb.far {w : World} {k k' : Nat} {cs : Array Value} (h : Vb w k cs) (hk : k ≠ k') (i : Nat) (u : Value) : Vb (w.setCell ⟨k', i, none⟩ u) k cs := by
  unfold Vb at h ⊢
  rw [heap_far hk]
  exact h
end Jv
end Go.Proofs.Ytelladgeehlkpaa
namespace Go.Proofs.Ytelladgeehlkpaa
open Go.RowKit
namespace Jv
open _root_.Go.Proofs.Ytelladgeehlkpaa.Nm
theorem bl_irrefl : ∀ x : List UInt8, Op.bytesLess x x = false
  | [] => by simp [Op.bytesLess]
  | a :: x => by simp [Op.bytesLess, bl_irrefl x]
theorem bl_trans : ∀ x y z : List UInt8, Op.bytesLess x y = true → Op.bytesLess y z = true → Op.bytesLess x z = true
  | [], [], _, h, _ => by simp [Op.bytesLess] at h
  | [], _ :: _, [], _, h => by simp [Op.bytesLess] at h
  | [], _ :: _, _ :: _, _, _ => by simp [Op.bytesLess]
  | _ :: _, [], _, h, _ => by simp [Op.bytesLess] at h
  | _ :: _, _ :: _, [], _, h => by simp [Op.bytesLess] at h
  | a :: x, b :: y, c :: z, h1, h2 => by
    simp only [Op.bytesLess, Bool.or_eq_true, Bool.and_eq_true, decide_eq_true_eq, beq_iff_eq] at h1 h2 ⊢
    rcases h1 with h1 | ⟨rfl, h1⟩
    · rcases h2 with h2 | ⟨rfl, h2⟩
      · exact Or.inl (UInt8.lt_trans h1 h2)
      · exact Or.inl h1
    · rcases h2 with h2 | ⟨rfl, h2⟩
      · exact Or.inl h2
      · exact Or.inr ⟨rfl, bl_trans x y z h1 h2⟩
theorem bl_total : ∀ x y : List UInt8, Op.bytesLess x y = true ∨ x = y ∨ Op.bytesLess y x = true
  | [], [] => Or.inr (Or.inl rfl)
  | [], _ :: _ => Or.inl (by simp [Op.bytesLess])
  | _ :: _, [] => Or.inr (Or.inr (by simp [Op.bytesLess]))
  | a :: x, b :: y => by
    simp only [Op.bytesLess, Bool.or_eq_true, Bool.and_eq_true, decide_eq_true_eq, beq_iff_eq, List.cons.injEq]
    rcases UInt8.lt_or_lt_of_ne (a := a) (b := b) |> fun h => Classical.em (a = b) with rfl | hne
    · rcases bl_total x y with h | rfl | h
      · exact Or.inl (Or.inr ⟨rfl, h⟩)
      · exact Or.inr (Or.inl ⟨rfl, rfl⟩)
      · exact Or.inr (Or.inr (Or.inr ⟨rfl, h⟩))
    · rcases UInt8.lt_or_lt_of_ne hne with h | h
      · exact Or.inl (Or.inl h)
      · exact Or.inr (Or.inr (Or.inl h))
/-- is a text below another one? -/
def ltB (x y : ByteArray) : Bool := Op.bytesLess x.toList y.toList
/-- is a text below another one, or it? -/
def leB (x y : ByteArray) : Bool := Op.bytesLess x.toList y.toList || x.toList == y.toList
theorem ltB_irrefl (x : ByteArray) : ltB x x = false := bl_irrefl _
theorem ltB_trans {x y z : ByteArray} (h : ltB x y = true) (h' : ltB y z = true) : ltB x z = true := bl_trans _ _ _ h h'
theorem toList_inj {a b : ByteArray} (h : a.toList = b.toList) : a = b := by
  rw [Lib.toList_data, Lib.toList_data] at h
  exact ByteArray.ext (Array.toList_inj.1 h)
theorem ltB_total {x y : ByteArray} (h : x ≠ y) : ltB x y = true ∨ ltB y x = true := by
  rcases bl_total x.toList y.toList with h1 | h1 | h1
  · exact Or.inl h1
  · exact absurd (toList_inj h1) h
  · exact Or.inr h1
theorem ltB_ne {x y : ByteArray} (h : ltB x y = true) : x ≠ y := by rintro rfl; rw [ltB_irrefl] at h; cases h
theorem ltB_asymm {x y : ByteArray} (h : ltB x y = true) : ltB y x = false := by
  cases h' : ltB y x with
  | false => rfl
  | true => have := ltB_trans h h'; rw [ltB_irrefl] at this; cases this
theorem leB_no {x y : ByteArray} : leB x y = false ↔ ltB y x = true := by
  constructor
  · intro h
    unfold leB at h
    rw [Bool.or_eq_false_iff] at h
    have hne : x ≠ y := by rintro rfl; simp at h
    rcases ltB_total hne with h1 | h1
    · rw [ltB, h.1] at h1; cases h1
    · exact h1
  · intro h
    have h1 := ltB_asymm h
    have h2 := str_ne (ltB_ne h).symm
    unfold leB
    rw [h2, Bool.or_false]
    exact h1
theorem gtB_is (x y : ByteArray) : gtB x y = ltB y x := by
  have : gtB x y = !leB x y := rfl
  rw [this]
  cases h : ltB y x with
  | true => rw [leB_no.2 h]; rfl
  | false =>
    cases h' : leB x y with
    | true => rfl
    | false => rw [leB_no.1 h'] at h; cases h
/-- do keys rise? -/
def Up (K : List ByteArray) : Prop := K.Pairwise fun a b => ltB a b = true
/-- do keys rise, as a loop looks at it? -/
theorem up_of {K : List ByteArray} (h : ∀ i a b, K[i]? = some a → K[i + 1]? = some b → leB b a = false) : Up K := by
  induction K with
  | nil => exact List.Pairwise.nil
  | cons x K ih =>
    have hK : Up K := ih fun i a b ha hb => h (i + 1) a b (by simpa using ha) (by simpa using hb)
    refine List.Pairwise.cons ?_ hK
    intro y hy
    cases K with
    | nil => simp at hy
    | cons z K =>
      have hz := leB_no.1 (h 0 x z rfl rfl)
      rcases List.mem_cons.1 hy with rfl | hy
      · exact hz
      · exact ltB_trans hz ((List.pairwise_cons.1 hK).1 y hy)
theorem up_at {K : List ByteArray} (h : Up K) {i j : Nat} {a b : ByteArray} (hij : i < j) (ha : K[i]? = some a) (hb : K[j]? = some b) : ltB a b = true := by
  obtain ⟨h1, rfl⟩ := List.getElem?_eq_some_iff.1 ha
  obtain ⟨h2, rfl⟩ := List.getElem?_eq_some_iff.1 hb
  exact List.pairwise_iff_getElem.1 h i j h1 h2 hij
theorem up_next {K : List ByteArray} (h : Up K) {i : Nat} {a b : ByteArray} (ha : K[i]? = some a) (hb : K[i + 1]? = some b) : leB b a = false := leB_no.2 (up_at h (by omega) ha hb)
theorem idx_up {K : List ByteArray} (h : Up K) {i : Nat} {a : ByteArray} (ha : K[i]? = some a) : idx K a = i :=
  idx_at ha fun j s hj hs e => by have := up_at h hj hs ha; rw [e, ltB_irrefl] at this; cases this
/-- two lists by rising keys with the same members are the same -/
theorem up_ext {α : Type} : ∀ {L M : List (ByteArray × α)}, L.Pairwise (fun a b => ltB a.1 b.1 = true) → M.Pairwise (fun a b => ltB a.1 b.1 = true) → (∀ p, p ∈ L ↔ p ∈ M) → L = M
  | [], [], _, _, _ => rfl
  | [], b :: M, _, _, h => absurd ((h b).2 List.mem_cons_self) (by simp)
  | a :: L, [], _, _, h => absurd ((h a).1 List.mem_cons_self) (by simp)
  | a :: L, b :: M, h1, h2, h => by
    obtain ⟨p1, q1⟩ := List.pairwise_cons.1 h1
    obtain ⟨p2, q2⟩ := List.pairwise_cons.1 h2
    have e : a = b := by
      rcases List.mem_cons.1 ((h a).1 List.mem_cons_self) with e | e
      · exact e
      · rcases List.mem_cons.1 ((h b).2 List.mem_cons_self) with e' | e'
        · exact e'.symm
        · have := ltB_trans (p2 _ e) (p1 _ e'); rw [ltB_irrefl] at this; cases this
    subst e
    rw [up_ext q1 q2 fun p => ?_]
    constructor
    · intro hp
      rcases List.mem_cons.1 ((h p).1 (List.mem_cons_of_mem _ hp)) with e | e
      · subst e; have := p1 _ hp; rw [ltB_irrefl] at this; cases this
      · exact e
    · intro hp
      rcases List.mem_cons.1 ((h p).2 (List.mem_cons_of_mem _ hp)) with e | e
      · subst e; have := p2 _ hp; rw [ltB_irrefl] at this; cases this
      · exact e
theorem zip_up {α : Type} : ∀ {K : List ByteArray} {I : List α}, Up K → (K.zip I).Pairwise (fun a b => ltB a.1 b.1 = true)
  | [], _, _ => by simp
  | _ :: _, [], _ => by simp
  | k :: K, i :: I, h => by
    obtain ⟨h1, h2⟩ := List.pairwise_cons.1 h
    rw [List.zip_cons_cons]
    exact List.Pairwise.cons (fun p hp => h1 _ (List.of_mem_zip hp).1) (zip_up h2)
theorem zip_inj {α : Type} : ∀ {K K' : List ByteArray} {I I' : List α}, K.length = I.length → K'.length = I'.length → K.zip I = K'.zip I' → K = K' ∧ I = I'
  | [], [], [], [], _, _, _ => ⟨rfl, rfl⟩
  | _ :: _, [], _ :: _, [], _, _, h => by simp at h
  | [], _ :: _, [], _ :: _, _, _, h => by simp at h
  | k :: K, k' :: K', i :: I, i' :: I', h1, h2, h => by
    simp only [List.zip_cons_cons, List.cons.injEq, Prod.mk.injEq] at h
    obtain ⟨rfl, rfl⟩ := zip_inj (by simpa using h1) (by simpa using h2) h.2
    exact ⟨by rw [h.1.1], by rw [h.1.2]⟩
theorem plc_up {K : List ByteArray} {key : ByteArray} (h : Up K) (hk : key ∉ K) : (∀ x ∈ K.take (plc K key), ltB x key = true) ∧ ∀ x ∈ K.drop (plc K key), ltB key x = true := by
  have hsp : ∀ x ∈ K, ltB key x = false → ltB x key = true := fun x hx h => by
    rcases ltB_total (x := x) (y := key) (by rintro rfl; exact hk hx) with h1 | h1
    · exact h1
    · rw [h] at h1; cases h1
  unfold plc
  cases hf : K.findIdx? (fun x => gtB x key) with
  | none =>
    rw [Option.getD_none]
    refine ⟨fun x hx => ?_, fun x hx => by simp at hx⟩
    have hx := List.mem_of_mem_take hx
    have := List.findIdx?_eq_none_iff.1 hf x hx
    rw [gtB_is] at this
    exact hsp x hx this
  | some i =>
    rw [Option.getD_some]
    obtain ⟨hi, h1, h2⟩ := List.findIdx?_eq_some_iff_getElem.1 hf
    rw [gtB_is] at h1
    refine ⟨fun x hx => ?_, fun x hx => ?_⟩
    · obtain ⟨j, hj, e⟩ := List.getElem_of_mem hx
      rw [List.length_take] at hj
      rw [List.getElem_take] at e
      have := h2 j (by omega)
      rw [e, gtB_is] at this
      exact hsp x (List.mem_of_mem_take hx) (by simpa using this)
    · obtain ⟨j, hj, e⟩ := List.getElem_of_mem hx
      rw [List.length_drop] at hj
      rw [List.getElem_drop] at e
      cases j with
      | zero => rw [← e]; exact h1
      | succ j => exact ltB_trans h1 (up_at h (i := i) (j := i + (j + 1)) (by omega) (List.getElem?_eq_getElem hi) (by rw [List.getElem?_eq_getElem (by omega), e]))
theorem putK_up {K : List ByteArray} {key : ByteArray} (h : Up K) : Up (putK K key) := by
  unfold putK
  split
  · exact h
  · rename_i hi
    have hk : key ∉ K := by
      rcases idx_cases K key with ⟨_, h1⟩ | ⟨i, h1, _⟩
      · exact h1
      · omega
    obtain ⟨h1, h2⟩ := plc_up h hk
    have hs : (K.take (plc K key) ++ K.drop (plc K key)).Pairwise fun a b => ltB a b = true := by rw [List.take_append_drop]; exact h
    obtain ⟨g1, g2, g3⟩ := List.pairwise_append.1 hs
    refine List.pairwise_append.2 ⟨g1, List.Pairwise.cons h2 g2, fun a ha b hb => ?_⟩
    rcases List.mem_cons.1 hb with rfl | hb
    · exact h1 a ha
    · exact g3 a ha b hb
theorem putKI_len {α : Type} {K : List ByteArray} {I : List α} {key : ByteArray} {v : α} (h : K.length = I.length) : (putK K key).length = (putI K I key v).length := by
  unfold putK putI
  split
  · rename_i hi
    rcases idx_cases K key with ⟨h1, _⟩ | ⟨i, h1, h2, _⟩
    · omega
    · rw [h1]; simp; omega
  · have := plc_le K key
    simp; omega
/-- what stands in an object behind Put -/
theorem put_mem {α : Type} {K : List ByteArray} {I : List α} {key : ByteArray} {v : α} (h : K.length = I.length) (hu : Up K) (p : ByteArray × α) :
    p ∈ (putK K key).zip (putI K I key v) ↔ p = (key, v) ∨ (p ∈ K.zip I ∧ p.1 ≠ key) := by
  have zsplit : ∀ i, K.zip I = (K.take i).zip (I.take i) ++ (K.drop i).zip (I.drop i) := fun i => by
    rw [← List.zip_append (by simp; omega), List.take_append_drop, List.take_append_drop]
  unfold putK putI
  rcases idx_cases K key with ⟨h1, h2⟩ | ⟨i, h1, h2, h3, h4⟩
  · rw [if_neg (by omega), if_neg (by omega), List.zip_append (by simp; omega), zsplit (plc K key)]
    simp only [List.cons_append, List.nil_append, List.zip_cons_cons, List.mem_append, List.mem_cons]
    have hn : ∀ p : ByteArray × α, p ∈ K.zip I → p.1 ≠ key := fun p hp e => h2 (e ▸ (List.of_mem_zip hp).1)
    constructor
    · rintro (hp | rfl | hp)
      · exact Or.inr ⟨Or.inl hp, hn p (by rw [zsplit (plc K key)]; exact List.mem_append_left _ hp)⟩
      · exact Or.inl rfl
      · exact Or.inr ⟨Or.inr hp, hn p (by rw [zsplit (plc K key)]; exact List.mem_append_right _ hp)⟩
    · rintro (rfl | ⟨hp | hp, _⟩)
      · exact Or.inr (Or.inl rfl)
      · exact Or.inl hp
      · exact Or.inr (Or.inr hp)
  · rw [if_pos (by omega), if_pos (by omega), h1, Int.toNat_natCast]
    have hiK : K[i]'(by omega) = key := by have := List.getElem?_eq_some_iff.1 h3; exact this.2
    have eK : K = K.take i ++ (key :: K.drop (i + 1)) := by
      rw [← hiK, List.getElem_cons_drop, List.take_append_drop]
    have eI : I = I.take i ++ (I[i]'(by omega) :: I.drop (i + 1)) := by
      rw [List.getElem_cons_drop, List.take_append_drop]
    have hu' := eK ▸ hu
    obtain ⟨_, g2, g3⟩ := List.pairwise_append.1 hu'
    have g4 := (List.pairwise_cons.1 g2).1
    have z1 : K.zip (I.take i ++ ([v] ++ I.drop (i + 1))) = (K.take i).zip (I.take i) ++ ((key, v) :: (K.drop (i + 1)).zip (I.drop (i + 1))) := by
      conv => lhs; rw [eK]
      rw [List.zip_append (by simp; omega)]
      rfl
    have z2 : K.zip I = (K.take i).zip (I.take i) ++ ((key, I[i]'(by omega)) :: (K.drop (i + 1)).zip (I.drop (i + 1))) := by
      conv => lhs; rw [eK, eI]
      rw [List.zip_append (by simp; omega)]
      rfl
    rw [z1, z2]
    simp only [List.mem_append, List.mem_cons]
    have n1 : ∀ p : ByteArray × α, p ∈ (K.take i).zip (I.take i) → p.1 ≠ key := fun p hp => ltB_ne (g3 _ (List.of_mem_zip hp).1 _ List.mem_cons_self)
    have n2 : ∀ p : ByteArray × α, p ∈ (K.drop (i + 1)).zip (I.drop (i + 1)) → p.1 ≠ key := fun p hp => (ltB_ne (g4 _ (List.of_mem_zip hp).1)).symm
    constructor
    · rintro (hp | rfl | hp)
      · exact Or.inr ⟨Or.inl hp, n1 p hp⟩
      · exact Or.inl rfl
      · exact Or.inr ⟨Or.inr (Or.inr hp), n2 p hp⟩
    · rintro (rfl | ⟨hp | rfl | hp, hne⟩)
      · exact Or.inr (Or.inl rfl)
      · exact Or.inl hp
      · exact absurd rfl hne
      · exact Or.inr (Or.inr hp)
/-- what a key has among some -/
def gotL {α : Type} (K : List ByteArray) (I : List α) (z : α) (key : ByteArray) : α × Bool := match I[(idx K key).toNat]? with | some y => if 0 ≤ idx K key then (y, true) else (z, false) | none => (z, false)
theorem gotL_some {α : Type} {K : List ByteArray} {I : List α} {z v : α} {key : ByteArray} (hu : Up K) (hp : (key, v) ∈ K.zip I) : gotL K I z key = (v, true) := by
  obtain ⟨i, hi, e⟩ := List.getElem_of_mem hp
  rw [List.length_zip] at hi
  rw [List.getElem_zip] at e
  have h1 : K[i]? = some key := by rw [List.getElem?_eq_getElem (by omega)]; exact congrArg some (Prod.mk.inj e).1
  have h2 : I[i]? = some v := by rw [List.getElem?_eq_getElem (by omega)]; exact congrArg some (Prod.mk.inj e).2
  unfold gotL
  rw [idx_up hu h1, Int.toNat_natCast, h2]
  simp only
  rw [if_pos (by omega)]
theorem gotL_none {α : Type} {K : List ByteArray} {I : List α} {z : α} {key : ByteArray} (hp : key ∉ K) : gotL K I z key = (z, false) := by
  have : idx K key = -1 := by
    rcases idx_cases K key with ⟨h, _⟩ | ⟨i, _, _, h, _⟩
    · exact h
    · exact absurd (List.mem_of_getElem? h) hp
  unfold gotL
  rw [this]
  split
  · rfl
  · rfl
theorem mem_zip_of {α : Type} {K : List ByteArray} {I : List α} {key : ByteArray} (h : K.length = I.length) (hk : key ∈ K) : ∃ v, (key, v) ∈ K.zip I := by
  obtain ⟨i, hi, rfl⟩ := List.getElem_of_mem hk
  exact ⟨I[i]'(by omega), by rw [List.mem_iff_getElem]; exact ⟨i, by simp; omega, by simp⟩⟩
section
variable {α : Type} {K : List ByteArray} {I : List α} {key other : ByteArray} {v z : α}
theorem got_put (h : K.length = I.length) (hu : Up K) : gotL (putK K key) (putI K I key v) z key = (v, true) := gotL_some (putK_up hu) ((put_mem h hu _).2 (Or.inl rfl))
theorem got_other (h : K.length = I.length) (hu : Up K) (hne : other ≠ key) : gotL (putK K key) (putI K I key v) z other = gotL K I z other := by
  by_cases hk : other ∈ K
  · obtain ⟨u, hu'⟩ := mem_zip_of h hk
    rw [gotL_some hu hu', gotL_some (putK_up hu) ((put_mem h hu _).2 (Or.inr ⟨hu', hne⟩))]
  · rw [gotL_none hk, gotL_none]
    intro hk'
    obtain ⟨u, hu'⟩ := mem_zip_of (putKI_len (v := v) h) hk'
    rcases (put_mem h hu _).1 hu' with e | ⟨e, _⟩
    · exact hne (Prod.mk.inj e).1
    · exact hk (List.of_mem_zip e).1
theorem idx_mem : 0 ≤ idx K key ↔ key ∈ K := by
  rcases idx_cases K key with ⟨h1, h2⟩ | ⟨i, h1, h2, h3, h4⟩
  · exact ⟨fun h => by omega, fun h => absurd h h2⟩
  · exact ⟨fun _ => List.mem_of_getElem? h3, fun _ => by omega⟩
theorem got_snd (h : K.length = I.length) : (gotL K I z key).2 = decide (0 ≤ idx K key) := by
  rcases idx_cases K key with ⟨h1, h2⟩ | ⟨i, h1, h2, h3, h4⟩
  · rw [gotL_none h2, decide_eq_false (by omega)]
  · unfold gotL
    rw [h1, Int.toNat_natCast, List.getElem?_eq_getElem (by omega)]
    simp only
    rw [if_pos (by omega), decide_eq_true (by omega)]
theorem putK_len : (putK K key).length = if 0 ≤ idx K key then K.length else K.length + 1 := by
  unfold putK
  split
  · rfl
  · have := plc_le K key
    simp; omega
theorem puts_turn {k0 k1 : ByteArray} {v0 v1 : α} (h : K.length = I.length) (hu : Up K) (hne : k0 ≠ k1) :
    putK (putK K k0) k1 = putK (putK K k1) k0 ∧ putI (putK K k0) (putI K I k0 v0) k1 v1 = putI (putK K k1) (putI K I k1 v1) k0 v0 := by
  have l0 := putKI_len (key := k0) (v := v0) h
  have l1 := putKI_len (key := k1) (v := v1) h
  have u0 := putK_up (key := k0) hu
  have u1 := putK_up (key := k1) hu
  refine zip_inj (putKI_len l0) (putKI_len l1) (up_ext (zip_up (putK_up u0)) (zip_up (putK_up u1)) fun p => ?_)
  rw [put_mem l0 u0, put_mem l1 u1, put_mem h hu, put_mem h hu]
  constructor
  · rintro (rfl | ⟨rfl | ⟨h1, h2⟩, h3⟩)
    · exact Or.inr ⟨Or.inl rfl, hne.symm⟩
    · exact Or.inl rfl
    · exact Or.inr ⟨Or.inr ⟨h1, h3⟩, h2⟩
  · rintro (rfl | ⟨rfl | ⟨h1, h2⟩, h3⟩)
    · exact Or.inr ⟨Or.inl rfl, hne⟩
    · exact Or.inl rfl
    · exact Or.inr ⟨Or.inr ⟨h1, h3⟩, h2⟩
end
end Jv
end Go.Proofs.Ytelladgeehlkpaa
