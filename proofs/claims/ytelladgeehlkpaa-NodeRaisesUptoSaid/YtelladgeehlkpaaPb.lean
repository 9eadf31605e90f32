/- jval: keys in memory, slices.Index of them, names of kinds, simple values. -/
import Derived.Test.YtelladgeehlkpaaPa
import Derived.Lib.Strings
namespace Go.Proofs.Ytelladgeehlkpaa
open Go.RowKit
namespace Jv
open _root_.Go.Proofs.Ytelladgeehlkpaa.Nm
/-- a slice of texts that reads as a list -/
def Ks (w : World) (v : Value) (l : List ByteArray) : Prop :=
  ∃ ao cap, v = .slice ao l.length cap ∧ l.length ≤ cap ∧ cap ≤ maxLen ∧ (ao = none → cap = 0) ∧ (0 < l.length → ∃ k o, ao = some ⟨k, o, none⟩ ∧ k < w.heap.size ∧ ∀ j s, l[j]? = some s → w.cell? ⟨k, o + j, none⟩ = some (.string s))
theorem Ks.nil0 (w : World) : Ks w (.slice none 0 0) [] := ⟨_, 0, rfl, Nat.le_refl _, by decide, fun _ => rfl, fun h => absurd h (by simp)⟩
theorem Ks.on {a b : World} {v : Value} {l : List ByteArray} (h : Ks a v l) (hb : Below a.heap.size a b) : Ks b v l := by
  obtain ⟨ao, cap, h1, h2, h3, h4, h⟩ := h
  exact ⟨ao, cap, h1, h2, h3, h4, fun h0 => by
    obtain ⟨k, o, h5, hk, h⟩ := h h0
    exact ⟨k, o, h5, Nat.lt_of_lt_of_le hk hb.size, fun j d hj => (hb.cell (p := ⟨k, o + j, none⟩) hk).trans (h j d hj)⟩⟩
theorem Ks.form {w : World} {v : Value} {l : List ByteArray} (h : Ks w v l) : ∃ ao cap, v = .slice ao l.length cap ∧ l.length ≤ cap ∧ (0 < l.length → ∃ k o, ao = some ⟨k, o, none⟩ ∧ k < w.heap.size ∧ ∀ j s, l[j]? = some s → w.cell? ⟨k, o + j, none⟩ = some (.string s)) := by
  obtain ⟨ao, cap, h1, h2, _, _, h⟩ := h
  exact ⟨ao, cap, h1, h2, h⟩
theorem str_ne {a b : ByteArray} (h : ¬ a = b) : (a.toList == b.toList) = false := by
  rw [beq_eq_false_iff_ne]
  intro e
  rw [Lib.toList_data, Lib.toList_data] at e
  exact h (ByteArray.ext (Array.toList_inj.1 e))
/-- where a key stands first, or -1 -/
def idx (l : List ByteArray) (key : ByteArray) : Int := match l.findIdx? (fun x => decide (key = x)) with | some i => i | none => -1
theorem idx_at {l : List ByteArray} {key : ByteArray} {k : Nat} (hk : l[k]? = some key) (h : ∀ j s, j < k → l[j]? = some s → key ≠ s) : idx l key = k := by
  obtain ⟨h1, h2⟩ := List.getElem?_eq_some_iff.1 hk
  have : l.findIdx? (fun x => decide (key = x)) = some k := by
    rw [List.findIdx?_eq_some_iff_getElem]
    refine ⟨h1, by rw [h2]; simp, fun j hj => ?_⟩
    have := h j l[j] hj (List.getElem?_eq_getElem (by omega))
    simpa using this
  unfold idx; rw [this]
theorem idx_no {l : List ByteArray} {key : ByteArray} (h : ∀ j s, j < l.length → l[j]? = some s → key ≠ s) : idx l key = -1 := by
  have : l.findIdx? (fun x => decide (key = x)) = none := by
    rw [List.findIdx?_eq_none_iff]
    intro x hx
    obtain ⟨j, hj, e⟩ := List.getElem_of_mem hx
    have := h j x hj (by rw [List.getElem?_eq_getElem hj, e])
    simpa using this
  unfold idx; rw [this]
/-- a kind's name -/
def kname (k : Int) : ByteArray :=
  if k = 0 then ⟨#[110, 117, 108, 108]⟩ else if k = 1 ∨ k = 2 then ⟨#[98, 111, 111, 108, 101, 97, 110]⟩ else if k = 3 then ⟨#[110, 117, 109, 98, 101, 114]⟩
  else if k = 4 then ⟨#[115, 116, 114, 105, 110, 103]⟩ else if k = 5 then ⟨#[97, 114, 114, 97, 121]⟩ else if k = 6 then ⟨#[111, 98, 106, 101, 99, 116]⟩ else if k = 7 then ⟨#[101, 114, 114, 111, 114]⟩ else ⟨#[]⟩
end Jv
end Go.Proofs.Ytelladgeehlkpaa
namespace Go.Proofs.Ytelladgeehlkpaa
open Go.RowKit
namespace Jv
/-- is a text above another one? -/
def gtB (x y : ByteArray) : Bool := !(Op.bytesLess x.toList y.toList || x.toList == y.toList)
set_option maxRecDepth 100000 in
theorem run_gtB (x y : ByteArray) (w : World) : (binOp .gtr 9 (.string x) (.string y)).run Try.prog w = .ok (.bool (gtB x y)) w := by
  simp [binOp, Op.stringOp, gtB, go_sem]
/-- how many keys stand ahead of the first one that is above -/
def plc (l : List ByteArray) (key : ByteArray) : Nat := (l.findIdx? (fun x => gtB x key)).getD l.length
theorem plc_at {l : List ByteArray} {key x : ByteArray} {k : Nat} (hk : l[k]? = some x) (hx : gtB x key = true) (h : ∀ j s, j < k → l[j]? = some s → gtB s key = false) : plc l key = k := by
  obtain ⟨h1, h2⟩ := List.getElem?_eq_some_iff.1 hk
  have : l.findIdx? (fun x => gtB x key) = some k := by
    rw [List.findIdx?_eq_some_iff_getElem]
    refine ⟨h1, by rw [h2]; exact hx, fun j hj => ?_⟩
    have := h j l[j] hj (List.getElem?_eq_getElem (by omega))
    simpa using this
  unfold plc; rw [this]; rfl
theorem plc_no {l : List ByteArray} {key : ByteArray} (h : ∀ j s, j < l.length → l[j]? = some s → gtB s key = false) : plc l key = l.length := by
  have : l.findIdx? (fun x => gtB x key) = none := by
    rw [List.findIdx?_eq_none_iff]
    intro x hx
    obtain ⟨j, hj, e⟩ := List.getElem_of_mem hx
    exact h j x hj (by rw [List.getElem?_eq_getElem hj, e])
  unfold plc; rw [this]; rfl
end Jv
end Go.Proofs.Ytelladgeehlkpaa
namespace Go.Proofs.Ytelladgeehlkpaa
open Go.RowKit
namespace Jv
open _root_.Go.Proofs.Ytelladgeehlkpaa.Nm
/-- a value of JSON: its kind, its number, its text, its items, its keys -/
def vV (k c s : Int) (st : ByteArray) (items keys : Value) : Value := .agg #[.int .i64 k, .int .i64 c, .int .i64 s, .string st, items, keys]
end Jv
end Go.Proofs.Ytelladgeehlkpaa
namespace Go.Proofs.Ytelladgeehlkpaa
open Go.RowKit
namespace Jv
open _root_.Go.Proofs.Ytelladgeehlkpaa.Nm
/-- a block that holds a value -/
def Vb (w : World) (k : Nat) (cs : Array Value) : Prop := w.heap[k]? = some (.cells cs 62 (0, 0))
section
variable {w a b : World} {k : Nat} {cs : Array Value}
theorem Vb.lt (h : Vb w k cs) : k < w.heap.size := (Array.getElem?_eq_some_iff.1 h).1
theorem Vb.new (w : World) (cs : Array Value) : Vb (w.alloc (.cells cs 62)) w.heap.size cs := heap_alloc_new w _
theorem Vb.on (h : Vb a k cs) (hb : Below a.heap.size a b) : Vb b k cs := (hb.block k h.lt).trans h
theorem Vb.alloc (h : Vb a k cs) (o : Obj) : Vb (a.alloc o) k cs := h.on (bA1 a o)
theorem Vb.set (h : Vb a k cs) (i : Nat) (u : Value) : Vb (a.setCell ⟨k, i, none⟩ u) k (cs.setIfInBounds i u) := by
  unfold Vb at h ⊢
  simp [World.setCell, Array.getElem?_modify, h]
theorem Vb.cell (h : Vb w k cs) (i : Nat) : w.cell? ⟨k, i, none⟩ = cs[i]? := cell_of_row w k i cs _ _ h
theorem Vb.free (h : Vb w k cs) (i : Nat) : w.frozen? ⟨k, i, none⟩ = false := by
  unfold Vb at h
  simp [World.frozen?, h]
theorem Vb.put {x0 x1 x2 x3 x4 x5 : Value} (h : Vb w k #[x0, x1, x2, x3, x4, x5]) (u0 u1 u2 u3 u4 u5 : Value) :
    Vb ((((((w.setCell ⟨k, 0, none⟩ u0).setCell ⟨k, 1, none⟩ u1).setCell ⟨k, 2, none⟩ u2).setCell ⟨k, 3, none⟩ u3).setCell ⟨k, 4, none⟩ u4).setCell ⟨k, 5, none⟩ u5) k #[u0, u1, u2, u3, u4, u5] :=
  (((((h.set 0 u0).set 1 u1).set 2 u2).set 3 u3).set 4 u4).set 5 u5
theorem Vb.six {x0 x1 x2 x3 x4 x5 : Value} (h : Vb w k #[x0, x1, x2, x3, x4, x5]) : w.cell? ⟨k, 0, none⟩ = some x0 ∧ w.cell? ⟨k, 1, none⟩ = some x1 ∧ w.cell? ⟨k, 2, none⟩ = some x2 ∧ w.cell? ⟨k, 3, none⟩ = some x3 ∧ w.cell? ⟨k, 4, none⟩ = some x4 ∧ w.cell? ⟨k, 5, none⟩ = some x5 :=
  ⟨h.cell 0, h.cell 1, h.cell 2, h.cell 3, h.cell 4, h.cell 5⟩
end
theorem b6 {w a : World} {k : Nat} (h : Below w.heap.size w a) (hk : w.heap.size ≤ k) (u0 u1 u2 u3 u4 u5 : Value) :
    Below w.heap.size w ((((((a.setCell ⟨k, 0, none⟩ u0).setCell ⟨k, 1, none⟩ u1).setCell ⟨k, 2, none⟩ u2).setCell ⟨k, 3, none⟩ u3).setCell ⟨k, 4, none⟩ u4).setCell ⟨k, 5, none⟩ u5) :=
  (((((h.setCell hk u0).setCell hk u1).setCell hk u2).setCell hk u3).setCell hk u4).setCell hk u5
/-- a whole number as a value -/
def intV (n : Int) : Value := if -1000000000000000 < n ∧ n < 1000000000000000 then vV 3 n 0 ⟨#[]⟩ (.slice none 0 0) (.slice none 0 0) else vV 7 0 0 ⟨#[110, 117, 109, 98, 101, 114]⟩ (.slice none 0 0) (.slice none 0 0)
theorem hold_int (n : Int) : hold n 0 = if -1000000000000000 < n ∧ n < 1000000000000000 then some (n, 0) else none := by
  unfold hold strip
  simp only
  by_cases h : -1000000000000000 < n ∧ n < 1000000000000000
  · rw [if_pos h, if_neg (by omega)]
    congr 2
    split <;> omega
  · rw [if_neg h, if_pos (by omega)]
end Jv
end Go.Proofs.Ytelladgeehlkpaa
namespace Go.Proofs.Ytelladgeehlkpaa
open Go.RowKit
namespace Jv
end Jv
end Go.Proofs.Ytelladgeehlkpaa
namespace Go.Proofs.Ytelladgeehlkpaa
open Go.RowKit
namespace Jv
open _root_.Go.Proofs.Ytelladgeehlkpaa.Nm
/-- a value of JSON as data -/
inductive JV where
  | mk (k c s : Int) (st : ByteArray) (items : List JV) (keys : List ByteArray)
def JV.k : JV → Int | .mk k _ _ _ _ _ => k
def JV.c : JV → Int | .mk _ c _ _ _ _ => c
def JV.s : JV → Int | .mk _ _ s _ _ _ => s
def JV.st : JV → ByteArray | .mk _ _ _ st _ _ => st
def JV.items : JV → List JV | .mk _ _ _ _ i _ => i
def JV.keys : JV → List ByteArray | .mk _ _ _ _ _ ks => ks
theorem JV.ext_iff' (a b : JV) : a = b ↔ a.k = b.k ∧ a.c = b.c ∧ a.s = b.s ∧ a.st = b.st ∧ a.items = b.items ∧ a.keys = b.keys := by
  obtain ⟨k, c, s, st, i, ks⟩ := a
  obtain ⟨k', c', s', st', i', ks'⟩ := b
  simp [JV.k, JV.c, JV.s, JV.st, JV.items, JV.keys]
/-- are two values the same? -/
noncomputable def sameB (a b : JV) : Bool := @decide (a = b) (Classical.propDecidable _)
theorem sameB_iff {a b : JV} : sameB a b = true ↔ a = b := by unfold sameB; simp
theorem sameB_no {a b : JV} : sameB a b = false ↔ a ≠ b := by unfold sameB; simp
theorem sameB_refl (a : JV) : sameB a a = true := sameB_iff.2 rfl
/-- the six cells of a value -/
structure Six where
  k : Int
  c : Int
  s : Int
  st : ByteArray
  iv : Value
  kv : Value
def Six.cells (x : Six) : List Value := [.int .i64 x.k, .int .i64 x.c, .int .i64 x.s, .string x.st, x.iv, x.kv]
def Six.val (x : Six) : Value := vV x.k x.c x.s x.st x.iv x.kv
theorem Six.cells_len (x : Six) : x.cells.length = 6 := rfl
/-- the six cells stand at a place -/
def At6 (w : World) (b p : Nat) (x : Six) : Prop :=
  w.cell? ⟨b, p, none⟩ = some (.int .i64 x.k) ∧ w.cell? ⟨b, p + 1, none⟩ = some (.int .i64 x.c) ∧ w.cell? ⟨b, p + 2, none⟩ = some (.int .i64 x.s) ∧
  w.cell? ⟨b, p + 3, none⟩ = some (.string x.st) ∧ w.cell? ⟨b, p + 4, none⟩ = some x.iv ∧ w.cell? ⟨b, p + 5, none⟩ = some x.kv
theorem At6.on {a w : World} {b p : Nat} {x : Six} (h : At6 a b p x) (hk : b < a.heap.size) (hb : Below a.heap.size a w) : At6 w b p x := by
  obtain ⟨h0, h1, h2, h3, h4, h5⟩ := h
  exact ⟨(hb.cell (p := ⟨b, _, none⟩) hk).trans h0, (hb.cell (p := ⟨b, _, none⟩) hk).trans h1, (hb.cell (p := ⟨b, _, none⟩) hk).trans h2,
    (hb.cell (p := ⟨b, _, none⟩) hk).trans h3, (hb.cell (p := ⟨b, _, none⟩) hk).trans h4, (hb.cell (p := ⟨b, _, none⟩) hk).trans h5⟩
/-- a slice of values that reads as a list -/
def Vs (w : World) (v : Value) (l : List Six) : Prop :=
  ∃ ao cap, v = .slice ao l.length cap ∧ l.length ≤ cap ∧ cap ≤ maxLen ∧ (ao = none → cap = 0) ∧ (0 < l.length → ∃ k o, ao = some ⟨k, o, none⟩ ∧ k < w.heap.size ∧ ∀ j x, l[j]? = some x → At6 w k (o + j * 6) x)
theorem Vs.nil0 (w : World) : Vs w (.slice none 0 0) [] := ⟨_, 0, rfl, Nat.le_refl _, by decide, fun _ => rfl, fun h => absurd h (by simp)⟩
theorem Vs.on {a b : World} {v : Value} {l : List Six} (h : Vs a v l) (hb : Below a.heap.size a b) : Vs b v l := by
  obtain ⟨ao, cap, h1, h2, h3, h4, h⟩ := h
  exact ⟨ao, cap, h1, h2, h3, h4, fun h0 => by
    obtain ⟨k, o, h5, hk, h⟩ := h h0
    exact ⟨k, o, h5, Nat.lt_of_lt_of_le hk hb.size, fun j d hj => (h j d hj).on hk hb⟩⟩
theorem Vs.form {w : World} {v : Value} {l : List Six} (h : Vs w v l) : ∃ ao cap, v = .slice ao l.length cap ∧ l.length ≤ cap ∧ (0 < l.length → ∃ k o, ao = some ⟨k, o, none⟩ ∧ k < w.heap.size ∧ ∀ j x, l[j]? = some x → At6 w k (o + j * 6) x) := by
  obtain ⟨ao, cap, h1, h2, _, _, h⟩ := h
  exact ⟨ao, cap, h1, h2, h⟩
/-- sizes that memory can hold -/
def Bd (k c s : Int) (st : ByteArray) (ks : List ByteArray) : Prop :=
  (-9223372036854775808 ≤ k ∧ k < 9223372036854775808) ∧ (-9223372036854775808 ≤ c ∧ c < 9223372036854775808) ∧ (-9223372036854775808 ≤ s ∧ s < 9223372036854775808) ∧ st.size ≤ maxLen ∧ ∀ x ∈ ks, x.size ≤ maxLen
/-- a value in memory reads as data, in at most n steps -/
def VT (w : World) : Nat → Six → JV → Prop
  | 0, _, _ => False
  | n + 1, x, t => x.k = t.k ∧ x.c = t.c ∧ x.s = t.s ∧ x.st = t.st ∧ Ks w x.kv t.keys ∧ Bd x.k x.c x.s x.st t.keys ∧
      ∃ l : List Six, Vs w x.iv l ∧ l.length = t.items.length ∧ ∀ (j : Nat) (y : Six) (z : JV), l[j]? = some y → t.items[j]? = some z → VT w n y z
theorem VT.on {a b : World} (hb : Below a.heap.size a b) : ∀ (n : Nat) {x : Six} {t : JV}, VT a n x t → VT b n x t
  | 0, _, _, h => h.elim
  | n + 1, _, _, ⟨h1, h2, h3, h4, h5, hB, l, h6, h7, h8⟩ => ⟨h1, h2, h3, h4, h5.on hb, hB, l, h6.on hb, h7, fun j y z hy hz => VT.on hb n (h8 j y z hy hz)⟩
theorem VT.mono {w : World} : ∀ (n : Nat) {m : Nat} {x : Six} {t : JV}, n ≤ m → VT w n x t → VT w m x t
  | 0, _, _, _, _, h => h.elim
  | n + 1, 0, _, _, hm, _ => absurd hm (by omega)
  | n + 1, m + 1, _, _, hm, ⟨h1, h2, h3, h4, h5, hB, l, h6, h7, h8⟩ => ⟨h1, h2, h3, h4, h5, hB, l, h6, h7, fun j y z hy hz => VT.mono n (by omega) (h8 j y z hy hz)⟩
/-- a list of values in memory reads as a list of data -/
def VTs (w : World) (n : Nat) (l : List Six) (ts : List JV) : Prop := l.length = ts.length ∧ ∀ (j : Nat) (y : Six) (z : JV), l[j]? = some y → ts[j]? = some z → VT w n y z
end Jv
end Go.Proofs.Ytelladgeehlkpaa
