/- jval: values of JSON in memory, read as data. -/
import Derived.Test.YtkmfoclhhnhkdaaJvName
namespace Go.Proofs.Ytkmfoclhhnhkdaa
open Go.RowKit
namespace Jv
open _root_.Go.Proofs.Ytkmfoclhhnhkdaa.Nm
/-- a value of JSON as data -/
inductive JV where
  | mk (k c s : Int) (st : ByteArray) (items : List JV) (keys : List ByteArray)
def JV.k : JV → Int | .mk k _ _ _ _ _ => k
def JV.c : JV → Int | .mk _ c _ _ _ _ => c
def JV.s : JV → Int | .mk _ _ s _ _ _ => s
def JV.st : JV → ByteArray | .mk _ _ _ st _ _ => st
def JV.items : JV → List JV | .mk _ _ _ _ i _ => i
def JV.keys : JV → List ByteArray | .mk _ _ _ _ _ ks => ks
theorem JV.ext_iff' (a b : JV) : a = b ↔ a.k = b.k ∧ a.c = b.c ∧ a.s = b.s ∧ a.st = b.st ∧ a.items = b.items ∧ a.keys = b.keys := by
  obtain ⟨k, c, s, st, i, ks⟩ := a
  obtain ⟨k', c', s', st', i', ks'⟩ := b
  simp [JV.k, JV.c, JV.s, JV.st, JV.items, JV.keys]
/-- are two values the same? -/
noncomputable def sameB (a b : JV) : Bool := @decide (a = b) (Classical.propDecidable _)
theorem sameB_iff {a b : JV} : sameB a b = true ↔ a = b := by unfold sameB; simp
theorem sameB_no {a b : JV} : sameB a b = false ↔ a ≠ b := by unfold sameB; simp
theorem sameB_refl (a : JV) : sameB a a = true := sameB_iff.2 rfl
/-- the six cells of a value -/
structure Six where
  k : Int
  c : Int
  s : Int
  st : ByteArray
  iv : Value
  kv : Value
def Six.cells (x : Six) : List Value := [.int .i64 x.k, .int .i64 x.c, .int .i64 x.s, .string x.st, x.iv, x.kv]
def Six.val (x : Six) : Value := vV x.k x.c x.s x.st x.iv x.kv
theorem Six.cells_len (x : Six) : x.cells.length = 6 := rfl
/-- the six cells stand at a place -/
def At6 (w : World) (b p : Nat) (x : Six) : Prop :=
  w.cell? ⟨b, p, none⟩ = some (.int .i64 x.k) ∧ w.cell? ⟨b, p + 1, none⟩ = some (.int .i64 x.c) ∧ w.cell? ⟨b, p + 2, none⟩ = some (.int .i64 x.s) ∧
  w.cell? ⟨b, p + 3, none⟩ = some (.string x.st) ∧ w.cell? ⟨b, p + 4, none⟩ = some x.iv ∧ w.cell? ⟨b, p + 5, none⟩ = some x.kv
theorem At6.on {a w : World} {b p : Nat} {x : Six} (h : At6 a b p x) (hk : b < a.heap.size) (hb : Below a.heap.size a w) : At6 w b p x := by
  obtain ⟨h0, h1, h2, h3, h4, h5⟩ := h
  exact ⟨(hb.cell (p := ⟨b, _, none⟩) hk).trans h0, (hb.cell (p := ⟨b, _, none⟩) hk).trans h1, (hb.cell (p := ⟨b, _, none⟩) hk).trans h2,
    (hb.cell (p := ⟨b, _, none⟩) hk).trans h3, (hb.cell (p := ⟨b, _, none⟩) hk).trans h4, (hb.cell (p := ⟨b, _, none⟩) hk).trans h5⟩
/-- a slice of values that reads as a list -/
def Vs (w : World) (v : Value) (l : List Six) : Prop :=
  ∃ ao cap, v = .slice ao l.length cap ∧ l.length ≤ cap ∧ cap ≤ maxLen ∧ (ao = none → cap = 0) ∧ (0 < l.length → ∃ k o, ao = some ⟨k, o, none⟩ ∧ k < w.heap.size ∧ ∀ j x, l[j]? = some x → At6 w k (o + j * 6) x)
theorem Vs.nil0 (w : World) : Vs w (.slice none 0 0) [] := ⟨_, 0, rfl, Nat.le_refl _, by decide, fun _ => rfl, fun h => absurd h (by simp)⟩
theorem Vs.on {a b : World} {v : Value} {l : List Six} (h : Vs a v l) (hb : Below a.heap.size a b) : Vs b v l := by
  obtain ⟨ao, cap, h1, h2, h3, h4, h⟩ := h
  exact ⟨ao, cap, h1, h2, h3, h4, fun h0 => by
    obtain ⟨k, o, h5, hk, h⟩ := h h0
    exact ⟨k, o, h5, Nat.lt_of_lt_of_le hk hb.size, fun j d hj => (h j d hj).on hk hb⟩⟩
theorem Vs.form {w : World} {v : Value} {l : List Six} (h : Vs w v l) : ∃ ao cap, v = .slice ao l.length cap ∧ l.length ≤ cap ∧ (0 < l.length → ∃ k o, ao = some ⟨k, o, none⟩ ∧ k < w.heap.size ∧ ∀ j x, l[j]? = some x → At6 w k (o + j * 6) x) := by
  obtain ⟨ao, cap, h1, h2, _, _, h⟩ := h
  exact ⟨ao, cap, h1, h2, h⟩
/-- sizes that memory can hold -/
def Bd (k c s : Int) (st : ByteArray) (ks : List ByteArray) : Prop :=
  (-9223372036854775808 ≤ k ∧ k < 9223372036854775808) ∧ (-9223372036854775808 ≤ c ∧ c < 9223372036854775808) ∧ (-9223372036854775808 ≤ s ∧ s < 9223372036854775808) ∧ st.size ≤ maxLen ∧ ∀ x ∈ ks, x.size ≤ maxLen
/-- a value in memory reads as data, in at most n steps -/
def VT (w : World) : Nat → Six → JV → Prop
  | 0, _, _ => False
  | n + 1, x, t => x.k = t.k ∧ x.c = t.c ∧ x.s = t.s ∧ x.st = t.st ∧ Ks w x.kv t.keys ∧ Bd x.k x.c x.s x.st t.keys ∧
      ∃ l : List Six, Vs w x.iv l ∧ l.length = t.items.length ∧ ∀ (j : Nat) (y : Six) (z : JV), l[j]? = some y → t.items[j]? = some z → VT w n y z
theorem VT.on {a b : World} (hb : Below a.heap.size a b) : ∀ (n : Nat) {x : Six} {t : JV}, VT a n x t → VT b n x t
  | 0, _, _, h => h.elim
  | n + 1, _, _, ⟨h1, h2, h3, h4, h5, hB, l, h6, h7, h8⟩ => ⟨h1, h2, h3, h4, h5.on hb, hB, l, h6.on hb, h7, fun j y z hy hz => VT.on hb n (h8 j y z hy hz)⟩
theorem VT.mono {w : World} : ∀ (n : Nat) {m : Nat} {x : Six} {t : JV}, n ≤ m → VT w n x t → VT w m x t
  | 0, _, _, _, _, h => h.elim
  | n + 1, 0, _, _, hm, _ => absurd hm (by omega)
  | n + 1, m + 1, _, _, hm, ⟨h1, h2, h3, h4, h5, hB, l, h6, h7, h8⟩ => ⟨h1, h2, h3, h4, h5, hB, l, h6, h7, fun j y z hy hz => VT.mono n (by omega) (h8 j y z hy hz)⟩
/-- a list of values in memory reads as a list of data -/
def VTs (w : World) (n : Nat) (l : List Six) (ts : List JV) : Prop := l.length = ts.length ∧ ∀ (j : Nat) (y : Six) (z : JV), l[j]? = some y → ts[j]? = some z → VT w n y z
end Jv
end Go.Proofs.Ytkmfoclhhnhkdaa
