/- What utf.Unquote answers, of every string. -/
import Derived.Test.YtpddkchnogfjkaaDoorUtRune
import Derived.Test.YtpddkchnogfjkaaDoorUtDig
import Derived.Laws.MakeOwn
import Derived.Deep.DeepCutAuto
namespace Go.Proofs.YtpddkchnogfjkaaDoor
open Go.RowKit
namespace Ut
/-- what Unquote answers -/
def ansV : Option (Option (List Nat)) → Value
  | none => .tuple #[.string ByteArray.empty, .int .i64 3]
  | some none => .tuple #[.string ByteArray.empty, .int .i64 7]
  | some (some b) => if vldB (byt (str b)) then .tuple #[.string (str b), .int .i64 0] else .tuple #[.string ByteArray.empty, .int .i64 7]
/-- a string of JSON, read -/
def rdO (t : ByteArray) : Option (Option (List Nat)) :=
  if t.size < 2 ∨ (byt t).getD 0 0 ≠ 34 ∨ (byt t).getD (t.size - 1) 0 ≠ 34 then none else unq (byt (t.extract 1 (t.size - 1)))
theorem unq_form {l : List Nat} {o : Option (List Nat)} {k : Nat} (h : unq l = cmb o (unq (l.drop k))) (hk : l.drop k ≠ []) (hs : stp (l.drop k) = none) : unq l = none := by
  rw [h, unq_bad hk hs]; rfl
theorem unq_go {l : List Nat} {o p : Option (List Nat)} {k n : Nat} (h : unq l = cmb o (unq (l.drop k))) (hs : stp (l.drop k) = some (p, n)) : unq l = cmb (app o p) (unq (l.drop (k + n))) := by
  rw [h, unq_step hs, cmb_app, List.drop_drop]
theorem unq_end {l : List Nat} {o : Option (List Nat)} {k : Nat} (h : unq l = cmb o (unq (l.drop k))) (hk : l.length ≤ k) : unq l = some o := by
  rw [h, List.drop_of_length_le hk, unq_nil, cmb_end]
theorem stp_bad {a : Nat} (t : List Nat) (h : a = 34 ∨ a < 32) : stp (a :: t) = none := by simp only [stp]; rw [if_pos h]
theorem stp_raw {a : Nat} (t : List Nat) (h : ¬ (a = 34 ∨ a < 32)) (h2 : a ≠ 92) : stp (a :: t) = some (some [a], 1) := by simp only [stp]; rw [if_neg h, if_pos h2]
theorem stp_none {t : List Nat} (h : esc (92 :: t) = none) : stp (92 :: t) = none := by
  simp only [stp]; rw [if_neg (by omega), if_neg (by omega), h]
theorem stp_sur {t : List Nat} {r n : Nat} (h : esc (92 :: t) = some (r, n)) (hr : 55296 ≤ r ∧ r < 57344) : stp (92 :: t) = some (none, n) := by
  simp only [stp]; rw [if_neg (by omega), if_neg (by omega), h]; simp only; rw [if_pos hr]
theorem stp_put {t : List Nat} {r n : Nat} (h : esc (92 :: t) = some (r, n)) (hr : ¬ (55296 ≤ r ∧ r < 57344)) : stp (92 :: t) = some (some (put r), n) := by
  simp only [stp]; rw [if_neg (by omega), if_neg (by omega), h]; simp only; rw [if_neg hr]
/-- how far a string of JSON has been read -/
structure URel (l : List Nat) (w : World) (k : Nat) (o : Option (List Nat)) (out : List Nat) (v : Value) (wr : World) : Prop where
  le : k ≤ l.length
  eq : unq l = cmb o (unq (l.drop k))
  is : ∀ a, o = some a → out = a
  len : out.length ≤ 4 * k
  buf : Buf w.heap.size wr v out
  bel : Below w.heap.size w wr
theorem URel.next {l : List Nat} {w wr w' : World} {k n : Nat} {o p : Option (List Nat)} {out m : List Nat} {v v' : Value} (h : URel l w k o out v wr) (hs : stp (l.drop k) = some (p, n)) (hm : ∀ a, p = some a → m = a) (hml : m.length ≤ 4) (hg : Grew w.heap.size wr w' v' (out ++ m)) : URel l w (k + n) (app o p) (out ++ m) v' w' := by
  have hn := stp_n hs
  rw [List.length_drop] at hn
  have hle := h.le
  have hlen := h.len
  refine ⟨by omega, unq_go h.eq hs, ?_, by rw [List.length_append]; omega, hg.buf, h.bel.trans hg.bel⟩
  intro a ha
  match o, p, ha with
  | some x, some y, ha =>
    simp [app] at ha
    rw [h.is x rfl, hm y rfl, ha]
theorem app_none (o : Option (List Nat)) : app o none = none := by cases o <;> rfl
theorem app_isNone (o : Option (List Nat)) (p : List Nat) : (app o (some p)).isNone = o.isNone := by cases o <;> rfl
end Ut
end Go.Proofs.YtpddkchnogfjkaaDoor
