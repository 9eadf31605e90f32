/- Whole numbers without bound: Num. -/
import Derived.Test.YtkmfoclhhnhkdaaNrShift
namespace Go.Proofs.Ytkmfoclhhnhkdaa
open Go.RowKit
namespace Nm
/-- a number and whether it is held -/
def numA : Option (Int × Nat) → Value
  | some (c, s) => .tuple #[nv c s, .bool true]
  | none => .tuple #[nv 0 0, .bool false]
theorem strip_0 (s : Nat) : strip s 0 = (0, 0) := by
  induction s with
  | zero => rfl
  | succ s ih => unfold strip; rw [if_pos rfl]; exact ih
theorem hold_0 (s : Nat) : hold 0 s = some (0, 0) := by
  unfold hold
  rw [show (0 : Int).natAbs = 0 from rfl, strip_0]; rfl
theorem hold_is {z : Int} {s t c : Nat} (h : strip t c = strip s z.natAbs) (he : t = 0 ∨ c % 10 ≠ 0) : hold z s = if 9 < t ∨ 1000000000000000 ≤ c then none else some (if z < 0 then -(c : Int) else (c : Int), t) := by
  rw [strip_end he] at h
  unfold hold
  rw [← h]
theorem dv_drop_le (l : List Nat) (i : Nat) : dv (l.drop i) ≤ dv l := by
  conv => rhs; rw [← List.take_append_drop i l, dv_app]
  have : 0 < 10 ^ (l.take i).length := Nat.pow_pos (by decide)
  have := Nat.le_mul_of_pos_left (dv (l.drop i)) this
  omega
theorem dgs_head {c : Nat} (h : c ≠ 0) : (dgs c)[0]? = some (c % 10) ∧ (dgs c).tail = dgs (c / 10) := by rw [dgs_pos h]; exact ⟨rfl, rfl⟩
theorem dgs_ne {c : Nat} (h : c ≠ 0) : 0 < (dgs c).length := by rw [dgs_pos h]; simp
/-- a row without its first digit -/
theorem Rw.tail {w : World} {k o cap n : Nat} {l : List Nat} (h : Rw w (.slice (some ⟨k, o, none⟩) n cap) l) (hl : 0 < l.length) :
    Rw w (.slice (if cap = 1 then some ⟨k, o, none⟩ else some ⟨k, o + 1, none⟩) (n - 1) (cap - 1)) l.tail := by
  rcases h with ⟨h, _⟩ | ⟨k', o', cap', he, hc, hk, h⟩
  · simp at h
  · simp only [Value.slice.injEq, Option.some.injEq, Addr.mk.injEq, and_true] at he
    obtain ⟨⟨rfl, rfl⟩, rfl, rfl⟩ := he
    by_cases h1 : cap = 1
    · subst h1
      have e : l.tail = [] := List.length_eq_zero_iff.1 (by rw [List.length_tail]; omega)
      rw [if_pos rfl, e]
      exact Or.inr ⟨k, o, 0, by rw [show l.length - 1 = 0 by omega]; rfl, by simp, hk, fun j d hj => by simp at hj⟩
    · rw [if_neg h1]
      refine Or.inr ⟨k, o + 1, cap - 1, by rw [List.length_tail], by rw [List.length_tail]; omega, hk, fun j d hj => ?_⟩
      rw [List.getElem?_tail] at hj
      have := h (j + 1) d hj
      rw [show o + (j + 1) = o + 1 + j by omega] at this
      exact this
theorem Rw.len {w : World} {a : Option Addr} {n cap : Nat} {l : List Nat} (h : Rw w (.slice a n cap) l) : n = l.length := by
  obtain ⟨_, _, he, _⟩ := h.form
  simp only [Value.slice.injEq] at he
  exact he.2.1
theorem Rw.cap {w : World} {a : Option Addr} {n cap : Nat} {l : List Nat} (h : Rw w (.slice a n cap) l) : n ≤ cap := by
  obtain ⟨_, _, he, hc, _⟩ := h.form
  simp only [Value.slice.injEq] at he
  omega
theorem Rw.ptr {w : World} {a : Option Addr} {n cap : Nat} {l : List Nat} (h : Rw w (.slice a n cap) l) (hl : 0 < l.length) : ∃ k o, a = some ⟨k, o, none⟩ := by
  obtain ⟨_, _, he, _, h2⟩ := h.form
  simp only [Value.slice.injEq] at he
  obtain ⟨k, o, e, _⟩ := h2 hl
  exact ⟨k, o, he.1.trans e⟩
theorem Rw.lt {w : World} {k o n cap : Nat} {l : List Nat} (h : Rw w (.slice (some ⟨k, o, none⟩) n cap) l) : k < w.heap.size := by
  rcases h with ⟨h, _⟩ | ⟨k', o', cap', he, _, hk, _⟩
  · simp at h
  · simp only [Value.slice.injEq, Option.some.injEq, Addr.mk.injEq, and_true] at he
    omega
theorem Rw.cell {w : World} {k o n cap j d : Nat} {l : List Nat} (h : Rw w (.slice (some ⟨k, o, none⟩) n cap) l) (hj : l[j]? = some d) : w.cell? ⟨k, o + j, none⟩ = some (.int .i64 (d : Nat)) := by
  rcases h with ⟨h, _⟩ | ⟨k', o', cap', he, _, hk, h⟩
  · simp at h
  · simp only [Value.slice.injEq, Option.some.injEq, Addr.mk.injEq, and_true] at he
    obtain ⟨⟨rfl, rfl⟩, _⟩ := he
    exact h j d hj
end Nm
end Go.Proofs.Ytkmfoclhhnhkdaa
