/- The order of values as data: which of two comes first, and how many pairs are looked at. -/
import Derived.Test.YtkmfoclhhnhkdaaJvMath
import Derived.Test.YtkmfoclhhnhkdaaNmCmp
namespace Go.Proofs.Ytkmfoclhhnhkdaa
open Go.RowKit
namespace Od
open _root_.Go.Proofs.Ytkmfoclhhnhkdaa.Nm _root_.Go.Proofs.Ytkmfoclhhnhkdaa.Jv
/-- which of two texts is ahead -/
def txC (a b : ByteArray) : Int := if ltB a b = true then -1 else if a = b then 0 else 1
/-- which of two whole numbers is ahead -/
def sgn (a b : Int) : Int := if a < b then -1 else if b < a then 1 else 0
/-- which of two rows of texts is ahead -/
def ksC : List ByteArray → List ByteArray → Int
  | [], us => if us = [] then 0 else -1
  | _ :: _, [] => 1
  | t :: ts, u :: us => if txC t u = 0 then ksC ts us else txC t u
/-- a kind's place -/
def rk (k : Int) : Int := if k < 0 ∨ 7 < k then 8 else k
/-- a number as it counts -/
def clC (c s : Int) : Int := if isB c s = true then c else 0
def clS (c s : Int) : Int := if isB c s = true then s else 0
theorem cl_is (c s : Int) : isB (clC c s) (clS c s) = true := by
  unfold clC clS
  split
  · assumption
  · decide
/-- which of two numbers is ahead -/
def nmC (a b c d : Int) : Int := cmpI (up (clC a b) (clS a b) (mx (clS a b) (clS c d))) (up (clC c d) (clS c d) (mx (clS a b) (clS c d)))
mutual
/-- which of two values is ahead, and how many pairs may still be looked at; none: no answer -/
def cmpV : JV → JV → Nat → Option (Int × Nat)
  | .mk _ _ _ _ _ _, _, 0 => none
  | .mk k c s st is ks, u, L + 1 =>
    if rk k = rk u.k then
      if k = 3 then some (nmC c s u.c u.s, L)
      else if k = 4 ∨ k = 7 then some (txC st u.st, L)
      else if k = 5 then cmpL is u.items L
      else if k = 6 then (if ksC ks u.keys = 0 then cmpL is u.items L else some (ksC ks u.keys, L))
      else some (0, L)
    else some (sgn (rk k) (rk u.k), L)
def cmpL : List JV → List JV → Nat → Option (Int × Nat)
  | [], us, L => some (if us = [] then 0 else -1, L)
  | _ :: _, [], L => some (1, L)
  | t :: ts, u :: us, L => match cmpV t u L with
    | none => none
    | some (c, M) => if c = 0 then cmpL ts us M else some (c, M)
end
theorem cmpV_zero (t u : JV) : cmpV t u 0 = none := by obtain ⟨k, c, s, st, i, ks⟩ := t; simp [cmpV]
theorem cmpV_is (t u : JV) (L : Nat) : cmpV t u (L + 1) = (if rk t.k = rk u.k then
      if t.k = 3 then some (nmC t.c t.s u.c u.s, L)
      else if t.k = 4 ∨ t.k = 7 then some (txC t.st u.st, L)
      else if t.k = 5 then cmpL t.items u.items L
      else if t.k = 6 then (if ksC t.keys u.keys = 0 then cmpL t.items u.items L else some (ksC t.keys u.keys, L))
      else some (0, L)
    else some (sgn (rk t.k) (rk u.k), L)) := by
  obtain ⟨k, c, s, st, i, ks⟩ := t
  rw [cmpV]
  rfl
theorem cmpL_end {ts us : List JV} (h : min ts.length us.length = 0) (L : Nat) : cmpL ts us L = some (sgn ts.length us.length, L) := by
  cases ts with
  | nil =>
    cases us with
    | nil => rfl
    | cons u us => simp [cmpL, sgn]
  | cons t ts =>
    cases us with
    | nil => simp [cmpL, sgn]; omega
    | cons u us => simp at h
theorem cmpL_at {ts us : List JV} {i : Nat} {t u : JV} (h1 : ts[i]? = some t) (h2 : us[i]? = some u) (L : Nat) :
    cmpL (ts.drop i) (us.drop i) L = (match cmpV t u L with | none => none | some (c, M) => if c = 0 then cmpL (ts.drop (i + 1)) (us.drop (i + 1)) M else some (c, M)) := by
  obtain ⟨q1, rfl⟩ := List.getElem?_eq_some_iff.1 h1
  obtain ⟨q2, rfl⟩ := List.getElem?_eq_some_iff.1 h2
  rw [List.drop_eq_getElem_cons q1, List.drop_eq_getElem_cons q2, cmpL]
theorem ksC_end {ts us : List ByteArray} (h : min ts.length us.length = 0) : ksC ts us = sgn ts.length us.length := by
  cases ts with
  | nil =>
    cases us with
    | nil => rfl
    | cons u us => simp [ksC, sgn]
  | cons t ts =>
    cases us with
    | nil => simp [ksC, sgn]; omega
    | cons u us => simp at h
theorem ksC_at {ts us : List ByteArray} {i : Nat} {t u : ByteArray} (h1 : ts[i]? = some t) (h2 : us[i]? = some u) :
    ksC (ts.drop i) (us.drop i) = if txC t u = 0 then ksC (ts.drop (i + 1)) (us.drop (i + 1)) else txC t u := by
  obtain ⟨q1, rfl⟩ := List.getElem?_eq_some_iff.1 h1
  obtain ⟨q2, rfl⟩ := List.getElem?_eq_some_iff.1 h2
  rw [List.drop_eq_getElem_cons q1, List.drop_eq_getElem_cons q2, ksC]
/-- how far two texts are alike -/
theorem bl_at : ∀ (x y : List UInt8) (i : Nat) (a b : UInt8), (∀ j, j < i → x[j]? = y[j]?) → x[i]? = some a → y[i]? = some b → a ≠ b → (Op.bytesLess x y = decide (a < b) ∧ x ≠ y)
  | [], _, i, a, b, _, h, _, _ => by simp at h
  | _ :: _, [], i, a, b, _, _, h, _ => by simp at h
  | c :: x, d :: y, 0, a, b, _, h1, h2, hne => by
    obtain rfl : c = a := by simpa using h1
    obtain rfl : d = b := by simpa using h2
    refine ⟨?_, fun e => hne (List.cons.inj e).1⟩
    have : (c == d) = false := by simpa using hne
    simp [Op.bytesLess, this]
  | c :: x, d :: y, i + 1, a, b, h, h1, h2, hne => by
    obtain rfl : c = d := by simpa using h 0 (by omega)
    obtain ⟨g1, g2⟩ := bl_at x y i a b (fun j hj => by simpa using h (j + 1) (by omega)) (by simpa using h1) (by simpa using h2) hne
    refine ⟨?_, fun e => g2 (List.cons.inj e).2⟩
    simp [Op.bytesLess, g1]
theorem bl_pre : ∀ (x y : List UInt8), (∀ j, j < min x.length y.length → x[j]? = y[j]?) → Op.bytesLess x y = decide (x.length < y.length) ∧ (x.length = y.length → x = y)
  | [], [], _ => by simp [Op.bytesLess]
  | [], _ :: _, _ => by simp [Op.bytesLess]
  | _ :: _, [], _ => by simp [Op.bytesLess]
  | c :: x, d :: y, h => by
    obtain rfl : c = d := by simpa using h 0 (by simp)
    obtain ⟨g1, g2⟩ := bl_pre x y (fun j hj => by simpa using h (j + 1) (by simp; omega))
    refine ⟨by simp [Op.bytesLess, g1], fun e => by rw [g2 (by simpa using e)]⟩
end Od
end Go.Proofs.Ytkmfoclhhnhkdaa
