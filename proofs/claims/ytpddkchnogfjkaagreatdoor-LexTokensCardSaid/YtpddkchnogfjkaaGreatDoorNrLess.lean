/- Rows of digits: less, above. -/
import Derived.Test.YtpddkchnogfjkaaGreatDoorNrSum
namespace Go.Proofs.YtpddkchnogfjkaaGreatDoor
open Go.RowKit
namespace Nm
theorem Ls.sub {a b out : List Nat} {i o x y : Nat} (h : Ls a b out i o) (ha : Dg a) (hb : Dg b) (hx : dat a i = x) (hy : dat b i = y) (g : o + y ≤ x) : Ls a b (out ++ [x - o - y]) (i + 1) 0 := by
  subst hx; subst hy; exact (h.step ha hb).1 g
theorem Ls.owe {a b out : List Nat} {i o x y : Nat} (h : Ls a b out i o) (ha : Dg a) (hb : Dg b) (hx : dat a i = x) (hy : dat b i = y) (g : x < o + y) : Ls a b (out ++ [x + 10 - o - y]) (i + 1) 1 := by
  subst hx; subst hy; exact (h.step ha hb).2 g
theorem above_len {x y : Nat} (h : (dgs x).length ≠ (dgs y).length) : decide ((dgs y).length < (dgs x).length) = decide (y ≤ x) := by
  by_cases g : (dgs y).length < (dgs x).length
  · have := dgs_longer g
    rw [decide_eq_true g, decide_eq_true (by omega)]
  · have := dgs_longer (a := y) (b := x) (by omega)
    rw [decide_eq_false g, decide_eq_false (by omega)]
theorem split_at {l : List Nat} {m d : Nat} (h : l[m]? = some d) : l = l.take m ++ d :: l.drop (m + 1) ∧ (l.take m).length = m := by
  obtain ⟨h1, h2⟩ := List.getElem?_eq_some_iff.1 h
  refine ⟨?_, by rw [List.length_take]; omega⟩
  conv => lhs; rw [← List.take_append_drop m l, List.drop_eq_getElem_cons h1, h2]
theorem above_top {x y m p q : Nat} (hp : (dgs x)[m]? = some p) (hq : (dgs y)[m]? = some q) (he : (dgs x).drop (m + 1) = (dgs y).drop (m + 1)) (hne : p ≠ q) : decide (q < p) = decide (y ≤ x) := by
  obtain ⟨a1, a2⟩ := split_at hp
  obtain ⟨b1, b2⟩ := split_at hq
  rw [he] at a1
  have e1 := dv_dgs x
  have e2 := dv_dgs y
  rw [a1] at e1
  rw [b1] at e2
  have la : ((dgs x).take m).length = ((dgs y).take m).length := by rw [a2, b2]
  by_cases g : q < p
  · have := dv_top (h := (dgs y).drop (m + 1)) la.symm ((Dg_dgs y).take m) g
    rw [decide_eq_true g, decide_eq_true (by omega)]
  · have := dv_top (h := (dgs y).drop (m + 1)) la ((Dg_dgs x).take m) (show p < q by omega)
    rw [decide_eq_false g, decide_eq_false (by omega)]
theorem drop_same {a b : List Nat} {m p : Nat} (hp : a[m]? = some p) (hq : b[m]? = some p) (he : a.drop (m + 1) = b.drop (m + 1)) : a.drop m = b.drop m := by
  obtain ⟨h1, h2⟩ := List.getElem?_eq_some_iff.1 hp
  obtain ⟨h3, h4⟩ := List.getElem?_eq_some_iff.1 hq
  rw [List.drop_eq_getElem_cons h1, List.drop_eq_getElem_cons h3, h2, h4, he]
end Nm
end Go.Proofs.YtpddkchnogfjkaaGreatDoor
