/- What New makes of one of the document's policies. No condition. -/
import Derived.Test.YtmfdclnepmgmlaaLvSort
import Derived.Test.YtmfdclnepmgmlaaLvMath
namespace Go.Proofs.Ytmfdclnepmgmlaa
open Go.RowKit
namespace Lv
/-- how many levels the policy k has -/
def sz (k : Nat) : Nat := (sn k).length
/-- which is below which -/
noncomputable def sr (k : Nat) : Nat → Nat → Bool := cl (sp k) (sz k)
noncomputable def sj (k : Nat) : Nat → Nat → Nat := joinT (sr k) (sz k)
noncomputable def se (k : Nat) : Nat → Nat → Nat := joinT (trn (sr k)) (sz k)
noncomputable def sbo (k : Nat) : Nat := foldT (se k) (sz k)
noncomputable def stp (k : Nat) : Nat := foldT (sj k) (sz k)
/-- the lattice of the policy k stands at block g -/
def SLat (w : World) (g k : Nat) : Prop := LatAt w g (sz k) (nmOf (sn k)) (sr k) (sj k) (se k) (sbo k) (stp k)
theorem SLat.go {w w1 : World} {g k : Nat} (h : SLat w g k) (hb : Below w.heap.size w w1) : SLat w1 g k := bkeep hb h
theorem sz_le (k : Nat) : sz k ≤ 8 := (sort_good k).names.2.1
theorem sz_pos (k : Nat) : 1 ≤ sz k := (sort_good k).names.1
theorem sr_ord (k : Nat) : Ord (sr k) (sz k) := good_ord (sort_good k)
theorem sr_j (k : Nat) : IsJ (sr k) (sz k) (sj k) := good_j (sort_good k)
theorem sr_m (k : Nat) : IsJ (trn (sr k)) (sz k) (se k) := good_m (sort_good k)
theorem sr_is (k a b : Nat) (ha : a < 8) (hb : b < 8) : sr k a b = tm (sm k) a b := sort_cl k a b ha hb
def SNewPost (k : Nat) (w : World) (e : Ending) (w' : World) : Prop := Below w.heap.size w w' ∧ ∃ g, e = .returned (.tuple #[.pointer (some ⟨g, 0, none⟩), .int .i64 0]) ∧ w.heap.size ≤ g ∧ SLat w' g k
theorem sort_len (k : Nat) : (sn k).length ≤ maxLen ∧ (sp k).length ≤ maxLen := by
  have h1 := (sort_good k).names.2.1
  have h2 := (sort_good k).pairs
  unfold prB at h2
  simp only [Bool.and_eq_true, decide_eq_true_eq] at h2
  unfold maxLen
  omega
theorem new_sort (k : Nat) (vn vb vp : Value) (w : World) (hn : NamesAt w vn (sn k)) (hp : PairsAt w vb (sp k)) :
    Calls Try.prog 10 #[.agg #[vn, vb, vp]] w (SNewPost k w) := by
  refine (new_any vn vb vp _ _ w hn hp (sort_len k).1 (sort_len k).2).mono ?_
  rintro e w2 ⟨hb2, h⟩
  rcases h with ⟨_, g, rfl, hg, hL⟩ | ⟨hbad, _⟩
  · exact ⟨hb2, g, rfl, hg, hL⟩
  · exact absurd (sort_good k) hbad
end Lv
end Go.Proofs.Ytmfdclnepmgmlaa
