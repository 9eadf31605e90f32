/- The document's table of levels is the closure of its pairs. No condition. -/
import Derived.Test.YtmfdclnepmgmlaaLvMath
namespace Go.Proofs.Ytmfdclnepmgmlaa
open Go.RowKit
namespace Lv
/-- one pair, laid on a row -/
def stepP (f : Nat → Bool) (p : Int × Int) : Nat → Bool := if f p.1.toNat = true then fun z => decide (z = p.2.toNat) || f z else f
def passP (ps : List (Int × Int)) (f : Nat → Bool) : Nat → Bool := ps.foldl stepP f
def iterP (ps : List (Int × Int)) (a : Nat) : Nat → Nat → Bool
  | 0 => fun z => decide (z = a)
  | k + 1 => passP ps (iterP ps a k)
def tabR (ps : List (Int × Int)) (n : Nat) : Nat → Nat → Bool := fun a => iterP ps a n
theorem stepP_le (f : Nat → Bool) (p : Int × Int) (z : Nat) (h : f z = true) : stepP f p z = true := by
  unfold stepP
  split
  · simp [h]
  · exact h
theorem passP_le : ∀ (ps : List (Int × Int)) (f : Nat → Bool) (z : Nat), f z = true → passP ps f z = true
  | [], _, _, h => h
  | p :: ps, f, z, h => passP_le ps (stepP f p) z (stepP_le f p z h)
/-- what is set follows -/
theorem passP_in {P : Nat → Prop} : ∀ (ps : List (Int × Int)) (f : Nat → Bool), (∀ z, f z = true → P z) → (∀ p, p ∈ ps → P p.1.toNat → P p.2.toNat) → ∀ z, passP ps f z = true → P z
  | [], _, h, _, z, hz => h z hz
  | p :: ps, f, h, hp, z, hz => by
    refine passP_in ps (stepP f p) (fun y hy => ?_) (fun q hq => hp q (by simp [hq])) z hz
    unfold stepP at hy
    split at hy
    · rename_i hx
      simp only [Bool.or_eq_true, decide_eq_true_eq] at hy
      rcases hy with rfl | hy
      · exact hp p (by simp) (h _ hx)
      · exact h y hy
    · exact h y hy
def ClosedP (ps : List (Int × Int)) (f : Nat → Bool) : Prop := ∀ p, p ∈ ps → f p.1.toNat = true → f p.2.toNat = true
/-- a pass sets what its pairs lead to from what was set -/
theorem passP_sets : ∀ (ps : List (Int × Int)) (f : Nat → Bool) (p : Int × Int), p ∈ ps → f p.1.toNat = true → passP ps f p.2.toNat = true
  | q :: ps, f, p, hm, hf => by
    rcases List.mem_cons.1 hm with rfl | hm
    · refine passP_le ps (stepP f p) _ ?_
      simp [stepP, hf]
    · exact passP_sets ps (stepP f q) p hm (stepP_le f q _ hf)
theorem passP_closed {ps : List (Int × Int)} {f : Nat → Bool} (h : ClosedP ps f) : ∀ z, passP ps f z = true → f z = true :=
  passP_in ps f (fun _ hz => hz) h
def cntP (n : Nat) (f : Nat → Bool) : Nat := (List.range n).countP f
theorem iterP_count {ps : List (Int × Int)} {n a : Nat} (ha : a < n) (hr : prB ps n = true) : ∀ k, ClosedP ps (iterP ps a k) ∨ k + 1 ≤ cntP n (iterP ps a k)
  | 0 => .inr (by
      have : 0 < cntP n (iterP ps a 0) := List.countP_pos_iff.2 ⟨a, by simpa using ha, by simp [iterP]⟩
      omega)
  | k + 1 => by
    rcases iterP_count ha hr k with h | h
    · left
      intro p hp hf
      exact passP_le ps _ _ (h p hp (passP_closed h _ hf))
    · by_cases hc : ClosedP ps (iterP ps a k)
      · left
        intro p hp hf
        exact passP_le ps _ _ (hc p hp (passP_closed hc _ hf))
      · right
        have : cntP n (iterP ps a k) < cntP n (iterP ps a (k + 1)) := by
          refine countP_lt _ (fun z _ hz => passP_le ps _ z hz) ?_
          false_or_by_contra
          rename_i hno
          apply hc
          intro p hp hf
          cases h2 : iterP ps a k p.2.toNat with
          | true => rfl
          | false =>
            obtain ⟨i, hi⟩ := List.getElem?_of_mem hp
            have hb := prB_get hr hi
            exact absurd ⟨p.2.toNat, by simp; omega, h2, passP_sets ps _ p hp hf⟩ hno
        omega
theorem tab_closed {ps : List (Int × Int)} {n a : Nat} (ha : a < n) (hr : prB ps n = true) : ClosedP ps (tabR ps n a) := by
  rcases iterP_count ha hr n with h | h
  · exact h
  · have : cntP n (iterP ps a n) ≤ n := by
      have := List.countP_le_length (p := iterP ps a n) (l := List.range n)
      simpa [cntP] using this
    omega
theorem iterP_has {ps : List (Int × Int)} {a : Nat} : ∀ k, iterP ps a k a = true
  | 0 => by simp [iterP]
  | k + 1 => passP_le ps _ _ (iterP_has k)
theorem tab_cl {ps : List (Int × Int)} {n : Nat} (hn : n ≤ 8) (hr : prB ps n = true) (a b : Nat) (ha : a < n) : tabR ps n a b = cl ps n a b := by
  rw [Bool.eq_iff_iff]
  constructor
  · have key : ∀ k z, iterP ps a k z = true → z < n ∧ cl ps n a z = true := by
      intro k
      induction k with
      | zero =>
        intro z hz
        simp [iterP] at hz
        subst hz
        exact ⟨ha, clo_sub _ z z (by omega) (by omega) (by simp [pairT, ha])⟩
      | succ k ih =>
        refine passP_in (P := fun z => z < n ∧ cl ps n a z = true) ps _ ih fun p hp hq => ?_
        obtain ⟨i, hi⟩ := List.getElem?_of_mem hp
        have hbd := prB_get hr hi
        refine ⟨by omega, clo_trans _ a p.1.toNat p.2.toNat (by omega) (by omega) (by omega) hq.2 (clo_sub _ _ _ (by omega) (by omega) ?_)⟩
        unfold pairT
        simp only [Bool.or_eq_true, List.any_eq_true, Bool.and_eq_true, decide_eq_true_eq]
        exact .inr ⟨p, hp, by omega, by omega⟩
    exact fun h => (key n b h).2
  · intro h
    have hc := tab_closed ha hr
    have := clo_least (r := pairT ps n) (t := fun x y => !tabR ps n a x || tabR ps n a y) (fun x y z _ _ _ h1 h2 => by
      cases hx : tabR ps n a x <;> cases hy : tabR ps n a y <;> simp_all) (fun x y _ _ hp => by
      unfold pairT at hp
      simp only [Bool.or_eq_true, List.any_eq_true, Bool.and_eq_true, decide_eq_true_eq] at hp
      rcases hp with ⟨rfl, _⟩ | ⟨p, hm, e1, e2⟩
      · dsimp only
        cases tabR ps n a x <;> rfl
      · have h3 := hc p hm
        rw [show p.1.toNat = x by omega, show p.2.toNat = y by omega] at h3
        dsimp only
        cases hx : tabR ps n a x
        · rfl
        · simp [h3 hx]) h
    simpa [show tabR ps n a a = true from iterP_has n] using this
end Lv
end Go.Proofs.Ytmfdclnepmgmlaa
