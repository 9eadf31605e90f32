/- What the law LevelMakes does: it answers true. -/
import Derived.Test.YtblmjhnkjbhdmaaLvCheck
namespace Go.Proofs.Ytblmjhnkjbhdmaa
open Go.RowKit
namespace Lv
def liB (n m : Nat) : Bool := decide (n ≤ 20) && decide (m ≤ 100)
set_option maxHeartbeats 400000 in
theorem light_any (a b : Option Addr) (n m c d : Nat) (vp : Value) (w : World) :
    Calls Try.prog 8 #[.agg #[.slice a n c, .slice b m d, vp]] w fun e w' => e = .returned (.bool (liB n m)) ∧ Below w.heap.size w w' := by
  by_cases h1 : n ≤ 20
  · have d1 : decide ((n : Int) ≤ 20) = true := by simp; omega
    by_cases h2 : m ≤ 100
    · have d2 : decide ((m : Int) ≤ 100) = true := by simp; omega
      go_enter Try.func8, Try.ntmps8
      go_wp2
      go_ret
      exact ⟨ret_bool (by simp [liB, h1, h2]), (Below.refl _ _).alloc (Nat.le_refl _) _⟩
    · have d2 : decide ((m : Int) ≤ 100) = false := by simp; omega
      go_enter Try.func8, Try.ntmps8
      go_wp2
      go_ret
      exact ⟨ret_bool (by simp [liB, h2]), (Below.refl _ _).alloc (Nat.le_refl _) _⟩
  · have d1 : decide ((n : Int) ≤ 20) = false := by simp; omega
    go_enter Try.func8, Try.ntmps8
    go_wp2
    go_ret
    exact ⟨ret_bool (by simp [liB, h1]), (Below.refl _ _).alloc (Nat.le_refl _) _⟩
theorem ErrPostEq (ss : List ByteArray) (ps : List (Int × Int)) (w : World) : ErrPost ss ps w = fun e w' => e = .returned (.int .i64 (errOf ss ps)) ∧ Below w.heap.size w w' := rfl
set_option maxHeartbeats 1000000 in
theorem makes_any (vn vb vp : Value) (ss : List ByteArray) (ps : List (Int × Int)) (s : ByteArray) (w : World) (hs : NamesAt w vn ss) (hp : PairsAt w vb ps) (hl : ss.length ≤ maxLen) (hl2 : ps.length ≤ maxLen) (hsl : s.size ≤ maxLen) :
    Calls Try.prog 3 #[.agg #[vn, vb, vp], .string s] w fun e w' => e = .returned (.bool true) ∧ Below w.heap.size w w' := by
  obtain ⟨an, capn, rfl, _, _⟩ := hs.form
  obtain ⟨ab, capb, rfl, _⟩ := hp.form
  go_enter Try.func3, Try.ntmps3
  go_wp2_with fail
  have kb0 : Below w.heap.size w (w.alloc (Obj.cells #[Value.slice an ss.length capn, Value.slice ab ps.length capb, vp] 26)) := (Below.refl _ _).alloc (Nat.le_refl _) _
  have f0 := al_new w (Obj.cells #[Value.slice an ss.length capn, Value.slice ab ps.length capb, vp] 26)
  generalize w.alloc (Obj.cells #[Value.slice an ss.length capn, Value.slice ab ps.length capb, vp] 26) = w0 at kb0 f0
  refine (light_any an ab ss.length ps.length capn capb vp _).mono ?_
  rintro e w1 ⟨rfl, hb1⟩
  have k1 := bt kb0 hb1
  have F1 := bkeep hb1 f0
  have q0 := cell_of_row w1 w.heap.size 0 _ _ _ F1
  have q1 := cell_of_row w1 w.heap.size 1 _ _ _ F1
  have q2 := cell_of_row w1 w.heap.size 2 _ _ _ F1
  have HF := Lib.hid F1
  clear F1 f0 hb1 kb0
  cases hli : liB ss.length ps.length
  · go_wp2_with fail
    refine (lives_any _).mono ?_
    rintro e w2 ⟨rfl, hb2⟩
    go_wp2
    go_ret
    exact ⟨rfl, bt k1 hb2⟩
  · go_wp2_with fail
    refine (new_any _ _ vp ss ps _ (hs.go k1) (hp.go k1) hl hl2).mono ?_
    rintro e w2 ⟨hb2, hcase⟩
    have k2 := bt k1 hb2
    have F2 := bkeep hb2 HF.out
    have r0 := cell_of_row w2 w.heap.size 0 _ _ _ F2
    have r1 := cell_of_row w2 w.heap.size 1 _ _ _ F2
    have r2 := cell_of_row w2 w.heap.size 2 _ _ _ F2
    clear F2 hb2 q0 q1 q2
    rcases hcase with ⟨hg, g, rfl, _, _⟩ | ⟨hg, rfl⟩
    · have HE := Lib.hid (err0 hg)
      clear hg
      go_wp2_with fail
      refine (check_any _ _ vp ss ps _ (hs.go k2) (hp.go k2) hl hl2).mono ?_
      rw [ErrPostEq, HE.out]
      rintro e w3 ⟨rfl, hb3⟩
      have k3 := bt k2 hb3
      clear hb3 k2
      go_wp2_with (first | (go_at_call 12; refine (name_any _ _ hsl).mono ?_; rintro e w' ⟨rfl, rfl⟩) | (go_at_call 13; refine (rname_any _ _ hsl).mono ?_; rintro e w' ⟨rfl, rfl⟩))
      refine (lives_any _).mono ?_
      rintro e w4 ⟨rfl, hb4⟩
      go_wp2
      go_ret
      exact ⟨rfl, bt k3 hb4⟩
    · have HE := Lib.hid (errOf_ne hg)
      clear hg
      generalize her : errOf ss ps = er at HE
      have HER := Lib.hid her
      clear her
      have e1 : (er == 0) = false := by simpa using HE.out
      go_wp2_with fail
      refine (check_any _ _ vp ss ps _ (hs.go k2) (hp.go k2) hl hl2).mono ?_
      rw [ErrPostEq, HER.out]
      rintro e w3 ⟨rfl, hb3⟩
      have k3 := bt k2 hb3
      clear hb3 k2
      go_wp2_with (first | (go_at_call 12; refine (name_any _ _ hsl).mono ?_; rintro e w' ⟨rfl, rfl⟩) | (go_at_call 13; refine (rname_any _ _ hsl).mono ?_; rintro e w' ⟨rfl, rfl⟩))
      refine (lives_any _).mono ?_
      rintro e w4 ⟨rfl, hb4⟩
      go_wp2
      go_ret
      exact ⟨rfl, bt k3 hb4⟩
end Lv
end Go.Proofs.Ytblmjhnkjbhdmaa
