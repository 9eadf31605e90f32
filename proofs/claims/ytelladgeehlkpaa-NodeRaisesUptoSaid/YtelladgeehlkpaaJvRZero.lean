/- The document's Is, of every value whose texts are not too long. -/
import Derived.Test.YtelladgeehlkpaaPn
import Derived.Test.YtelladgeehlkpaaPj
import Derived.Deep.DeepCutAuto
namespace Go.Proofs.Ytelladgeehlkpaa
open Go.RowKit
namespace Jv
open _root_.Go.Proofs.Ytelladgeehlkpaa.Nm
open _root_.Go.Proofs.Ytelladgeehlkpaa.Ut (byt vldB)
theorem emp_yes : (⟨#[]⟩ : ByteArray).toList.isEmpty = true := by rw [Lib.toList_data]; rfl
theorem emp_no {st : ByteArray} (h : ¬ st = ⟨#[]⟩) : st.toList.isEmpty = false := by
  rw [List.isEmpty_eq_false_iff]
  intro e
  exact h (toList_inj (by rw [e, List.isEmpty_iff.1 emp_yes]))
set_option maxRecDepth 100000 in
theorem run_leR (x y : ByteArray) (w : World) : (binOp .leq 9 (.string x) (.string y)).run Try.prog w = .ok (.bool (leB x y)) w := by
  simp [binOp, Op.stringOp, leB, go_sem]
set_option maxRecDepth 100000 in
set_option maxHeartbeats 1000000 in
theorem rnum_any (c s : Int) (w : World) :
    Calls Try.prog 73 #[.agg #[.int .i64 c, .int .i64 s]] w fun e w' => e = .returned (.bool (isB c s)) ∧ Below w.heap.size w w' := by
  by_cases h1 : s < 0
  · have e : Hid (isB c s = false) := Lib.hid (decide_eq_false (by omega))
    go_enter Try.func73, Try.ntmps73
    go_wp2
    go_ret
    exact ⟨ret_bool e.out.symm, bA1 _ _⟩
  by_cases h2 : 9 < s
  · have e : Hid (isB c s = false) := Lib.hid (decide_eq_false (by omega))
    go_enter Try.func73, Try.ntmps73
    go_wp2
    go_ret
    exact ⟨ret_bool e.out.symm, bA1 _ _⟩
  by_cases h4 : 1000000000000000 ≤ c
  · have e : Hid (isB c s = false) := Lib.hid (decide_eq_false (by omega))
    go_enter Try.func73, Try.ntmps73
    go_wp2
    go_ret
    exact ⟨ret_bool e.out.symm, bA1 _ _⟩
  by_cases h3 : c ≤ -1000000000000000
  · have e : Hid (isB c s = false) := Lib.hid (decide_eq_false (by omega))
    go_enter Try.func73, Try.ntmps73
    go_wp2
    go_ret
    exact ⟨ret_bool e.out.symm, bA1 _ _⟩
  by_cases h5 : s = 0
  · subst h5
    have e : Hid (isB c 0 = true) := Lib.hid (decide_eq_true (by omega))
    go_enter Try.func73, Try.ntmps73
    go_wp2
    go_ret
    exact ⟨ret_bool e.out.symm, bA1 _ _⟩
  have hs0 : (s == 0) = false := by simp; omega
  obtain ⟨t, ht⟩ : ∃ t, c.tmod 10 = t := ⟨_, rfl⟩
  have hb : -10 < t := by rw [← ht]; exact Int.lt_tmod_of_pos c (by decide)
  have hb' : t < 10 := by rw [← ht]; exact Int.tmod_lt_of_pos c (by decide)
  by_cases h6 : t = 0
  · have e : Hid (isB c s = false) := Lib.hid (decide_eq_false (by rw [ht]; omega))
    subst h6
    go_enter Try.func73, Try.ntmps73
    go_wp2
    go_ret
    exact ⟨ret_bool e.out.symm, bA1 _ _⟩
  · have e : Hid (isB c s = true) := Lib.hid (decide_eq_true (by rw [ht]; omega))
    have hz : (t == 0) = false := by simp; omega
    have hz' : (t != 0) = true := by simp; omega
    go_enter Try.func73, Try.ntmps73
    go_wp2
    go_ret
    exact ⟨ret_bool e.out.symm, bA1 _ _⟩
set_option maxRecDepth 100000 in
set_option maxHeartbeats 8000000 in
theorem rzero_any (n : Nat) (x : Six) (t : JV) (w : World) (hv : VT w n x t) :
    Calls Try.prog 71 #[x.val] w fun e w' => e = .returned (.bool (zeroT t)) ∧ Below w.heap.size w w' := by
  obtain ⟨b, hb⟩ : ∃ b, zeroT t = b := ⟨_, rfl⟩
  rw [hb]
  cases n with
  | zero => exact hv.elim
  | succ n =>
  obtain ⟨e1, e2, e3, e4, e5, hB, l, hl, hll, hlt⟩ := hv
  obtain ⟨k, c, s, st, iv, kv⟩ := x
  obtain ⟨ao, cap, hiv, hc, h⟩ := hl.form
  obtain ⟨ko, kc, hkv, hkl, hkh⟩ := e5.form
  simp only at e1 e2 e3 e4 hiv hkv
  subst hiv hkv
  have HZ : Hid (b = true ↔ ((k ≠ 3 → c = 0 ∧ s = 0) ∧ (k ≠ 4 → k ≠ 7 → st = ⟨#[]⟩) ∧ (k ≠ 5 → k ≠ 6 → l.length = 0) ∧ (k ≠ 6 → t.keys.length = 0))) := Lib.hid (by
    rw [← hb, zeroT_iff, ZeroP, e1, e2, e3, e4, hll, List.length_eq_zero_iff, List.length_eq_zero_iff])
  have hmx : l.length ≤ maxLen := by obtain ⟨_, _, q1, q2, q3, _⟩ := hl; omega
  have hmk : t.keys.length ≤ maxLen := by obtain ⟨_, _, q1, q2, q3, _⟩ := e5; omega
  unfold maxLen at hmx hmk
  clear hb e1 e2 e3 e4 e5 hB hl hll hlt h hkh
  have h00 := emp_yes
  unfold Six.val vV
  by_cases k3 : k = 3
  · subst k3
    by_cases hst0 : st = ⟨#[]⟩
    · have hst0b : st.toList.isEmpty = true := by rw [hst0]; exact emp_yes
      by_cases hit0 : l.length = 0
      · have hit0b : ((l.length : Int) == 0) = true := by rw [hit0]; rfl
        by_cases hke0 : t.keys.length = 0
        · have hke0b : ((t.keys.length : Int) == 0) = true := by rw [hke0]; rfl
          have HF : Hid (b = true) := Lib.hid (HZ.out.2 ⟨fun _ => ⟨by first | assumption | omega, by first | assumption | omega⟩, fun _ _ => by first | assumption | omega, fun _ _ => by first | assumption | omega, fun _ => by first | assumption | omega⟩)
          clear HZ
          go_enter Try.func71, Try.ntmps71
          go_wp2_with fail
          go_ret
          exact ⟨by rw [HF.out]; rfl, bA1 _ _⟩
        · have hke0b : ((t.keys.length : Int) == 0) = false := by rw [beq_eq_false_iff_ne]; omega
          have HF : Hid (b = false) := Lib.hid (by
            rw [Bool.eq_false_iff]; intro h
            obtain ⟨g1, g2, g3, g4⟩ := HZ.out.1 h
            first | exact absurd (g1 (by omega)).1 (by assumption) | exact absurd (g1 (by omega)).2 (by assumption) | exact absurd (g2 (by omega) (by omega)) (by assumption) | exact absurd (g3 (by omega) (by omega)) (by assumption) | exact absurd (g4 (by omega)) (by assumption))
          clear HZ
          go_enter Try.func71, Try.ntmps71
          go_wp2_with fail
          go_ret
          exact ⟨by rw [HF.out]; rfl, bA1 _ _⟩
      · have hit0b : ((l.length : Int) == 0) = false := by rw [beq_eq_false_iff_ne]; omega
        have HF : Hid (b = false) := Lib.hid (by
          rw [Bool.eq_false_iff]; intro h
          obtain ⟨g1, g2, g3, g4⟩ := HZ.out.1 h
          first | exact absurd (g1 (by omega)).1 (by assumption) | exact absurd (g1 (by omega)).2 (by assumption) | exact absurd (g2 (by omega) (by omega)) (by assumption) | exact absurd (g3 (by omega) (by omega)) (by assumption) | exact absurd (g4 (by omega)) (by assumption))
        clear HZ
        go_enter Try.func71, Try.ntmps71
        go_wp2_with fail
        go_ret
        exact ⟨by rw [HF.out]; rfl, bA1 _ _⟩
    · have hst0b : st.toList.isEmpty = false := emp_no hst0
      have HF : Hid (b = false) := Lib.hid (by
        rw [Bool.eq_false_iff]; intro h
        obtain ⟨g1, g2, g3, g4⟩ := HZ.out.1 h
        first | exact absurd (g1 (by omega)).1 (by assumption) | exact absurd (g1 (by omega)).2 (by assumption) | exact absurd (g2 (by omega) (by omega)) (by assumption) | exact absurd (g3 (by omega) (by omega)) (by assumption) | exact absurd (g4 (by omega)) (by assumption))
      clear HZ
      go_enter Try.func71, Try.ntmps71
      go_wp2_with fail
      go_ret
      exact ⟨by rw [HF.out]; rfl, bA1 _ _⟩
  by_cases k4 : k = 4
  · subst k4
    by_cases hc0 : c = 0
    · have hc0b : (c == 0) = true := by simpa using hc0
      by_cases hs0 : s = 0
      · have hs0b : (s == 0) = true := by simpa using hs0
        by_cases hit0 : l.length = 0
        · have hit0b : ((l.length : Int) == 0) = true := by rw [hit0]; rfl
          by_cases hke0 : t.keys.length = 0
          · have hke0b : ((t.keys.length : Int) == 0) = true := by rw [hke0]; rfl
            have HF : Hid (b = true) := Lib.hid (HZ.out.2 ⟨fun _ => ⟨by first | assumption | omega, by first | assumption | omega⟩, fun _ _ => by first | assumption | omega, fun _ _ => by first | assumption | omega, fun _ => by first | assumption | omega⟩)
            clear HZ
            go_enter Try.func71, Try.ntmps71
            go_wp2_with fail
            go_ret
            exact ⟨by rw [HF.out]; rfl, bA1 _ _⟩
          · have hke0b : ((t.keys.length : Int) == 0) = false := by rw [beq_eq_false_iff_ne]; omega
            have HF : Hid (b = false) := Lib.hid (by
              rw [Bool.eq_false_iff]; intro h
              obtain ⟨g1, g2, g3, g4⟩ := HZ.out.1 h
              first | exact absurd (g1 (by omega)).1 (by assumption) | exact absurd (g1 (by omega)).2 (by assumption) | exact absurd (g2 (by omega) (by omega)) (by assumption) | exact absurd (g3 (by omega) (by omega)) (by assumption) | exact absurd (g4 (by omega)) (by assumption))
            clear HZ
            go_enter Try.func71, Try.ntmps71
            go_wp2_with fail
            go_ret
            exact ⟨by rw [HF.out]; rfl, bA1 _ _⟩
        · have hit0b : ((l.length : Int) == 0) = false := by rw [beq_eq_false_iff_ne]; omega
          have HF : Hid (b = false) := Lib.hid (by
            rw [Bool.eq_false_iff]; intro h
            obtain ⟨g1, g2, g3, g4⟩ := HZ.out.1 h
            first | exact absurd (g1 (by omega)).1 (by assumption) | exact absurd (g1 (by omega)).2 (by assumption) | exact absurd (g2 (by omega) (by omega)) (by assumption) | exact absurd (g3 (by omega) (by omega)) (by assumption) | exact absurd (g4 (by omega)) (by assumption))
          clear HZ
          go_enter Try.func71, Try.ntmps71
          go_wp2_with fail
          go_ret
          exact ⟨by rw [HF.out]; rfl, bA1 _ _⟩
      · have hs0b : (s == 0) = false := by simpa using hs0
        have HF : Hid (b = false) := Lib.hid (by
          rw [Bool.eq_false_iff]; intro h
          obtain ⟨g1, g2, g3, g4⟩ := HZ.out.1 h
          first | exact absurd (g1 (by omega)).1 (by assumption) | exact absurd (g1 (by omega)).2 (by assumption) | exact absurd (g2 (by omega) (by omega)) (by assumption) | exact absurd (g3 (by omega) (by omega)) (by assumption) | exact absurd (g4 (by omega)) (by assumption))
        clear HZ
        go_enter Try.func71, Try.ntmps71
        go_wp2_with fail
        go_ret
        exact ⟨by rw [HF.out]; rfl, bA1 _ _⟩
    · have hc0b : (c == 0) = false := by simpa using hc0
      have HF : Hid (b = false) := Lib.hid (by
        rw [Bool.eq_false_iff]; intro h
        obtain ⟨g1, g2, g3, g4⟩ := HZ.out.1 h
        first | exact absurd (g1 (by omega)).1 (by assumption) | exact absurd (g1 (by omega)).2 (by assumption) | exact absurd (g2 (by omega) (by omega)) (by assumption) | exact absurd (g3 (by omega) (by omega)) (by assumption) | exact absurd (g4 (by omega)) (by assumption))
      clear HZ
      go_enter Try.func71, Try.ntmps71
      go_wp2_with fail
      go_ret
      exact ⟨by rw [HF.out]; rfl, bA1 _ _⟩
  by_cases k5 : k = 5
  · subst k5
    by_cases hc0 : c = 0
    · have hc0b : (c == 0) = true := by simpa using hc0
      by_cases hs0 : s = 0
      · have hs0b : (s == 0) = true := by simpa using hs0
        by_cases hst0 : st = ⟨#[]⟩
        · have hst0b : st.toList.isEmpty = true := by rw [hst0]; exact emp_yes
          by_cases hke0 : t.keys.length = 0
          · have hke0b : ((t.keys.length : Int) == 0) = true := by rw [hke0]; rfl
            have HF : Hid (b = true) := Lib.hid (HZ.out.2 ⟨fun _ => ⟨by first | assumption | omega, by first | assumption | omega⟩, fun _ _ => by first | assumption | omega, fun _ _ => by first | assumption | omega, fun _ => by first | assumption | omega⟩)
            clear HZ
            go_enter Try.func71, Try.ntmps71
            go_wp2_with fail
            go_ret
            exact ⟨by rw [HF.out]; rfl, bA1 _ _⟩
          · have hke0b : ((t.keys.length : Int) == 0) = false := by rw [beq_eq_false_iff_ne]; omega
            have HF : Hid (b = false) := Lib.hid (by
              rw [Bool.eq_false_iff]; intro h
              obtain ⟨g1, g2, g3, g4⟩ := HZ.out.1 h
              first | exact absurd (g1 (by omega)).1 (by assumption) | exact absurd (g1 (by omega)).2 (by assumption) | exact absurd (g2 (by omega) (by omega)) (by assumption) | exact absurd (g3 (by omega) (by omega)) (by assumption) | exact absurd (g4 (by omega)) (by assumption))
            clear HZ
            go_enter Try.func71, Try.ntmps71
            go_wp2_with fail
            go_ret
            exact ⟨by rw [HF.out]; rfl, bA1 _ _⟩
        · have hst0b : st.toList.isEmpty = false := emp_no hst0
          have HF : Hid (b = false) := Lib.hid (by
            rw [Bool.eq_false_iff]; intro h
            obtain ⟨g1, g2, g3, g4⟩ := HZ.out.1 h
            first | exact absurd (g1 (by omega)).1 (by assumption) | exact absurd (g1 (by omega)).2 (by assumption) | exact absurd (g2 (by omega) (by omega)) (by assumption) | exact absurd (g3 (by omega) (by omega)) (by assumption) | exact absurd (g4 (by omega)) (by assumption))
          clear HZ
          go_enter Try.func71, Try.ntmps71
          go_wp2_with fail
          go_ret
          exact ⟨by rw [HF.out]; rfl, bA1 _ _⟩
      · have hs0b : (s == 0) = false := by simpa using hs0
        have HF : Hid (b = false) := Lib.hid (by
          rw [Bool.eq_false_iff]; intro h
          obtain ⟨g1, g2, g3, g4⟩ := HZ.out.1 h
          first | exact absurd (g1 (by omega)).1 (by assumption) | exact absurd (g1 (by omega)).2 (by assumption) | exact absurd (g2 (by omega) (by omega)) (by assumption) | exact absurd (g3 (by omega) (by omega)) (by assumption) | exact absurd (g4 (by omega)) (by assumption))
        clear HZ
        go_enter Try.func71, Try.ntmps71
        go_wp2_with fail
        go_ret
        exact ⟨by rw [HF.out]; rfl, bA1 _ _⟩
    · have hc0b : (c == 0) = false := by simpa using hc0
      have HF : Hid (b = false) := Lib.hid (by
        rw [Bool.eq_false_iff]; intro h
        obtain ⟨g1, g2, g3, g4⟩ := HZ.out.1 h
        first | exact absurd (g1 (by omega)).1 (by assumption) | exact absurd (g1 (by omega)).2 (by assumption) | exact absurd (g2 (by omega) (by omega)) (by assumption) | exact absurd (g3 (by omega) (by omega)) (by assumption) | exact absurd (g4 (by omega)) (by assumption))
      clear HZ
      go_enter Try.func71, Try.ntmps71
      go_wp2_with fail
      go_ret
      exact ⟨by rw [HF.out]; rfl, bA1 _ _⟩
  by_cases k6 : k = 6
  · subst k6
    by_cases hc0 : c = 0
    · have hc0b : (c == 0) = true := by simpa using hc0
      by_cases hs0 : s = 0
      · have hs0b : (s == 0) = true := by simpa using hs0
        by_cases hst0 : st = ⟨#[]⟩
        · have hst0b : st.toList.isEmpty = true := by rw [hst0]; exact emp_yes
          have HF : Hid (b = true) := Lib.hid (HZ.out.2 ⟨fun _ => ⟨by first | assumption | omega, by first | assumption | omega⟩, fun _ _ => by first | assumption | omega, fun _ _ => by first | assumption | omega, fun _ => by first | assumption | omega⟩)
          clear HZ
          go_enter Try.func71, Try.ntmps71
          go_wp2_with fail
          go_ret
          exact ⟨by rw [HF.out]; rfl, bA1 _ _⟩
        · have hst0b : st.toList.isEmpty = false := emp_no hst0
          have HF : Hid (b = false) := Lib.hid (by
            rw [Bool.eq_false_iff]; intro h
            obtain ⟨g1, g2, g3, g4⟩ := HZ.out.1 h
            first | exact absurd (g1 (by omega)).1 (by assumption) | exact absurd (g1 (by omega)).2 (by assumption) | exact absurd (g2 (by omega) (by omega)) (by assumption) | exact absurd (g3 (by omega) (by omega)) (by assumption) | exact absurd (g4 (by omega)) (by assumption))
          clear HZ
          go_enter Try.func71, Try.ntmps71
          go_wp2_with fail
          go_ret
          exact ⟨by rw [HF.out]; rfl, bA1 _ _⟩
      · have hs0b : (s == 0) = false := by simpa using hs0
        have HF : Hid (b = false) := Lib.hid (by
          rw [Bool.eq_false_iff]; intro h
          obtain ⟨g1, g2, g3, g4⟩ := HZ.out.1 h
          first | exact absurd (g1 (by omega)).1 (by assumption) | exact absurd (g1 (by omega)).2 (by assumption) | exact absurd (g2 (by omega) (by omega)) (by assumption) | exact absurd (g3 (by omega) (by omega)) (by assumption) | exact absurd (g4 (by omega)) (by assumption))
        clear HZ
        go_enter Try.func71, Try.ntmps71
        go_wp2_with fail
        go_ret
        exact ⟨by rw [HF.out]; rfl, bA1 _ _⟩
    · have hc0b : (c == 0) = false := by simpa using hc0
      have HF : Hid (b = false) := Lib.hid (by
        rw [Bool.eq_false_iff]; intro h
        obtain ⟨g1, g2, g3, g4⟩ := HZ.out.1 h
        first | exact absurd (g1 (by omega)).1 (by assumption) | exact absurd (g1 (by omega)).2 (by assumption) | exact absurd (g2 (by omega) (by omega)) (by assumption) | exact absurd (g3 (by omega) (by omega)) (by assumption) | exact absurd (g4 (by omega)) (by assumption))
      clear HZ
      go_enter Try.func71, Try.ntmps71
      go_wp2_with fail
      go_ret
      exact ⟨by rw [HF.out]; rfl, bA1 _ _⟩
  by_cases k7 : k = 7
  · subst k7
    by_cases hc0 : c = 0
    · have hc0b : (c == 0) = true := by simpa using hc0
      by_cases hs0 : s = 0
      · have hs0b : (s == 0) = true := by simpa using hs0
        by_cases hit0 : l.length = 0
        · have hit0b : ((l.length : Int) == 0) = true := by rw [hit0]; rfl
          by_cases hke0 : t.keys.length = 0
          · have hke0b : ((t.keys.length : Int) == 0) = true := by rw [hke0]; rfl
            have HF : Hid (b = true) := Lib.hid (HZ.out.2 ⟨fun _ => ⟨by first | assumption | omega, by first | assumption | omega⟩, fun _ _ => by first | assumption | omega, fun _ _ => by first | assumption | omega, fun _ => by first | assumption | omega⟩)
            clear HZ
            go_enter Try.func71, Try.ntmps71
            go_wp2_with fail
            go_ret
            exact ⟨by rw [HF.out]; rfl, bA1 _ _⟩
          · have hke0b : ((t.keys.length : Int) == 0) = false := by rw [beq_eq_false_iff_ne]; omega
            have HF : Hid (b = false) := Lib.hid (by
              rw [Bool.eq_false_iff]; intro h
              obtain ⟨g1, g2, g3, g4⟩ := HZ.out.1 h
              first | exact absurd (g1 (by omega)).1 (by assumption) | exact absurd (g1 (by omega)).2 (by assumption) | exact absurd (g2 (by omega) (by omega)) (by assumption) | exact absurd (g3 (by omega) (by omega)) (by assumption) | exact absurd (g4 (by omega)) (by assumption))
            clear HZ
            go_enter Try.func71, Try.ntmps71
            go_wp2_with fail
            go_ret
            exact ⟨by rw [HF.out]; rfl, bA1 _ _⟩
        · have hit0b : ((l.length : Int) == 0) = false := by rw [beq_eq_false_iff_ne]; omega
          have HF : Hid (b = false) := Lib.hid (by
            rw [Bool.eq_false_iff]; intro h
            obtain ⟨g1, g2, g3, g4⟩ := HZ.out.1 h
            first | exact absurd (g1 (by omega)).1 (by assumption) | exact absurd (g1 (by omega)).2 (by assumption) | exact absurd (g2 (by omega) (by omega)) (by assumption) | exact absurd (g3 (by omega) (by omega)) (by assumption) | exact absurd (g4 (by omega)) (by assumption))
          clear HZ
          go_enter Try.func71, Try.ntmps71
          go_wp2_with fail
          go_ret
          exact ⟨by rw [HF.out]; rfl, bA1 _ _⟩
      · have hs0b : (s == 0) = false := by simpa using hs0
        have HF : Hid (b = false) := Lib.hid (by
          rw [Bool.eq_false_iff]; intro h
          obtain ⟨g1, g2, g3, g4⟩ := HZ.out.1 h
          first | exact absurd (g1 (by omega)).1 (by assumption) | exact absurd (g1 (by omega)).2 (by assumption) | exact absurd (g2 (by omega) (by omega)) (by assumption) | exact absurd (g3 (by omega) (by omega)) (by assumption) | exact absurd (g4 (by omega)) (by assumption))
        clear HZ
        go_enter Try.func71, Try.ntmps71
        go_wp2_with fail
        go_ret
        exact ⟨by rw [HF.out]; rfl, bA1 _ _⟩
    · have hc0b : (c == 0) = false := by simpa using hc0
      have HF : Hid (b = false) := Lib.hid (by
        rw [Bool.eq_false_iff]; intro h
        obtain ⟨g1, g2, g3, g4⟩ := HZ.out.1 h
        first | exact absurd (g1 (by omega)).1 (by assumption) | exact absurd (g1 (by omega)).2 (by assumption) | exact absurd (g2 (by omega) (by omega)) (by assumption) | exact absurd (g3 (by omega) (by omega)) (by assumption) | exact absurd (g4 (by omega)) (by assumption))
      clear HZ
      go_enter Try.func71, Try.ntmps71
      go_wp2_with fail
      go_ret
      exact ⟨by rw [HF.out]; rfl, bA1 _ _⟩
  have k3b : (k == 3) = false := by simpa using k3
  have k3c : (k != 3) = true := by simpa using k3
  have k4b : (k == 4) = false := by simpa using k4
  have k4c : (k != 4) = true := by simpa using k4
  have k5b : (k == 5) = false := by simpa using k5
  have k5c : (k != 5) = true := by simpa using k5
  have k6b : (k == 6) = false := by simpa using k6
  have k6c : (k != 6) = true := by simpa using k6
  have k7b : (k == 7) = false := by simpa using k7
  have k7c : (k != 7) = true := by simpa using k7
  by_cases hc0 : c = 0
  · have hc0b : (c == 0) = true := by simpa using hc0
    by_cases hs0 : s = 0
    · have hs0b : (s == 0) = true := by simpa using hs0
      by_cases hst0 : st = ⟨#[]⟩
      · have hst0b : st.toList.isEmpty = true := by rw [hst0]; exact emp_yes
        by_cases hit0 : l.length = 0
        · have hit0b : ((l.length : Int) == 0) = true := by rw [hit0]; rfl
          by_cases hke0 : t.keys.length = 0
          · have hke0b : ((t.keys.length : Int) == 0) = true := by rw [hke0]; rfl
            have HF : Hid (b = true) := Lib.hid (HZ.out.2 ⟨fun _ => ⟨by first | assumption | omega, by first | assumption | omega⟩, fun _ _ => by first | assumption | omega, fun _ _ => by first | assumption | omega, fun _ => by first | assumption | omega⟩)
            clear HZ
            go_enter Try.func71, Try.ntmps71
            go_wp2_with fail
            go_ret
            exact ⟨by rw [HF.out]; rfl, bA1 _ _⟩
          · have hke0b : ((t.keys.length : Int) == 0) = false := by rw [beq_eq_false_iff_ne]; omega
            have HF : Hid (b = false) := Lib.hid (by
              rw [Bool.eq_false_iff]; intro h
              obtain ⟨g1, g2, g3, g4⟩ := HZ.out.1 h
              first | exact absurd (g1 (by omega)).1 (by assumption) | exact absurd (g1 (by omega)).2 (by assumption) | exact absurd (g2 (by omega) (by omega)) (by assumption) | exact absurd (g3 (by omega) (by omega)) (by assumption) | exact absurd (g4 (by omega)) (by assumption))
            clear HZ
            go_enter Try.func71, Try.ntmps71
            go_wp2_with fail
            go_ret
            exact ⟨by rw [HF.out]; rfl, bA1 _ _⟩
        · have hit0b : ((l.length : Int) == 0) = false := by rw [beq_eq_false_iff_ne]; omega
          have HF : Hid (b = false) := Lib.hid (by
            rw [Bool.eq_false_iff]; intro h
            obtain ⟨g1, g2, g3, g4⟩ := HZ.out.1 h
            first | exact absurd (g1 (by omega)).1 (by assumption) | exact absurd (g1 (by omega)).2 (by assumption) | exact absurd (g2 (by omega) (by omega)) (by assumption) | exact absurd (g3 (by omega) (by omega)) (by assumption) | exact absurd (g4 (by omega)) (by assumption))
          clear HZ
          go_enter Try.func71, Try.ntmps71
          go_wp2_with fail
          go_ret
          exact ⟨by rw [HF.out]; rfl, bA1 _ _⟩
      · have hst0b : st.toList.isEmpty = false := emp_no hst0
        have HF : Hid (b = false) := Lib.hid (by
          rw [Bool.eq_false_iff]; intro h
          obtain ⟨g1, g2, g3, g4⟩ := HZ.out.1 h
          first | exact absurd (g1 (by omega)).1 (by assumption) | exact absurd (g1 (by omega)).2 (by assumption) | exact absurd (g2 (by omega) (by omega)) (by assumption) | exact absurd (g3 (by omega) (by omega)) (by assumption) | exact absurd (g4 (by omega)) (by assumption))
        clear HZ
        go_enter Try.func71, Try.ntmps71
        go_wp2_with fail
        go_ret
        exact ⟨by rw [HF.out]; rfl, bA1 _ _⟩
    · have hs0b : (s == 0) = false := by simpa using hs0
      have HF : Hid (b = false) := Lib.hid (by
        rw [Bool.eq_false_iff]; intro h
        obtain ⟨g1, g2, g3, g4⟩ := HZ.out.1 h
        first | exact absurd (g1 (by omega)).1 (by assumption) | exact absurd (g1 (by omega)).2 (by assumption) | exact absurd (g2 (by omega) (by omega)) (by assumption) | exact absurd (g3 (by omega) (by omega)) (by assumption) | exact absurd (g4 (by omega)) (by assumption))
      clear HZ
      go_enter Try.func71, Try.ntmps71
      go_wp2_with fail
      go_ret
      exact ⟨by rw [HF.out]; rfl, bA1 _ _⟩
  · have hc0b : (c == 0) = false := by simpa using hc0
    have HF : Hid (b = false) := Lib.hid (by
      rw [Bool.eq_false_iff]; intro h
      obtain ⟨g1, g2, g3, g4⟩ := HZ.out.1 h
      first | exact absurd (g1 (by omega)).1 (by assumption) | exact absurd (g1 (by omega)).2 (by assumption) | exact absurd (g2 (by omega) (by omega)) (by assumption) | exact absurd (g3 (by omega) (by omega)) (by assumption) | exact absurd (g4 (by omega)) (by assumption))
    clear HZ
    go_enter Try.func71, Try.ntmps71
    go_wp2_with fail
    go_ret
    exact ⟨by rw [HF.out]; rfl, bA1 _ _⟩
end Jv
end Go.Proofs.Ytelladgeehlkpaa
