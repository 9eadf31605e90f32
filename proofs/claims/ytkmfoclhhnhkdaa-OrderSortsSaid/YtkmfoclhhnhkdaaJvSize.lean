/- The document's Flat and Size, of every value. -/
import Derived.Test.YtkmfoclhhnhkdaaJvTree
namespace Go.Proofs.Ytkmfoclhhnhkdaa
open Go.RowKit
namespace Jv
open _root_.Go.Proofs.Ytkmfoclhhnhkdaa.Nm
/-- is nothing deeper than so? (one more than the document counts) -/
def flatB : Nat → JV → Bool
  | 0, _ => false
  | n + 1, t => t.items.all (flatB n)
mutual
/-- how many values there are -/
def JV.cnt : JV → Nat
  | .mk _ _ _ _ items _ => 1 + cntL items
def cntL : List JV → Nat
  | [] => 0
  | x :: xs => x.cnt + cntL xs
end
theorem cnt_is (t : JV) : t.cnt = 1 + cntL t.items := by obtain ⟨k, c, s, st, i, ks⟩ := t; simp [JV.cnt, JV.items]
theorem cntL_snoc (l : List JV) (x : JV) : cntL (l ++ [x]) = cntL l + x.cnt := by
  induction l with
  | nil => simp [cntL]
  | cons y l ih => simp [cntL, ih]; omega
theorem cntL_len (l : List JV) : l.length ≤ cntL l := by
  induction l with
  | nil => simp
  | cons y l ih => have := cnt_is y; simp [cntL]; omega
theorem cntL_le (l : List JV) (x : JV) (h : x ∈ l) : x.cnt ≤ cntL l := by
  induction l with
  | nil => simp at h
  | cons y l ih =>
    simp only [List.mem_cons] at h
    rcases h with rfl | h
    · simp [cntL]
    · have := ih h; simp [cntL]; omega
/-- a value whose box stands in memory -/
theorem Vb.newS (w : World) (x : Six) : Vb (w.alloc (.cells x.cells.toArray 27)) w.heap.size x.cells.toArray := Vb.new w _
set_option maxRecDepth 100000 in
set_option maxHeartbeats 2000000 in
theorem flat_any : ∀ (m n : Nat) (x : Six) (t : JV) (d : Int) (w : World), d = (m : Int) - 1 → m ≤ 1000 → VT w n x t →
    Calls Try.prog 24 #[x.val, .int .i64 d] w fun e w' => e = .returned (.bool (flatB m t)) ∧ Below w.heap.size w w' := by
  intro m
  induction m with
  | zero =>
    intro n x t d w hd hm hv
    subst hd
    have hf : flatB 0 t = false := rfl
    rw [hf]
    unfold Six.val vV
    go_enter Try.func24, Try.ntmps24
    go_wp2_with fail
    go_ret
    exact ⟨rfl, bA1 _ _⟩
  | succ m ih =>
    intro n x t d w hd hm hv
    obtain ⟨b, hb⟩ : ∃ b, flatB (m + 1) t = b := ⟨_, rfl⟩
    rw [hb]
    have HB := Lib.hid hb
    have h0 : 0 ≤ d := by omega
    have h1 : d ≤ 1000 := by omega
    have HD := Lib.hid hd
    have IH := Lib.hid ih
    clear hb hd ih
    cases n with
    | zero => exact hv.elim
    | succ n =>
    obtain ⟨e1, e2, e3, e4, e5, hB, l, hl, hll, hlt⟩ := hv
    obtain ⟨k, c, s, st, iv, kv⟩ := x
    obtain ⟨ao, cap, rfl, hc, h⟩ := hl.form
    have hmx : l.length ≤ maxLen := by obtain ⟨_, _, q1, q2, q3, _⟩ := hl; omega
    unfold maxLen at hmx
    have H := Lib.hid h
    have HL := Lib.hid hll
    have HT := Lib.hid hlt
    clear h hll hlt e1 e2 e3 e4 e5 hB hl
    unfold Six.val vV
    go_enter Try.func24, Try.ntmps24
    have hnd : ¬ d < 0 := by omega
    have hnd2 : decide (d < 0) = false := by simp; omega
    go_wp2_with fail
    go_loopw [5] (fun i wr => ∃ j : Nat, i = .int .i64 (j : Nat) ∧ j ≤ l.length ∧ Hid (Vb wr w.heap.size #[.int .i64 k, .int .i64 c, .int .i64 s, .string st, .slice ao l.length cap, kv]) ∧ Hid (Below w.heap.size w wr) ∧ Hid (∀ p z, p < j → t.items[p]? = some z → flatB m z = true)) (fun i _ => l.length - (intOf i).toNat)
    case atStart => exact ⟨0, rfl, by omega, Lib.hid (Vb.new w _), Lib.hid (bA1 _ _), Lib.hid (fun p z hp => by omega)⟩
    case round =>
      obtain ⟨j, rfl, hj, HV, HW, HA⟩ := hrel
      obtain ⟨z0, z1, z2, z3, z4, z5⟩ := HV.out.six
      by_cases hlt : j < l.length
      · obtain ⟨y, hy⟩ : ∃ y, l[j]? = some y := ⟨l[j], List.getElem?_eq_getElem hlt⟩
        obtain ⟨z, hz⟩ : ∃ z, t.items[j]? = some z := ⟨t.items[j]'(by rw [← HL.out]; exact hlt), List.getElem?_eq_getElem _⟩
        obtain ⟨g, o, rfl, hg, hcl⟩ := H.out (by omega)
        have h6 := (hcl j y hy).on hg HW.out
        have hvt := VT.on HW.out n (HT.out j y z hy hz)
        have hf := IH.out n y z (d - 1) wr (by have := HD.out; omega) (by omega) hvt
        obtain ⟨yk, yc, ys, yst, yi, yv⟩ := y
        obtain ⟨c0, c1, c2, c3, c4, c5⟩ := h6
        simp only at c0 c1 c2 c3 c4 c5
        unfold Six.val vV at hf
        simp only at hf
        have HZ := Lib.hid hz
        have HFF := Lib.hid hf
        clear hcl hy hvt hz hf H
        cases hr : flatB m z
        · rw [hr] at HFF
          have HBF : Hid (b = false) := Lib.hid (by
            rw [← HB.out, Bool.eq_false_iff]
            intro h
            have := List.all_eq_true.1 h z (List.mem_of_getElem? HZ.out)
            rw [hr] at this
            cases this)
          clear hr
          go_wp2_with (go_at_call 24; refine HFF.out.mono ?_; rintro e w1 ⟨rfl, b1⟩)
          go_ret
          exact ⟨by rw [HBF.out]; rfl, bT HW.out b1⟩
        · rw [hr] at HFF
          have HA' : Hid (∀ p z, p < j + 1 → t.items[p]? = some z → flatB m z = true) := Lib.hid (fun p z' hp hz' => by
            by_cases e : p = j
            · subst e
              rw [HZ.out] at hz'
              obtain rfl := Option.some.inj hz'
              exact hr
            · exact HA.out p z' (by omega) hz')
          clear hr HA
          go_wp2_with (go_at_call 24; refine HFF.out.mono ?_; rintro e w1 ⟨rfl, b1⟩)
          go_roundw
          case rel => exact ⟨j + 1, by go_num, by omega, Lib.hid (HV.out.on b1), Lib.hid (bT HW.out b1), HA'⟩
          case measure => simp [intOf]; omega
      · have HBT : Hid (b = true) := Lib.hid (by
          rw [← HB.out]
          show t.items.all (flatB m) = true
          rw [List.all_eq_true]
          intro x hx
          obtain ⟨p, hp, e⟩ := List.getElem_of_mem hx
          exact HA.out p x (by have := HL.out; omega) (by rw [List.getElem?_eq_getElem hp, e]))
        clear HA
        go_wp2_with fail
        go_ret
        exact ⟨by rw [HBT.out]; rfl, HW.out⟩
set_option maxRecDepth 100000 in
set_option maxHeartbeats 2000000 in
theorem size_any : ∀ (f : Nat) (x : Six) (t : JV) (n most : Int) (w : World), VT w f x t → 0 ≤ n → most < 9223372036854775807 →
    Calls Try.prog 13 #[x.val, .int .i64 n, .int .i64 most] w fun e w' => e = .returned (.int .i64 (if most ≤ n then n else min most (n + (t.cnt : Nat)))) ∧ Below w.heap.size w w' := by
  intro f
  induction f with
  | zero => intro x t n most w hv; exact hv.elim
  | succ f ih =>
    intro x t n most w hv hn0 hmo
    by_cases hge : most ≤ n
    · rw [if_pos hge]
      unfold Six.val vV
      have hge2 : decide (most ≤ n) = true := by simpa using hge
      go_enter Try.func13, Try.ntmps13
      go_wp2_with fail
      go_ret
      exact ⟨rfl, bA1 _ _⟩
    rw [if_neg hge]
    obtain ⟨b, hb⟩ : ∃ b : Int, min most (n + (t.cnt : Nat)) = b := ⟨_, rfl⟩
    rw [hb]
    have HB := Lib.hid hb
    have IH := Lib.hid ih
    clear hb ih
    obtain ⟨e1, e2, e3, e4, e5, hB, l, hl, hll, hlt⟩ := hv
    obtain ⟨k, c, s, st, iv, kv⟩ := x
    obtain ⟨ao, cap, rfl, hc, h⟩ := hl.form
    have hmx : l.length ≤ maxLen := by obtain ⟨_, _, q1, q2, q3, _⟩ := hl; omega
    unfold maxLen at hmx
    have H := Lib.hid h
    have HL := Lib.hid hll
    have HT := Lib.hid hlt
    clear h hll hlt e1 e2 e3 e4 e5 hB hl
    unfold Six.val vV
    have hge2 : decide (most ≤ n) = false := by simpa using hge
    go_enter Try.func13, Try.ntmps13
    go_wp2_with fail
    go_loopw [1, 7] (fun nv i wr => ∃ (j : Nat) (q : Int), i = .int .i64 (j : Nat) ∧ nv = .int .i64 q ∧ 0 ≤ q ∧ q ≤ most ∧ j ≤ l.length ∧ Hid (Vb wr w.heap.size #[.int .i64 k, .int .i64 c, .int .i64 s, .string st, .slice ao l.length cap, kv]) ∧ Hid (Below w.heap.size w wr) ∧ Hid (q = min most (n + 1 + (cntL (t.items.take j) : Nat)))) (fun _ i _ => l.length - (intOf i).toNat)
    case atStart => exact ⟨0, n + 1, rfl, rfl, by omega, by omega, by omega, Lib.hid (Vb.new w _), Lib.hid (bA1 _ _), Lib.hid (by simp [cntL]; omega)⟩
    case round =>
      obtain ⟨j, q, rfl, rfl, hq0, hq1, hj, HV, HW, HA⟩ := hrel
      obtain ⟨z0, z1, z2, z3, z4, z5⟩ := HV.out.six
      by_cases hlt : j < l.length
      · obtain ⟨y, hy⟩ : ∃ y, l[j]? = some y := ⟨l[j], List.getElem?_eq_getElem hlt⟩
        obtain ⟨z, hz⟩ : ∃ z, t.items[j]? = some z := ⟨t.items[j]'(by rw [← HL.out]; exact hlt), List.getElem?_eq_getElem _⟩
        obtain ⟨g, o, rfl, hg, hcl⟩ := H.out (by omega)
        have h6 := (hcl j y hy).on hg HW.out
        have hvt := VT.on HW.out f (HT.out j y z hy hz)
        have hf := IH.out y z q most wr hvt hq0 hmo
        obtain ⟨yk, yc, ys, yst, yi, yv⟩ := y
        obtain ⟨c0, c1, c2, c3, c4, c5⟩ := h6
        simp only at c0 c1 c2 c3 c4 c5
        unfold Six.val vV at hf
        simp only at hf
        obtain ⟨r, hr⟩ : ∃ r : Int, (if most ≤ q then q else min most (q + (z.cnt : Nat))) = r := ⟨_, rfl⟩
        rw [hr] at hf
        have hr0 : 0 ≤ r := by rw [← hr]; split <;> omega
        have hr1 : r ≤ most := by rw [← hr]; split <;> omega
        have HA' : Hid (r = min most (n + 1 + (cntL (t.items.take (j + 1)) : Nat))) := Lib.hid (by
          rw [← hr, List.take_add_one, hz, Option.toList_some, cntL_snoc, HA.out]
          have := cnt_is z
          split <;> omega)
        have HFF := Lib.hid hf
        clear hcl hy hvt hz hf H hr HA
        go_wp2_with (go_at_call 13; refine HFF.out.mono ?_; rintro e w1 ⟨rfl, b1⟩)
        go_roundw
        case rel => exact ⟨j + 1, r, by go_num, rfl, hr0, hr1, by omega, Lib.hid (HV.out.on b1), Lib.hid (bT HW.out b1), HA'⟩
        case measure => simp [intOf]; omega
      · have HQ : Hid (q = b) := Lib.hid (by
          rw [← HB.out, HA.out, cnt_is, List.take_of_length_le (by have := HL.out; omega)]
          omega)
        clear HA
        go_wp2_with fail
        go_ret
        exact ⟨by rw [HQ.out]; rfl, HW.out⟩
end Jv
end Go.Proofs.Ytkmfoclhhnhkdaa
