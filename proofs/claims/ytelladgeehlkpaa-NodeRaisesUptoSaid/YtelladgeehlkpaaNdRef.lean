/- The document's Join, Labels, Deep and right, of nodes whose labels are levels; its Light. -/
import Derived.Test.YtelladgeehlkpaaPi
import Derived.StillTailTactics
import Derived.Deep.QuietTactic
import Derived.BigQuiet
namespace Go.Proofs.Ytelladgeehlkpaa
open Go.RowKit
namespace Nd
open _root_.Go.Proofs.Ytelladgeehlkpaa.Nm _root_.Go.Proofs.Ytelladgeehlkpaa.Jv
open _root_.Go.Proofs.Ytelladgeehlkpaa.Lv (Ord IsJ inI joinsL TabAt rjoin_any IntsPost IntsAt)
theorem one_int {w : World} {v : Value} {k : Nat} (h : IntsAt w v [k]) : ∃ g cap, v = .slice (some ⟨g, 0, none⟩) 1 cap ∧ w.cell? ⟨g, 0, none⟩ = some (.int .i64 (k : Nat)) := by
  rcases h with ⟨h, _⟩ | ⟨g, cap, hv, h⟩
  · cases h
  · exact ⟨g, cap, hv, by simpa using h 0 k rfl⟩
section
variable {r : Nat → Nat → Bool} {n : Nat} {j : Nat → Nat → Nat}
set_option maxRecDepth 100000 in
set_option maxHeartbeats 2000000 in
theorem rj_any (v : Value) (a b : Nat) (w : World) (O : Ord r n) (J : IsJ r n j) (ht : TabAt w v n r) (h1 : 1 ≤ n) (h8 : n ≤ 8) (ha : a < n) (hb : b < n) :
    Calls Try.prog 14 #[v, .int .i64 a, .int .i64 b] w fun e w' => e = .returned (.int .i64 (j a b : Nat)) ∧ Below w.heap.size w w' := by
  have hc := rjoin_any v r n a b w ht h1 h8 ha hb
  rw [joins_one' O J ha hb] at hc
  have HC := Lib.hid hc
  obtain ⟨q, hq⟩ : ∃ q, j a b = q := ⟨_, rfl⟩
  rw [hq] at HC ⊢
  clear hc hq O J ht h1 h8 ha hb
  go_enter Try.func14, Try.ntmps14
  go_wp2_with (go_at_call 37; refine HC.out.mono ?_; rintro e w1 ⟨b1, v1, rfl, hv1⟩; obtain ⟨g, cap, rfl, hg⟩ := one_int hv1)
  go_ret
  exact ⟨rfl, b1⟩
set_option maxRecDepth 100000 in
set_option maxHeartbeats 4000000 in
theorem labels_any (v : Value) (_h1 : 1 ≤ n) (_h8 : n ≤ 8) : ∀ (f : Nat) (x : Eight) (t : NV) (w : World), NT w f x t → TabAt w v n r →
    Calls Try.prog 31 #[v, x.val] w fun e w' => e = .returned (.bool (t.labB n)) ∧ Below w.heap.size w w' := by
  intro f
  induction f with
  | zero => intro x t w hv; exact hv.elim
  | succ f ih =>
    intro x t w hv ht
    obtain ⟨b, hb⟩ : ∃ b, t.labB n = b := ⟨_, rfl⟩
    rw [hb]
    have HB := Lib.hid hb
    have IH := Lib.hid ih
    have HTB := Lib.hid ht
    clear hb ih
    obtain ⟨g0, cap0, R, C, rfl, htab⟩ := ht.form
    clear htab ht
    obtain ⟨ea, ed, e1, e2, e3, e4, e5, hB, hBl, l, hl, hll, hlt⟩ := hv
    obtain ⟨la, de, k, c, s, st, iv, kv⟩ := x
    obtain ⟨ao, cap, rfl, hc, h⟩ := hl.form
    have hmx : l.length ≤ maxLen := by obtain ⟨_, _, q1, q2, q3, _⟩ := hl; omega
    unfold maxLen at hmx
    have H := Lib.hid h
    have HL := Lib.hid hll
    have HT := Lib.hid hlt
    simp only at ea
    have HLA := Lib.hid ea
    clear h hll hlt ea ed e1 e2 e3 e4 e5 hB hBl hl
    unfold Eight.val nV
    by_cases q1 : la < 0
    · have HF : Hid (b = false) := Lib.hid (by rw [← HB.out, labB_is, ← HLA.out]; simp; omega)
      go_enter Try.func31, Try.ntmps31
      go_wp2_with fail
      go_ret
      exact ⟨by rw [HF.out]; rfl, bA1 _ _⟩
    by_cases q2 : (n : Int) ≤ la
    · have HF : Hid (b = false) := Lib.hid (by rw [← HB.out, labB_is, ← HLA.out]; simp; omega)
      go_enter Try.func31, Try.ntmps31
      go_wp2_with fail
      go_ret
      exact ⟨by rw [HF.out]; rfl, bA1 _ _⟩
    have HIN : Hid (decide (0 ≤ la ∧ la < (n : Int)) = true) := Lib.hid (by simp; omega)
    go_enter Try.func31, Try.ntmps31
    go_wp2_with fail
    go_loopw [5] (fun i wr => ∃ p : Nat, i = .int .i64 (p : Nat) ∧ p ≤ l.length ∧ Hid (Wb wr w.heap.size #[.int .i64 la, .int .i64 de, .int .i64 k, .int .i64 c, .int .i64 s, .string st, .slice ao l.length cap, kv]) ∧ Hid (Below w.heap.size w wr) ∧ Hid (∀ q z, q < p → t.items[q]? = some z → z.labB n = true)) (fun i _ => l.length - (intOf i).toNat)
    case atStart => exact ⟨0, rfl, by omega, Lib.hid (Wb.new w _), Lib.hid (bA1 _ _), Lib.hid (fun q z hq => by omega)⟩
    case round =>
      obtain ⟨p, rfl, hp, HV, HW, HA⟩ := hrel
      obtain ⟨z0, z1, z2, z3, z4, z5, z6, z7⟩ := HV.out.eight
      by_cases hlt : p < l.length
      · obtain ⟨y, hy⟩ : ∃ y, l[p]? = some y := ⟨l[p], List.getElem?_eq_getElem hlt⟩
        obtain ⟨z, hz⟩ : ∃ z, t.items[p]? = some z := ⟨t.items[p]'(by rw [← HL.out]; exact hlt), List.getElem?_eq_getElem _⟩
        obtain ⟨g, o, rfl, hg, _, hcl⟩ := H.out (by omega)
        have h6 := (hcl p y hy).on hg HW.out
        have hvt := NT.on HW.out f (HT.out p y z hy hz)
        have hf := IH.out y z wr hvt (HTB.out.go HW.out)
        obtain ⟨ya, yd, yk, yc, ys, yst, yi, yv⟩ := y
        obtain ⟨c0, c1, c2, c3, c4, c5, c6, c7⟩ := h6
        simp only at c0 c1 c2 c3 c4 c5 c6 c7
        unfold Eight.val nV at hf
        simp only at hf
        have HZ := Lib.hid hz
        have HFF := Lib.hid hf
        clear hcl hy hvt hz hf H
        cases hr : z.labB n
        · rw [hr] at HFF
          have HBF : Hid (b = false) := Lib.hid (by
            rw [← HB.out, labB_is, labL_all, Bool.and_eq_false_iff]
            refine .inr (Bool.eq_false_iff.2 fun h => ?_)
            have := List.all_eq_true.1 h z (List.mem_of_getElem? HZ.out)
            rw [hr] at this
            cases this)
          clear hr
          go_wp2_with (go_at_call 31; refine HFF.out.mono ?_; rintro e w1 ⟨rfl, b1⟩)
          go_ret
          exact ⟨by rw [HBF.out]; rfl, bT HW.out b1⟩
        · rw [hr] at HFF
          have HA' : Hid (∀ q z, q < p + 1 → t.items[q]? = some z → z.labB n = true) := Lib.hid (fun q z' hq hz' => by
            by_cases e : q = p
            · subst e
              rw [HZ.out] at hz'
              obtain rfl := Option.some.inj hz'
              exact hr
            · exact HA.out q z' (by omega) hz')
          clear hr HA
          go_wp2_with (go_at_call 31; refine HFF.out.mono ?_; rintro e w1 ⟨rfl, b1⟩)
          go_roundw
          case rel => exact ⟨p + 1, by go_num, by omega, Lib.hid (HV.out.on b1), Lib.hid (bT HW.out b1), HA'⟩
          case measure => simp [intOf]; omega
      · have HBT : Hid (b = true) := Lib.hid (by
          rw [← HB.out, labB_is, labL_all, ← HLA.out, HIN.out, Bool.true_and, List.all_eq_true]
          intro x hx
          obtain ⟨q, hq, e⟩ := List.getElem_of_mem hx
          exact HA.out q x (by have := HL.out; omega) (by rw [List.getElem?_eq_getElem hq, e]))
        clear HA
        go_wp2_with fail
        go_ret
        exact ⟨by rw [HBT.out]; rfl, HW.out⟩
set_option maxRecDepth 100000 in
set_option maxHeartbeats 4000000 in
theorem deep_any (v : Value) (O : Ord r n) (J : IsJ r n j) (h1 : 1 ≤ n) (h8 : n ≤ 8) : ∀ (f : Nat) (x : Eight) (t : NV) (w : World), NT w f x t → TabAt w v n r → t.labB n = true →
    Calls Try.prog 56 #[v, x.val] w fun e w' => e = .returned (.int .i64 (t.dp j : Nat)) ∧ Below w.heap.size w w' := by
  intro f
  induction f with
  | zero => intro x t w hv; exact hv.elim
  | succ f ih =>
    intro x t w hv ht hlb
    have hdl := dp_is j t
    obtain ⟨b, hb⟩ : ∃ b, t.dp j = b := ⟨_, rfl⟩
    rw [hb] at hdl ⊢
    have HB := Lib.hid hdl
    have IH := Lib.hid ih
    have HTB := Lib.hid ht
    have HLB := Lib.hid hlb
    have HRJ := Lib.hid (fun (a b : Nat) (w : World) (ht : TabAt w v n r) (ha : a < n) (hb : b < n) => rj_any v a b w O J ht h1 h8 ha hb)
    obtain ⟨l0, l1⟩ := labB_la hlb
    clear hb ih hdl hlb
    obtain ⟨ea, ed, e1, e2, e3, e4, e5, hB, hBl, l, hl, hll, hlt⟩ := hv
    obtain ⟨la, de, k, c, s, st, iv, kv⟩ := x
    simp only at ea
    rw [← ea] at HB l0 l1
    obtain ⟨la, rfl⟩ := Int.eq_ofNat_of_zero_le l0
    rw [Int.toNat_natCast] at HB
    have l2 : la < n := by omega
    obtain ⟨ao, cap, rfl, hc, h⟩ := hl.form
    have hmx : l.length ≤ maxLen := by obtain ⟨_, _, q1, q2, q3, _⟩ := hl; omega
    unfold maxLen at hmx
    have H := Lib.hid h
    have HL := Lib.hid hll
    have HT := Lib.hid hlt
    clear h hll hlt ea ed e1 e2 e3 e4 e5 hB hBl hl l0 l1 ht
    unfold Eight.val nV
    go_enter Try.func56, Try.ntmps56
    go_wp2_with fail
    go_loopw [5, 6] (fun dv i wr => ∃ p d : Nat, i = .int .i64 (p : Nat) ∧ dv = .int .i64 (d : Nat) ∧ p ≤ l.length ∧ d < n ∧ Hid (d = dpL j la (t.items.take p)) ∧ Hid (Wb wr w.heap.size #[.int .i64 (la : Nat), .int .i64 de, .int .i64 k, .int .i64 c, .int .i64 s, .string st, .slice ao l.length cap, kv]) ∧ Hid (Below w.heap.size w wr)) (fun _ i _ => l.length - (intOf i).toNat)
    case atStart => exact ⟨0, la, rfl, rfl, by omega, l2, Lib.hid (by simp [dpL]), Lib.hid (Wb.new w _), Lib.hid (bA1 _ _)⟩
    case round =>
      obtain ⟨p, d, rfl, rfl, hp, hd, HD, HV, HW⟩ := hrel
      obtain ⟨z0, z1, z2, z3, z4, z5, z6, z7⟩ := HV.out.eight
      by_cases hlt : p < l.length
      · obtain ⟨y, hy⟩ : ∃ y, l[p]? = some y := ⟨l[p], List.getElem?_eq_getElem hlt⟩
        obtain ⟨z, hz⟩ : ∃ z, t.items[p]? = some z := ⟨t.items[p]'(by rw [← HL.out]; exact hlt), List.getElem?_eq_getElem _⟩
        obtain ⟨g, o, rfl, hg, _, hcl⟩ := H.out (by omega)
        have h6 := (hcl p y hy).on hg HW.out
        have hvt := NT.on HW.out f (HT.out p y z hy hz)
        have hlz := labB_item HLB.out (List.mem_of_getElem? hz)
        have hf := IH.out y z wr hvt (HTB.out.go HW.out) hlz
        have hq := dp_lt J z hlz
        obtain ⟨ya, yd, yk, yc, ys, yst, yi, yv⟩ := y
        obtain ⟨c0, c1, c2, c3, c4, c5, c6, c7⟩ := h6
        simp only at c0 c1 c2 c3 c4 c5 c6 c7
        unfold Eight.val nV at hf
        simp only at hf
        have HD' : Hid (j d (z.dp j) = dpL j la (t.items.take (p + 1))) := Lib.hid (by rw [List.take_add_one, hz, Option.toList_some, dpL_snoc, ← HD.out])
        have HJL := Lib.hid (J.lt d (z.dp j) hd hq)
        obtain ⟨q, hqq⟩ : ∃ q, z.dp j = q := ⟨_, rfl⟩
        rw [hqq] at hf hq HD' HJL
        obtain ⟨u, hu⟩ : ∃ u, j d q = u := ⟨_, rfl⟩
        have HFF := Lib.hid hf
        have HU := Lib.hid hu
        rw [hu] at HD' HJL
        clear hcl hy hvt hz hf H hqq hlz hu HD
        go_wp2_with (first | (go_at_call 56; refine HFF.out.mono ?_; rintro e w1 ⟨rfl, b1⟩; have hW1 := bT HW.out b1; have HRW := Lib.hid (HRJ.out d q w1 (HTB.out.go hW1) hd hq); rw [HU.out] at HRW) | (go_at_call 14; refine HRW.out.mono ?_; rintro e w2 ⟨rfl, b2⟩))
        go_roundw
        case rel => exact ⟨p + 1, u, by go_num, rfl, by omega, HJL.out, HD', Lib.hid ((HV.out.on b1).on b2), Lib.hid (bT hW1 b2)⟩
        case measure => simp [intOf]; omega
      · have HQ : Hid (d = b) := Lib.hid (by rw [HD.out, HB.out, List.take_of_length_le (by have := HL.out; omega)])
        clear HD
        go_wp2_with fail
        go_ret
        exact ⟨by rw [HQ.out]; rfl, HW.out⟩
end
end Nd
end Go.Proofs.Ytelladgeehlkpaa
