/- JvalTurns answers true for every three values and two texts, if the texts of the first are not too long. -/
import Derived.Test.YtnlnogchbmpmaaaJvPutX
import Derived.Test.YtnlnogchbmpmaaaJvRIs
import Derived.Deep.QuietTactic
import Derived.BigQuiet
namespace Go.Proofs.Ytnlnogchbmpmaaa
open Go.RowKit
namespace Jv
open _root_.Go.Proofs.Ytnlnogchbmpmaaa.Nm
theorem Bs.newX {w wr w7 : World} {l : List (Nat × Six × JV)} {q n : Nat} {uk uc us : Int} {ust : ByteArray} {ui uv : Value} {t : JV} (hq : wr.heap.size ≤ q) (h : Bs w wr l) (hb : Below wr.heap.size wr w7) (hz : Vb w7 q #[.int .i64 0, .int .i64 0, .int .i64 0, .string ⟨#[]⟩, .slice none 0 0, .slice none 0 0]) (hx : VTx q w7 n ⟨uk, uc, us, ust, ui, uv⟩ t) :
    Bs w ((((((w7.setCell ⟨q, 0, none⟩ (.int .i64 uk)).setCell ⟨q, 1, none⟩ (.int .i64 uc)).setCell ⟨q, 2, none⟩ (.int .i64 us)).setCell ⟨q, 3, none⟩ (.string ust)).setCell ⟨q, 4, none⟩ ui).setCell ⟨q, 5, none⟩ uv) ((q, ⟨uk, uc, us, ust, ui, uv⟩, t) :: l) := by
  have h' := h.on (b6 hb hq (.int .i64 uk) (.int .i64 uc) (.int .i64 us) (.string ust) ui uv)
  refine ⟨h'.bel, fun p hp => ?_, fun p hp => ?_⟩
  · rcases List.mem_cons.1 hp with rfl | hp
    · exact hz.put _ _ _ _ _ _
    · exact h'.box p hp
  · rcases List.mem_cons.1 hp with rfl | hp
    · exact ⟨n, VTx.vt n (VTx.far (fun j hj => heap_far6 hj _ _ _ _ _ _) (by simp) n hx)⟩
    · exact h'.tree p hp
set_option maxRecDepth 100000 in
set_option maxHeartbeats 16000000 in
theorem turns_any (n0 n1 n2 : Nat) (x v0 v1 : Six) (t u0 u1 : JV) (a b : ByteArray) (w : World) (hx : VT w n0 x t) (hv0 : VT w n1 v0 u0) (hv1 : VT w n2 v1 u1) (hsm : SmA 1000000000 t) (ha : a.size ≤ maxLen) (hb : b.size ≤ maxLen) :
    Calls Try.prog 5 #[x.val, .agg (Six.cells v0 ++ Six.cells v1).toArray, .agg #[.string a, .string b]] w fun e w' => e = .returned (.bool true) ∧ Below w.heap.size w w' := by
  have HX : Hid (∃ n, VT w n x t) := Lib.hid ⟨_, hx⟩
  have Hv0 : Hid (∃ n, VT w n v0 u0) := Lib.hid ⟨_, hv0⟩
  have Hv1 : Hid (∃ n, VT w n v1 u1) := Lib.hid ⟨_, hv1⟩
  have HKa := Lib.hid ha
  have HKb := Lib.hid hb
  have hL0 := fun wx (h : Below w.heap.size w wx) => light_any n0 200 x t wx (VT.on h n0 hx) (by decide)
  have hL1 := fun wx (h : Below w.heap.size w wx) => light_any n1 100 v0 u0 wx (VT.on h n1 hv0) (by decide)
  have hL2 := fun wx (h : Below w.heap.size w wx) => light_any n2 100 v1 u1 wx (VT.on h n2 hv1) (by decide)
  have hIS := fun wx (h : Below w.heap.size w wx) => ris_any 33 n0 x t 0 wx (by decide) (by decide) (VT.on h n0 hx) hsm
  obtain ⟨l0, hl0⟩ : ∃ l, lightB 200 t = l := ⟨_, rfl⟩
  obtain ⟨l1, hl1⟩ : ∃ l, lightB 100 u0 = l := ⟨_, rfl⟩
  obtain ⟨l2, hl2⟩ : ∃ l, lightB 100 u1 = l := ⟨_, rfl⟩
  obtain ⟨i0, hi0⟩ : ∃ l, isT 33 t = l := ⟨_, rfl⟩
  rw [hl0] at hL0
  rw [hl1] at hL1
  rw [hl2] at hL2
  rw [hi0] at hIS
  unfold Six.val vV at hL0 hL1 hL2 hIS
  have HL0 := Lib.hid hL0
  have HL1 := Lib.hid hL1
  have HL2 := Lib.hid hL2
  have HIS := Lib.hid hIS
  have HLL := Lib.hid hl0
  have HII := Lib.hid hi0
  clear hL0 hL1 hL2 hIS hl0 hl1 hl2 hi0 hx hv0 hv1 hsm ha hb
  unfold Six.val vV
  change Calls Try.prog 5 #[.agg #[.int .i64 x.k, .int .i64 x.c, .int .i64 x.s, .string x.st, x.iv, x.kv], .agg #[.int .i64 v0.k, .int .i64 v0.c, .int .i64 v0.s, .string v0.st, v0.iv, v0.kv, .int .i64 v1.k, .int .i64 v1.c, .int .i64 v1.s, .string v1.st, v1.iv, v1.kv], .agg #[.string a, .string b]] w _
  go_enter Try.func5, Try.ntmps5
  go_upto_region 1 with (fail)
  have HB0 : Hid (Bs w (((w.alloc (Obj.cells #[.int .i64 x.k, .int .i64 x.c, .int .i64 x.s, .string x.st, x.iv, x.kv] 27)).alloc (Obj.cells #[.int .i64 v0.k, .int .i64 v0.c, .int .i64 v0.s, .string v0.st, v0.iv, v0.kv, .int .i64 v1.k, .int .i64 v1.c, .int .i64 v1.s, .string v1.st, v1.iv, v1.kv] 34)).alloc (Obj.cells #[.string a, .string b] 35)) [(w.heap.size, x, t)]) := Lib.hid (by
    have h0 : Bs w w [] := ⟨Below.refl _ _, fun p hp => by simp at hp, fun p hp => by simp at hp⟩
    obtain ⟨n, hx⟩ := HX.out
    exact ((h0.push hx).on (bA1 _ _)).on (bA1 _ _))
  have HT0 : Hid (Tt (((w.alloc (Obj.cells #[.int .i64 x.k, .int .i64 x.c, .int .i64 x.s, .string x.st, x.iv, x.kv] 27)).alloc (Obj.cells #[.int .i64 v0.k, .int .i64 v0.c, .int .i64 v0.s, .string v0.st, v0.iv, v0.kv, .int .i64 v1.k, .int .i64 v1.c, .int .i64 v1.s, .string v1.st, v1.iv, v1.kv] 34)).alloc (Obj.cells #[.string a, .string b] 35)) w.heap.size v0 v1 a b) := Lib.hid (by
    refine ⟨?_, ?_⟩
    · have h1 := heap_alloc_new (w.alloc (Obj.cells #[.int .i64 x.k, .int .i64 x.c, .int .i64 x.s, .string x.st, x.iv, x.kv] 27)) (Obj.cells #[.int .i64 v0.k, .int .i64 v0.c, .int .i64 v0.s, .string v0.st, v0.iv, v0.kv, .int .i64 v1.k, .int .i64 v1.c, .int .i64 v1.s, .string v1.st, v1.iv, v1.kv] 34)
      have h2 : (w.alloc (Obj.cells #[.int .i64 x.k, .int .i64 x.c, .int .i64 x.s, .string x.st, x.iv, x.kv] 27)).heap.size = w.heap.size + 1 := by simp
      rw [h2] at h1
      exact ((bA1 _ (Obj.cells #[.string a, .string b] 35)).block _ (by simp)).trans h1
    · have h1 := heap_alloc_new ((w.alloc (Obj.cells #[.int .i64 x.k, .int .i64 x.c, .int .i64 x.s, .string x.st, x.iv, x.kv] 27)).alloc (Obj.cells #[.int .i64 v0.k, .int .i64 v0.c, .int .i64 v0.s, .string v0.st, v0.iv, v0.kv, .int .i64 v1.k, .int .i64 v1.c, .int .i64 v1.s, .string v1.st, v1.iv, v1.kv] 34)) (Obj.cells #[.string a, .string b] 35)
      have h2 : ((w.alloc (Obj.cells #[.int .i64 x.k, .int .i64 x.c, .int .i64 x.s, .string x.st, x.iv, x.kv] 27)).alloc (Obj.cells #[.int .i64 v0.k, .int .i64 v0.c, .int .i64 v0.s, .string v0.st, v0.iv, v0.kv, .int .i64 v1.k, .int .i64 v1.c, .int .i64 v1.s, .string v1.st, v1.iv, v1.kv] 34)).heap.size = w.heap.size + 2 := by simp
      rw [h2] at h1
      exact h1)
  obtain ⟨w0, hw0⟩ : ∃ w0, (((w.alloc (Obj.cells #[.int .i64 x.k, .int .i64 x.c, .int .i64 x.s, .string x.st, x.iv, x.kv] 27)).alloc (Obj.cells #[.int .i64 v0.k, .int .i64 v0.c, .int .i64 v0.s, .string v0.st, v0.iv, v0.kv, .int .i64 v1.k, .int .i64 v1.c, .int .i64 v1.s, .string v1.st, v1.iv, v1.kv] 34)).alloc (Obj.cells #[.string a, .string b] 35)) = w0 := ⟨_, rfl⟩
  rw [hw0] at HB0 HT0 ⊢
  clear hw0
  obtain ⟨x0, x1, x2, x3, x4, x5⟩ := HB0.out.cells (k := w.heap.size) (x := x) (t := t) (by simp)
  obtain ⟨⟨p0, p1, p2, p3, p4, p5⟩, ⟨q0, q1, q2, q3, q4, q5⟩, s0, s1⟩ := HT0.out.cells
  cases l0
  · as_aux_lemma =>
    clear HLL HII HKa HKb
    go_wp2_with (first | (go_at_call 11; refine (lives_any _).mono ?_; rintro e w9 ⟨rfl, b9⟩) | (go_at_call 10; (fail_if_success have _ := b1); refine (HL0.out _ HB0.out.bel).mono ?_; rintro e w1 ⟨rfl, b1⟩; have HB1 := Lib.hid (HB0.out.on b1); have HT1 := Lib.hid (HT0.out.on b1); obtain ⟨x10, x11, x12, x13, x14, x15⟩ := HB1.out.cells (k := w.heap.size) (x := x) (t := t) (by simp); obtain ⟨⟨p10, p11, p12, p13, p14, p15⟩, ⟨q10, q11, q12, q13, q14, q15⟩, s10, s11⟩ := HT1.out.cells))
    go_ret
    exact ⟨rfl, bT HB1.out.bel b9⟩
  cases l1
  · as_aux_lemma =>
    clear HLL HII HKa HKb
    go_wp2_with (first | (go_at_call 11; refine (lives_any _).mono ?_; rintro e w9 ⟨rfl, b9⟩) | (go_at_call 10; have _ := b1; (fail_if_success have _ := b2); refine (HL1.out _ HB1.out.bel).mono ?_; rintro e w2 ⟨rfl, b2⟩; have HB2 := Lib.hid (HB1.out.on b2); have HT2 := Lib.hid (HT1.out.on b2); obtain ⟨x20, x21, x22, x23, x24, x25⟩ := HB2.out.cells (k := w.heap.size) (x := x) (t := t) (by simp); obtain ⟨⟨p20, p21, p22, p23, p24, p25⟩, ⟨q20, q21, q22, q23, q24, q25⟩, s20, s21⟩ := HT2.out.cells) | (go_at_call 10; (fail_if_success have _ := b1); refine (HL0.out _ HB0.out.bel).mono ?_; rintro e w1 ⟨rfl, b1⟩; have HB1 := Lib.hid (HB0.out.on b1); have HT1 := Lib.hid (HT0.out.on b1); obtain ⟨x10, x11, x12, x13, x14, x15⟩ := HB1.out.cells (k := w.heap.size) (x := x) (t := t) (by simp); obtain ⟨⟨p10, p11, p12, p13, p14, p15⟩, ⟨q10, q11, q12, q13, q14, q15⟩, s10, s11⟩ := HT1.out.cells))
    go_ret
    exact ⟨rfl, bT HB2.out.bel b9⟩
  cases l2
  · as_aux_lemma =>
    clear HLL HII HKa HKb
    go_wp2_with (first | (go_at_call 11; refine (lives_any _).mono ?_; rintro e w9 ⟨rfl, b9⟩) | (go_at_call 10; have _ := b2; (fail_if_success have _ := b3); refine (HL2.out _ HB2.out.bel).mono ?_; rintro e w3 ⟨rfl, b3⟩; have HB3 := Lib.hid (HB2.out.on b3); have HT3 := Lib.hid (HT2.out.on b3); obtain ⟨x30, x31, x32, x33, x34, x35⟩ := HB3.out.cells (k := w.heap.size) (x := x) (t := t) (by simp); obtain ⟨⟨p30, p31, p32, p33, p34, p35⟩, ⟨q30, q31, q32, q33, q34, q35⟩, s30, s31⟩ := HT3.out.cells) | (go_at_call 10; have _ := b1; (fail_if_success have _ := b2); refine (HL1.out _ HB1.out.bel).mono ?_; rintro e w2 ⟨rfl, b2⟩; have HB2 := Lib.hid (HB1.out.on b2); have HT2 := Lib.hid (HT1.out.on b2); obtain ⟨x20, x21, x22, x23, x24, x25⟩ := HB2.out.cells (k := w.heap.size) (x := x) (t := t) (by simp); obtain ⟨⟨p20, p21, p22, p23, p24, p25⟩, ⟨q20, q21, q22, q23, q24, q25⟩, s20, s21⟩ := HT2.out.cells) | (go_at_call 10; (fail_if_success have _ := b1); refine (HL0.out _ HB0.out.bel).mono ?_; rintro e w1 ⟨rfl, b1⟩; have HB1 := Lib.hid (HB0.out.on b1); have HT1 := Lib.hid (HT0.out.on b1); obtain ⟨x10, x11, x12, x13, x14, x15⟩ := HB1.out.cells (k := w.heap.size) (x := x) (t := t) (by simp); obtain ⟨⟨p10, p11, p12, p13, p14, p15⟩, ⟨q10, q11, q12, q13, q14, q15⟩, s10, s11⟩ := HT1.out.cells))
    go_ret
    exact ⟨rfl, bT HB3.out.bel b9⟩
  cases i0
  · as_aux_lemma =>
    clear HLL HII HKa HKb
    go_wp2_with (first | (go_at_call 11; refine (lives_any _).mono ?_; rintro e w9 ⟨rfl, b9⟩) | (go_at_call 13; have _ := b3; (fail_if_success have _ := b4); refine (HIS.out _ HB3.out.bel).mono ?_; rintro e w4 ⟨rfl, b4⟩; have HB4 := Lib.hid (HB3.out.on b4); have HT4 := Lib.hid (HT3.out.on b4); obtain ⟨x40, x41, x42, x43, x44, x45⟩ := HB4.out.cells (k := w.heap.size) (x := x) (t := t) (by simp); obtain ⟨⟨p40, p41, p42, p43, p44, p45⟩, ⟨q40, q41, q42, q43, q44, q45⟩, s40, s41⟩ := HT4.out.cells) | (go_at_call 10; have _ := b2; (fail_if_success have _ := b3); refine (HL2.out _ HB2.out.bel).mono ?_; rintro e w3 ⟨rfl, b3⟩; have HB3 := Lib.hid (HB2.out.on b3); have HT3 := Lib.hid (HT2.out.on b3); obtain ⟨x30, x31, x32, x33, x34, x35⟩ := HB3.out.cells (k := w.heap.size) (x := x) (t := t) (by simp); obtain ⟨⟨p30, p31, p32, p33, p34, p35⟩, ⟨q30, q31, q32, q33, q34, q35⟩, s30, s31⟩ := HT3.out.cells) | (go_at_call 10; have _ := b1; (fail_if_success have _ := b2); refine (HL1.out _ HB1.out.bel).mono ?_; rintro e w2 ⟨rfl, b2⟩; have HB2 := Lib.hid (HB1.out.on b2); have HT2 := Lib.hid (HT1.out.on b2); obtain ⟨x20, x21, x22, x23, x24, x25⟩ := HB2.out.cells (k := w.heap.size) (x := x) (t := t) (by simp); obtain ⟨⟨p20, p21, p22, p23, p24, p25⟩, ⟨q20, q21, q22, q23, q24, q25⟩, s20, s21⟩ := HT2.out.cells) | (go_at_call 10; (fail_if_success have _ := b1); refine (HL0.out _ HB0.out.bel).mono ?_; rintro e w1 ⟨rfl, b1⟩; have HB1 := Lib.hid (HB0.out.on b1); have HT1 := Lib.hid (HT0.out.on b1); obtain ⟨x10, x11, x12, x13, x14, x15⟩ := HB1.out.cells (k := w.heap.size) (x := x) (t := t) (by simp); obtain ⟨⟨p10, p11, p12, p13, p14, p15⟩, ⟨q10, q11, q12, q13, q14, q15⟩, s10, s11⟩ := HT1.out.cells))
    go_ret
    exact ⟨rfl, bT HB4.out.bel b9⟩
  by_cases hab : a = b
  · as_aux_lemma =>
    subst hab
    have es := str_same a
    clear HLL HII HKa HKb
    go_wp2_with (first | (go_at_call 11; refine (lives_any _).mono ?_; rintro e w9 ⟨rfl, b9⟩) | (go_at_call 13; have _ := b3; (fail_if_success have _ := b4); refine (HIS.out _ HB3.out.bel).mono ?_; rintro e w4 ⟨rfl, b4⟩; have HB4 := Lib.hid (HB3.out.on b4); have HT4 := Lib.hid (HT3.out.on b4); obtain ⟨x40, x41, x42, x43, x44, x45⟩ := HB4.out.cells (k := w.heap.size) (x := x) (t := t) (by simp); obtain ⟨⟨p40, p41, p42, p43, p44, p45⟩, ⟨q40, q41, q42, q43, q44, q45⟩, s40, s41⟩ := HT4.out.cells) | (go_at_call 10; have _ := b2; (fail_if_success have _ := b3); refine (HL2.out _ HB2.out.bel).mono ?_; rintro e w3 ⟨rfl, b3⟩; have HB3 := Lib.hid (HB2.out.on b3); have HT3 := Lib.hid (HT2.out.on b3); obtain ⟨x30, x31, x32, x33, x34, x35⟩ := HB3.out.cells (k := w.heap.size) (x := x) (t := t) (by simp); obtain ⟨⟨p30, p31, p32, p33, p34, p35⟩, ⟨q30, q31, q32, q33, q34, q35⟩, s30, s31⟩ := HT3.out.cells) | (go_at_call 10; have _ := b1; (fail_if_success have _ := b2); refine (HL1.out _ HB1.out.bel).mono ?_; rintro e w2 ⟨rfl, b2⟩; have HB2 := Lib.hid (HB1.out.on b2); have HT2 := Lib.hid (HT1.out.on b2); obtain ⟨x20, x21, x22, x23, x24, x25⟩ := HB2.out.cells (k := w.heap.size) (x := x) (t := t) (by simp); obtain ⟨⟨p20, p21, p22, p23, p24, p25⟩, ⟨q20, q21, q22, q23, q24, q25⟩, s20, s21⟩ := HT2.out.cells) | (go_at_call 10; (fail_if_success have _ := b1); refine (HL0.out _ HB0.out.bel).mono ?_; rintro e w1 ⟨rfl, b1⟩; have HB1 := Lib.hid (HB0.out.on b1); have HT1 := Lib.hid (HT0.out.on b1); obtain ⟨x10, x11, x12, x13, x14, x15⟩ := HB1.out.cells (k := w.heap.size) (x := x) (t := t) (by simp); obtain ⟨⟨p10, p11, p12, p13, p14, p15⟩, ⟨q10, q11, q12, q13, q14, q15⟩, s10, s11⟩ := HT1.out.cells))
    go_ret
    exact ⟨rfl, bT HB4.out.bel b9⟩
  have es := str_ne hab
  have HAB := Lib.hid hab
  clear hab
  go_upto_region 3 with (first | (go_at_call 13; have _ := b3; (fail_if_success have _ := b4); refine (HIS.out _ HB3.out.bel).mono ?_; rintro e w4 ⟨rfl, b4⟩; have HB4 := Lib.hid (HB3.out.on b4); have HT4 := Lib.hid (HT3.out.on b4); obtain ⟨x40, x41, x42, x43, x44, x45⟩ := HB4.out.cells (k := w.heap.size) (x := x) (t := t) (by simp); obtain ⟨⟨p40, p41, p42, p43, p44, p45⟩, ⟨q40, q41, q42, q43, q44, q45⟩, s40, s41⟩ := HT4.out.cells) | (go_at_call 10; have _ := b2; (fail_if_success have _ := b3); refine (HL2.out _ HB2.out.bel).mono ?_; rintro e w3 ⟨rfl, b3⟩; have HB3 := Lib.hid (HB2.out.on b3); have HT3 := Lib.hid (HT2.out.on b3); obtain ⟨x30, x31, x32, x33, x34, x35⟩ := HB3.out.cells (k := w.heap.size) (x := x) (t := t) (by simp); obtain ⟨⟨p30, p31, p32, p33, p34, p35⟩, ⟨q30, q31, q32, q33, q34, q35⟩, s30, s31⟩ := HT3.out.cells) | (go_at_call 10; have _ := b1; (fail_if_success have _ := b2); refine (HL1.out _ HB1.out.bel).mono ?_; rintro e w2 ⟨rfl, b2⟩; have HB2 := Lib.hid (HB1.out.on b2); have HT2 := Lib.hid (HT1.out.on b2); obtain ⟨x20, x21, x22, x23, x24, x25⟩ := HB2.out.cells (k := w.heap.size) (x := x) (t := t) (by simp); obtain ⟨⟨p20, p21, p22, p23, p24, p25⟩, ⟨q20, q21, q22, q23, q24, q25⟩, s20, s21⟩ := HT2.out.cells) | (go_at_call 10; (fail_if_success have _ := b1); refine (HL0.out _ HB0.out.bel).mono ?_; rintro e w1 ⟨rfl, b1⟩; have HB1 := Lib.hid (HB0.out.on b1); have HT1 := Lib.hid (HT0.out.on b1); obtain ⟨x10, x11, x12, x13, x14, x15⟩ := HB1.out.cells (k := w.heap.size) (x := x) (t := t) (by simp); obtain ⟨⟨p10, p11, p12, p13, p14, p15⟩, ⟨q10, q11, q12, q13, q14, q15⟩, s10, s11⟩ := HT1.out.cells))
  clear x0 x1 x2 x3 x4 x5 p0 p1 p2 p3 p4 p5 q0 q1 q2 q3 q4 q5 s0 s1 x10 x11 x12 x13 x14 x15 p10 p11 p12 p13 p14 p15 q10 q11 q12 q13 q14 q15 x20 x21 x22 x23 x24 x25 p20 p21 p22 p23 p24 p25 q20 q21 q22 q23 q24 q25 x30 x31 x32 x33 x34 x35 p30 p31 p32 p33 p34 p35 q30 q31 q32 q33 q34 q35 s10 s11 s20 s21 s30 s31
  clear HB0 HB1 HB2 HB3 HT0 HT1 HT2 HT3 HL0 HL1 HL2 HIS b1 b2 b3 b4 es x40 x41 x42 x43 x44 x45 p40 p41 p42 p43 p44 p45 q40 q41 q42 q43 q44 q45 s40 s41
  have hil : t.items.length ≤ 200 := by
    have h := HLL.out
    unfold lightB at h
    rw [Bool.and_eq_true, decide_eq_true_eq] at h
    have := cnt_is t
    have := cntL_len t.items
    omega
  obtain ⟨wc, hwc⟩ : ∃ wc, w4 = wc := ⟨_, rfl⟩
  subst hwc
  have HB := HB4
  have HT := HT4
  clear HB4 HT4
  go_cut [7] (fun pv wx => ∃ kq uk6 uc6 us6 ut6 ua6 un6 uo6 va6 vn6 vo6, pv = .pointer (some ⟨kq, 0, none⟩) ∧ Hid (Bs w wx ((kq, ⟨uk6, uc6, us6, ut6, .slice ua6 un6 uo6, .slice va6 vn6 vo6⟩, (putT (putT t a u0) b u1)) :: [(w.heap.size, x, t)])) ∧ Hid (Tt wx w.heap.size v0 v1 a b))
  case first =>
    as_aux_lemma =>
    obtain ⟨x0, x1, x2, x3, x4, x5⟩ := HB.out.cells (k := w.heap.size) (x := x) (t := t) (by simp)
    obtain ⟨⟨p0, p1, p2, p3, p4, p5⟩, ⟨q0, q1, q2, q3, q4, q5⟩, s0, s1⟩ := HT.out.cells
    have HP1 := Lib.hid (fun wx (h : Below w4.heap.size w4 wx) => put_cells x v0 t u0 a wx (by obtain ⟨n, h'⟩ := HX.out; exact ⟨n, VT.on (bT HB.out.bel h) n h'⟩) (by obtain ⟨n, h'⟩ := Hv0.out; exact ⟨n, VT.on (bT HB.out.bel h) n h'⟩) (by omega) HKa.out)
    have HP1X := Lib.hid (fun wx (h : Below w4.heap.size w4 wx) q (hq : w.heap.size ≤ q) (hq2 : q < wx.heap.size) => put_cellsX q x v0 t u0 a wx (by obtain ⟨n, h'⟩ := HX.out; exact ⟨n, VTx.on (bT HB.out.bel h) n (VT.x hq n h')⟩) (by obtain ⟨n, h'⟩ := Hv0.out; exact ⟨n, VTx.on (bT HB.out.bel h) n (VT.x hq n h')⟩) (by omega) HKa.out hq2)
    have HP2 := Lib.hid (fun (y : Six) w6 (h6 : Below w4.heap.size w4 w6) (hy : ∃ n, VT w6 n y (putT t a u0)) => put_cells y v1 (putT t a u0) u1 b w6 hy (by obtain ⟨n, h'⟩ := Hv1.out; exact ⟨n, VT.on (bT HB.out.bel h6) n h'⟩) (by have := putT_len t a u0; omega) HKb.out)
    have HP2X := Lib.hid (fun (y : Six) wx (h : Below w4.heap.size w4 wx) q (hq : w.heap.size ≤ q) (hq2 : q < wx.heap.size) (hy : ∃ n, VTx q wx n y (putT t a u0)) => put_cellsX q y v1 (putT t a u0) u1 b wx hy (by obtain ⟨n, h'⟩ := Hv1.out; exact ⟨n, VTx.on (bT HB.out.bel h) n (VT.x hq n h')⟩) (by have := putT_len t a u0; omega) HKb.out hq2)
    have hw4 : w.heap.size ≤ w4.heap.size := HB.out.bel.size
    have hS3 : Sx w4.heap.size w4 [(⟨w.heap.size, 0, none⟩, (.int .i64 x.k)), (⟨w.heap.size, 1, none⟩, (.int .i64 x.c)), (⟨w.heap.size, 2, none⟩, (.int .i64 x.s)), (⟨w.heap.size, 3, none⟩, (.string x.st)), (⟨w.heap.size, 4, none⟩, x.iv), (⟨w.heap.size, 5, none⟩, x.kv), (⟨w.heap.size + 1, 0, none⟩, (.int .i64 v0.k)), (⟨w.heap.size + 1, 1, none⟩, (.int .i64 v0.c)), (⟨w.heap.size + 1, 2, none⟩, (.int .i64 v0.s)), (⟨w.heap.size + 1, 3, none⟩, (.string v0.st)), (⟨w.heap.size + 1, 4, none⟩, v0.iv), (⟨w.heap.size + 1, 5, none⟩, v0.kv), (⟨w.heap.size + 1, 6, none⟩, (.int .i64 v1.k)), (⟨w.heap.size + 1, 7, none⟩, (.int .i64 v1.c)), (⟨w.heap.size + 1, 8, none⟩, (.int .i64 v1.s)), (⟨w.heap.size + 1, 9, none⟩, (.string v1.st)), (⟨w.heap.size + 1, 10, none⟩, v1.iv), (⟨w.heap.size + 1, 11, none⟩, v1.kv), (⟨w.heap.size + 2, 0, none⟩, (.string a)), (⟨w.heap.size + 2, 1, none⟩, (.string b))] (w4) := by
      refine ⟨Below.refl _ _, ?_⟩
      intro t ht
      simp only [List.mem_cons, List.not_mem_nil, or_false] at ht
      rcases ht with rfl | rfl | rfl | rfl | rfl | rfl | rfl | rfl | rfl | rfl | rfl | rfl | rfl | rfl | rfl | rfl | rfl | rfl | rfl | rfl
      · exact Sx.mk (x0)
      · exact Sx.mk (x1)
      · exact Sx.mk (x2)
      · exact Sx.mk (x3)
      · exact Sx.mk (x4)
      · exact Sx.mk (x5)
      · exact Sx.mk (p0)
      · exact Sx.mk (p1)
      · exact Sx.mk (p2)
      · exact Sx.mk (p3)
      · exact Sx.mk (p4)
      · exact Sx.mk (p5)
      · exact Sx.mk (q0)
      · exact Sx.mk (q1)
      · exact Sx.mk (q2)
      · exact Sx.mk (q3)
      · exact Sx.mk (q4)
      · exact Sx.mk (q5)
      · exact Sx.mk (s0)
      · exact Sx.mk (s1)
    obtain ⟨fx3, hfx3⟩ : ∃ fx : List (Addr × Value), [(⟨w.heap.size, 0, none⟩, (.int .i64 x.k)), (⟨w.heap.size, 1, none⟩, (.int .i64 x.c)), (⟨w.heap.size, 2, none⟩, (.int .i64 x.s)), (⟨w.heap.size, 3, none⟩, (.string x.st)), (⟨w.heap.size, 4, none⟩, x.iv), (⟨w.heap.size, 5, none⟩, x.kv), (⟨w.heap.size + 1, 0, none⟩, (.int .i64 v0.k)), (⟨w.heap.size + 1, 1, none⟩, (.int .i64 v0.c)), (⟨w.heap.size + 1, 2, none⟩, (.int .i64 v0.s)), (⟨w.heap.size + 1, 3, none⟩, (.string v0.st)), (⟨w.heap.size + 1, 4, none⟩, v0.iv), (⟨w.heap.size + 1, 5, none⟩, v0.kv), (⟨w.heap.size + 1, 6, none⟩, (.int .i64 v1.k)), (⟨w.heap.size + 1, 7, none⟩, (.int .i64 v1.c)), (⟨w.heap.size + 1, 8, none⟩, (.int .i64 v1.s)), (⟨w.heap.size + 1, 9, none⟩, (.string v1.st)), (⟨w.heap.size + 1, 10, none⟩, v1.iv), (⟨w.heap.size + 1, 11, none⟩, v1.kv), (⟨w.heap.size + 2, 0, none⟩, (.string a)), (⟨w.heap.size + 2, 1, none⟩, (.string b))] = fx := ⟨_, rfl⟩
    rw [hfx3] at hS3
    have u3_0 := Sx.get (B := w4.heap.size) (o := w4) (fx := fx3) (p := ⟨w.heap.size, 0, none⟩) (v := (.int .i64 x.k)) (by subst hfx3; simp)
    have u3_1 := Sx.get (B := w4.heap.size) (o := w4) (fx := fx3) (p := ⟨w.heap.size, 1, none⟩) (v := (.int .i64 x.c)) (by subst hfx3; simp)
    have u3_2 := Sx.get (B := w4.heap.size) (o := w4) (fx := fx3) (p := ⟨w.heap.size, 2, none⟩) (v := (.int .i64 x.s)) (by subst hfx3; simp)
    have u3_3 := Sx.get (B := w4.heap.size) (o := w4) (fx := fx3) (p := ⟨w.heap.size, 3, none⟩) (v := (.string x.st)) (by subst hfx3; simp)
    have u3_4 := Sx.get (B := w4.heap.size) (o := w4) (fx := fx3) (p := ⟨w.heap.size, 4, none⟩) (v := x.iv) (by subst hfx3; simp)
    have u3_5 := Sx.get (B := w4.heap.size) (o := w4) (fx := fx3) (p := ⟨w.heap.size, 5, none⟩) (v := x.kv) (by subst hfx3; simp)
    have u3_6 := Sx.get (B := w4.heap.size) (o := w4) (fx := fx3) (p := ⟨w.heap.size + 1, 0, none⟩) (v := (.int .i64 v0.k)) (by subst hfx3; simp)
    have u3_7 := Sx.get (B := w4.heap.size) (o := w4) (fx := fx3) (p := ⟨w.heap.size + 1, 1, none⟩) (v := (.int .i64 v0.c)) (by subst hfx3; simp)
    have u3_8 := Sx.get (B := w4.heap.size) (o := w4) (fx := fx3) (p := ⟨w.heap.size + 1, 2, none⟩) (v := (.int .i64 v0.s)) (by subst hfx3; simp)
    have u3_9 := Sx.get (B := w4.heap.size) (o := w4) (fx := fx3) (p := ⟨w.heap.size + 1, 3, none⟩) (v := (.string v0.st)) (by subst hfx3; simp)
    have u3_10 := Sx.get (B := w4.heap.size) (o := w4) (fx := fx3) (p := ⟨w.heap.size + 1, 4, none⟩) (v := v0.iv) (by subst hfx3; simp)
    have u3_11 := Sx.get (B := w4.heap.size) (o := w4) (fx := fx3) (p := ⟨w.heap.size + 1, 5, none⟩) (v := v0.kv) (by subst hfx3; simp)
    have u3_12 := Sx.get (B := w4.heap.size) (o := w4) (fx := fx3) (p := ⟨w.heap.size + 1, 6, none⟩) (v := (.int .i64 v1.k)) (by subst hfx3; simp)
    have u3_13 := Sx.get (B := w4.heap.size) (o := w4) (fx := fx3) (p := ⟨w.heap.size + 1, 7, none⟩) (v := (.int .i64 v1.c)) (by subst hfx3; simp)
    have u3_14 := Sx.get (B := w4.heap.size) (o := w4) (fx := fx3) (p := ⟨w.heap.size + 1, 8, none⟩) (v := (.int .i64 v1.s)) (by subst hfx3; simp)
    have u3_15 := Sx.get (B := w4.heap.size) (o := w4) (fx := fx3) (p := ⟨w.heap.size + 1, 9, none⟩) (v := (.string v1.st)) (by subst hfx3; simp)
    have u3_16 := Sx.get (B := w4.heap.size) (o := w4) (fx := fx3) (p := ⟨w.heap.size + 1, 10, none⟩) (v := v1.iv) (by subst hfx3; simp)
    have u3_17 := Sx.get (B := w4.heap.size) (o := w4) (fx := fx3) (p := ⟨w.heap.size + 1, 11, none⟩) (v := v1.kv) (by subst hfx3; simp)
    have u3_18 := Sx.get (B := w4.heap.size) (o := w4) (fx := fx3) (p := ⟨w.heap.size + 2, 0, none⟩) (v := (.string a)) (by subst hfx3; simp)
    have u3_19 := Sx.get (B := w4.heap.size) (o := w4) (fx := fx3) (p := ⟨w.heap.size + 2, 1, none⟩) (v := (.string b)) (by subst hfx3; simp)
    clear hfx3
    have HS3 := Lib.hid hS3
    clear hS3
    have hlt3 := fun t ht => (HS3.out.2 t ht).1
    clear x0 x1 x2 x3 x4 x5 p0 p1 p2 p3 p4 p5 q0 q1 q2 q3 q4 q5 s0 s1
    refine wp_region_held_drew (S := Sx w4.heap.size w4 fx3) (by kernel_rfl) HS3.out.drew (fun hHeld => ?_)
    refine take_put (i := 0) (d := 37) (oi := _) (v := ?v30) rfl rfl (by kernel_rfl) (by kernel_rfl) (by kernel_rfl) (fun _ _ _ h => h) (Or.inl ⟨by rfl, ?y30⟩) hHeld ?r30
    case y30 => (intro w hSw; (try dsimp only at hSw); go_simp; try with_reducible rfl)
    simp only [Act.put, List.setIfInBounds_toArray, List.set_cons_zero, List.set_cons_succ]
    refine take_put (i := 1) (d := 38) (oi := _) (v := ?v31) rfl rfl (by kernel_rfl) (by kernel_rfl) (by kernel_rfl) (fun _ _ _ h => h) (Or.inl ⟨by rfl, ?y31⟩) hHeld ?r31
    case y31 => (intro w hSw; (try dsimp only at hSw); go_simp; try with_reducible rfl)
    simp only [Act.put, List.setIfInBounds_toArray, List.set_cons_zero, List.set_cons_succ]
    refine take_put (i := 2) (d := 39) (oi := _) (v := ?v32) rfl rfl (by kernel_rfl) (by kernel_rfl) (by kernel_rfl) (fun _ _ _ h => h) (Or.inl ⟨by rfl, ?y32⟩) hHeld ?r32
    case y32 => (intro w hSw; (try dsimp only at hSw); go_simp; try with_reducible rfl)
    simp only [Act.put, List.setIfInBounds_toArray, List.set_cons_zero, List.set_cons_succ]
    refine take_put (i := 3) (d := 40) (oi := _) (v := ?v33) rfl rfl (by kernel_rfl) (by kernel_rfl) (by kernel_rfl) (fun _ _ _ h => h) (Or.inl ⟨by rfl, ?y33⟩) hHeld ?r33
    case y33 => (intro w hSw; (try dsimp only at hSw); go_simp; try with_reducible rfl)
    simp only [Act.put, List.setIfInBounds_toArray, List.set_cons_zero, List.set_cons_succ]
    refine take_put (i := 4) (d := 41) (oi := _) (v := ?v34) rfl rfl (by kernel_rfl) (by kernel_rfl) (by kernel_rfl) (fun _ _ _ h => h) (Or.inl ⟨by rfl, ?y34⟩) hHeld ?r34
    case y34 => (intro w hSw; (try dsimp only at hSw); go_simp; try with_reducible rfl)
    simp only [Act.put, List.setIfInBounds_toArray, List.set_cons_zero, List.set_cons_succ]
    refine take_put (i := 6) (d := 43) (oi := _) (v := ?v36) rfl rfl (by kernel_rfl) (by kernel_rfl) (by kernel_rfl) (fun _ _ _ h => h) (Or.inl ⟨by rfl, ?y36⟩) hHeld ?r36
    case y36 => (intro w hSw; (try dsimp only at hSw); go_simp; try with_reducible rfl)
    simp only [Act.put, List.setIfInBounds_toArray, List.set_cons_zero, List.set_cons_succ]
    refine take_put (i := 7) (d := 44) (oi := _) (v := ?v37) rfl rfl (by kernel_rfl) (by kernel_rfl) (by kernel_rfl) (fun _ _ _ h => h) (Or.inl ⟨by rfl, ?y37⟩) hHeld ?r37
    case y37 => (intro w hSw; (try dsimp only at hSw); go_simp; try with_reducible rfl)
    simp only [Act.put, List.setIfInBounds_toArray, List.set_cons_zero, List.set_cons_succ]
    refine take_put (i := 8) (d := 45) (oi := _) (v := ?v38) rfl rfl (by kernel_rfl) (by kernel_rfl) (by kernel_rfl) (fun _ _ _ h => h) (Or.inl ⟨by rfl, ?y38⟩) hHeld ?r38
    case y38 => (intro w hSw; (try dsimp only at hSw); go_simp; try with_reducible rfl)
    simp only [Act.put, List.setIfInBounds_toArray, List.set_cons_zero, List.set_cons_succ]
    refine take_put (i := 9) (d := 46) (oi := _) (v := ?v39) rfl rfl (by kernel_rfl) (by kernel_rfl) (by kernel_rfl) (fun _ _ _ h => h) (Or.inl ⟨by rfl, ?y39⟩) hHeld ?r39
    case y39 => (intro w hSw; (try dsimp only at hSw); go_simp; try with_reducible rfl)
    simp only [Act.put, List.setIfInBounds_toArray, List.set_cons_zero, List.set_cons_succ]
    refine wpAnyH_ready (rs := [5, 11]) (by kernel_rfl) (by simp) (AllReadyH.cons (o := _) rfl (fun K hK => ?_) (AllReadyH.cons (o := _) rfl (fun K hK => ?_) (AllReadyH.nil)))
    · go_simp
      refine (HP1.out _ hHeld.1).mono ?_
      rintro e w6 ⟨uk5, uc5, us5, ut5, ua5, un5, uo5, va5, vn5, vo5, rfl, hu5, bk⟩
      have HU5 := Lib.hid hu5
      clear hu5
      (try dsimp only)
      refine hK.out _ _ (hHeld.call bk (Nat.le_refl _)) (fun hHeld => ?_)
      clear hK K
      refine wpAnyH_ready (rs := [10, 11]) (by kernel_rfl) (by simp) (AllReadyH.cons (o := _) rfl (fun K hK => ?_) (AllReadyH.cons (o := _) rfl (fun K hK => ?_) (AllReadyH.nil)))
      · go_simp
        refine (HP2.out ⟨uk5, uc5, us5, ut5, .slice ua5 un5 uo5, .slice va5 vn5 vo5⟩ _ hHeld.1 HU5.out).mono ?_
        rintro e w7 ⟨uk6, uc6, us6, ut6, ua6, un6, uo6, va6, vn6, vo6, rfl, hu6, bk⟩
        have HU6 := Lib.hid hu6
        clear hu6
        (try dsimp only)
        refine hK.out _ _ (hHeld.call bk (Nat.le_refl _)) (fun hHeld => ?_)
        clear hK K
        have hHeld0 := hHeld
        refine wpAnyH_ready (rs := [11]) (by kernel_rfl) (by simp) (AllReadyH.cons (o := _) rfl (fun K hK => ?_) (AllReadyH.nil))
        go_simp
        (try dsimp only)
        refine hK.out _ _ (hHeld.call (bA1 _ _) (Nat.le_refl _)) (fun hHeld => ?_)
        clear hK K
        refine wpAnyH_ready (rs := [12]) (by kernel_rfl) (by simp) (AllReadyH.cons (o := _) rfl (fun K hK => ?_) (AllReadyH.nil))
        go_simp
        (try dsimp only)
        refine hK.out _ _ (hHeld0.call (bA1 w7 (Obj.cells #[.int .i64 uk6, .int .i64 uc6, .int .i64 us6, .string ut6, .slice ua6 un6 uo6, .slice va6 vn6 vo6] 27)) (Nat.le_refl _)) (fun hHeld => ?_)
        clear hK K
        refine wpAnyH_done (by kernel_rfl) ?_ _
        have HF := Lib.hid hHeld.1
        have HF0 := Lib.hid hHeld0.1
        clear hHeld hHeld0
        go_wp2
        go_meet
        exact ⟨w7.heap.size, uk6, uc6, us6, ut6, ua6, un6, uo6, va6, vn6, vo6, rfl, Lib.hid (by obtain ⟨n, h'⟩ := HU6.out; exact (HB.out.on HF0.out).push h'), Lib.hid (HT.out.on HF.out)⟩
      · go_simp
        have hw6 : w4.heap.size ≤ w6.heap.size := hHeld.1.size
        have HX5 : ∃ n, VTx w6.heap.size (w6.alloc (Obj.cells #[.int .i64 0, .int .i64 0, .int .i64 0, .string ⟨#[]⟩, .slice none 0 0, .slice none 0 0] 27)) n ⟨uk5, uc5, us5, ut5, .slice ua5 un5 uo5, .slice va5 vn5 vo5⟩ (putT t a u0) := by obtain ⟨n, h'⟩ := HU5.out; exact ⟨n, VTx.on (bA1 _ _) n (VT.x (Nat.le_refl _) n h')⟩
        have hz0 := Vb.new w6 #[.int .i64 0, .int .i64 0, .int .i64 0, .string ⟨#[]⟩, .slice none 0 0, .slice none 0 0]
        (try dsimp only)
        refine hK.out _ _ (hHeld.call (bA1 _ _) (Nat.le_refl _)) (fun hHeld => ?_)
        clear hK K
        refine wpAnyH_ready (rs := [10]) (by kernel_rfl) (by simp) (AllReadyH.cons (o := _) rfl (fun K hK => ?_) (AllReadyH.nil))
        go_simp
        refine (HP2X.out ⟨uk5, uc5, us5, ut5, .slice ua5 un5 uo5, .slice va5 vn5 vo5⟩ _ hHeld.1 w6.heap.size (by omega) (by simp) HX5).mono ?_
        rintro e w7 ⟨uk6, uc6, us6, ut6, ua6, un6, uo6, va6, vn6, vo6, rfl, hu6, bk⟩
        have HU6 := Lib.hid hu6
        clear hu6
        (try dsimp only)
        refine hK.out _ _ (hHeld.call bk (Nat.le_refl _)) (fun hHeld => ?_)
        clear hK K
        have hzq : Vb w7 w6.heap.size #[.int .i64 0, .int .i64 0, .int .i64 0, .string ⟨#[]⟩, .slice none 0 0, .slice none 0 0] := hz0.on bk
        have HBK := Lib.hid hHeld.1
        obtain ⟨z0, z1, z2, z3, z4, z5⟩ := hzq.six
        have hfq := fun o => hzq.free o
        refine wpAnyH_ready (rs := [12]) (by kernel_rfl) (by simp) (AllReadyH.cons (o := _) rfl (fun K hK => ?_) (AllReadyH.nil))
        go_simp
        (try dsimp only)
        refine hK.out _ _ (hHeld.set6 hw6 (fun t ht => Nat.lt_of_lt_of_le (hlt3 t ht) hw6) _ _ _ _ _ _) (fun hHeld => ?_)
        clear hK K
        refine wpAnyH_done (by kernel_rfl) ?_ _
        have HF := Lib.hid hHeld.1
        have HZQ := Lib.hid hzq
        clear hHeld z0 z1 z2 z3 z4 z5 hfq hzq
        go_wp2
        go_meet
        exact ⟨_, uk6, uc6, us6, ut6, ua6, un6, uo6, va6, vn6, vo6, rfl, Lib.hid (by obtain ⟨n, h'⟩ := HU6.out; exact HB.out.newX hw6 HBK.out HZQ.out h'), Lib.hid (HT.out.on HF.out)⟩
    · go_simp
      have hz0 := Vb.new w4.drew #[.int .i64 0, .int .i64 0, .int .i64 0, .string ⟨#[]⟩, .slice none 0 0, .slice none 0 0]
      (try dsimp only)
      refine hK.out _ _ (hHeld.call (bA1 _ _) (Nat.le_refl _)) (fun hHeld => ?_)
      clear hK K
      refine wpAnyH_ready (rs := [5]) (by kernel_rfl) (by simp) (AllReadyH.cons (o := _) rfl (fun K hK => ?_) (AllReadyH.nil))
      go_simp
      refine (HP1X.out _ hHeld.1 w4.heap.size hw4 (by simp)).mono ?_
      rintro e w6 ⟨uk5, uc5, us5, ut5, ua5, un5, uo5, va5, vn5, vo5, rfl, HX5, bk⟩
      have hz6 : Vb w6 w4.heap.size #[.int .i64 0, .int .i64 0, .int .i64 0, .string ⟨#[]⟩, .slice none 0 0, .slice none 0 0] := hz0.on bk
      (try dsimp only)
      refine hK.out _ _ (hHeld.call bk (Nat.le_refl _)) (fun hHeld => ?_)
      clear hK K
      refine wpAnyH_ready (rs := [10]) (by kernel_rfl) (by simp) (AllReadyH.cons (o := _) rfl (fun K hK => ?_) (AllReadyH.nil))
      go_simp
      refine (HP2X.out ⟨uk5, uc5, us5, ut5, .slice ua5 un5 uo5, .slice va5 vn5 vo5⟩ _ hHeld.1 w4.heap.size hw4 hz6.lt HX5).mono ?_
      rintro e w7 ⟨uk6, uc6, us6, ut6, ua6, un6, uo6, va6, vn6, vo6, rfl, hu6, bk⟩
      have HU6 := Lib.hid hu6
      clear hu6
      (try dsimp only)
      refine hK.out _ _ (hHeld.call bk (Nat.le_refl _)) (fun hHeld => ?_)
      clear hK K
      have hzq : Vb w7 w4.heap.size #[.int .i64 0, .int .i64 0, .int .i64 0, .string ⟨#[]⟩, .slice none 0 0, .slice none 0 0] := hz6.on bk
      have HBK := Lib.hid hHeld.1
      obtain ⟨z0, z1, z2, z3, z4, z5⟩ := hzq.six
      have hfq := fun o => hzq.free o
      refine wpAnyH_ready (rs := [12]) (by kernel_rfl) (by simp) (AllReadyH.cons (o := _) rfl (fun K hK => ?_) (AllReadyH.nil))
      go_simp
      (try dsimp only)
      refine hK.out _ _ (hHeld.set6 (Nat.le_refl _) (fun t ht => Nat.lt_of_lt_of_le (hlt3 t ht) (Nat.le_refl _)) _ _ _ _ _ _) (fun hHeld => ?_)
      clear hK K
      refine wpAnyH_done (by kernel_rfl) ?_ _
      have HF := Lib.hid hHeld.1
      have HZQ := Lib.hid hzq
      clear hHeld z0 z1 z2 z3 z4 z5 hfq hzq
      go_wp2
      go_meet
      exact ⟨_, uk6, uc6, us6, ut6, ua6, un6, uo6, va6, vn6, vo6, rfl, Lib.hid (by obtain ⟨n, h'⟩ := HU6.out; exact HB.out.newX (Nat.le_refl _) HBK.out HZQ.out h'), Lib.hid (HT.out.on HF.out)⟩
  case rest =>
  clear HB HT
  obtain ⟨k1, uk1, uc1, us1, ut1, ua1, un1, uo1, va1, vn1, vo1, rfl, HB, HT⟩ := hcut
  go_upto_region 4 with (fail)
  go_cut [8] (fun pv wx => ∃ kq uk6 uc6 us6 ut6 ua6 un6 uo6 va6 vn6 vo6, pv = .pointer (some ⟨kq, 0, none⟩) ∧ Hid (Bs w wx ((kq, ⟨uk6, uc6, us6, ut6, .slice ua6 un6 uo6, .slice va6 vn6 vo6⟩, (putT (putT t b u1) a u0)) :: [(k1, ⟨uk1, uc1, us1, ut1, .slice ua1 un1 uo1, .slice va1 vn1 vo1⟩, (putT (putT t a u0) b u1)), (w.heap.size, x, t)])) ∧ Hid (Tt wx w.heap.size v0 v1 a b))
  case first =>
    as_aux_lemma =>
    obtain ⟨x0, x1, x2, x3, x4, x5⟩ := HB.out.cells (k := w.heap.size) (x := x) (t := t) (by simp)
    obtain ⟨⟨p0, p1, p2, p3, p4, p5⟩, ⟨q0, q1, q2, q3, q4, q5⟩, s0, s1⟩ := HT.out.cells
    have HP1 := Lib.hid (fun wx (h : Below wc.heap.size wc wx) => put_cells x v1 t u1 b wx (by obtain ⟨n, h'⟩ := HX.out; exact ⟨n, VT.on (bT HB.out.bel h) n h'⟩) (by obtain ⟨n, h'⟩ := Hv1.out; exact ⟨n, VT.on (bT HB.out.bel h) n h'⟩) (by omega) HKb.out)
    have HP1X := Lib.hid (fun wx (h : Below wc.heap.size wc wx) q (hq : w.heap.size ≤ q) (hq2 : q < wx.heap.size) => put_cellsX q x v1 t u1 b wx (by obtain ⟨n, h'⟩ := HX.out; exact ⟨n, VTx.on (bT HB.out.bel h) n (VT.x hq n h')⟩) (by obtain ⟨n, h'⟩ := Hv1.out; exact ⟨n, VTx.on (bT HB.out.bel h) n (VT.x hq n h')⟩) (by omega) HKb.out hq2)
    have HP2 := Lib.hid (fun (y : Six) w6 (h6 : Below wc.heap.size wc w6) (hy : ∃ n, VT w6 n y (putT t b u1)) => put_cells y v0 (putT t b u1) u0 a w6 hy (by obtain ⟨n, h'⟩ := Hv0.out; exact ⟨n, VT.on (bT HB.out.bel h6) n h'⟩) (by have := putT_len t b u1; omega) HKa.out)
    have HP2X := Lib.hid (fun (y : Six) wx (h : Below wc.heap.size wc wx) q (hq : w.heap.size ≤ q) (hq2 : q < wx.heap.size) (hy : ∃ n, VTx q wx n y (putT t b u1)) => put_cellsX q y v0 (putT t b u1) u0 a wx hy (by obtain ⟨n, h'⟩ := Hv0.out; exact ⟨n, VTx.on (bT HB.out.bel h) n (VT.x hq n h')⟩) (by have := putT_len t b u1; omega) HKa.out hq2)
    have hwc : w.heap.size ≤ wc.heap.size := HB.out.bel.size
    have hS4 : Sx wc.heap.size wc [(⟨w.heap.size, 0, none⟩, (.int .i64 x.k)), (⟨w.heap.size, 1, none⟩, (.int .i64 x.c)), (⟨w.heap.size, 2, none⟩, (.int .i64 x.s)), (⟨w.heap.size, 3, none⟩, (.string x.st)), (⟨w.heap.size, 4, none⟩, x.iv), (⟨w.heap.size, 5, none⟩, x.kv), (⟨w.heap.size + 1, 0, none⟩, (.int .i64 v0.k)), (⟨w.heap.size + 1, 1, none⟩, (.int .i64 v0.c)), (⟨w.heap.size + 1, 2, none⟩, (.int .i64 v0.s)), (⟨w.heap.size + 1, 3, none⟩, (.string v0.st)), (⟨w.heap.size + 1, 4, none⟩, v0.iv), (⟨w.heap.size + 1, 5, none⟩, v0.kv), (⟨w.heap.size + 1, 6, none⟩, (.int .i64 v1.k)), (⟨w.heap.size + 1, 7, none⟩, (.int .i64 v1.c)), (⟨w.heap.size + 1, 8, none⟩, (.int .i64 v1.s)), (⟨w.heap.size + 1, 9, none⟩, (.string v1.st)), (⟨w.heap.size + 1, 10, none⟩, v1.iv), (⟨w.heap.size + 1, 11, none⟩, v1.kv), (⟨w.heap.size + 2, 0, none⟩, (.string a)), (⟨w.heap.size + 2, 1, none⟩, (.string b))] (wc) := by
      refine ⟨Below.refl _ _, ?_⟩
      intro t ht
      simp only [List.mem_cons, List.not_mem_nil, or_false] at ht
      rcases ht with rfl | rfl | rfl | rfl | rfl | rfl | rfl | rfl | rfl | rfl | rfl | rfl | rfl | rfl | rfl | rfl | rfl | rfl | rfl | rfl
      · exact Sx.mk (x0)
      · exact Sx.mk (x1)
      · exact Sx.mk (x2)
      · exact Sx.mk (x3)
      · exact Sx.mk (x4)
      · exact Sx.mk (x5)
      · exact Sx.mk (p0)
      · exact Sx.mk (p1)
      · exact Sx.mk (p2)
      · exact Sx.mk (p3)
      · exact Sx.mk (p4)
      · exact Sx.mk (p5)
      · exact Sx.mk (q0)
      · exact Sx.mk (q1)
      · exact Sx.mk (q2)
      · exact Sx.mk (q3)
      · exact Sx.mk (q4)
      · exact Sx.mk (q5)
      · exact Sx.mk (s0)
      · exact Sx.mk (s1)
    obtain ⟨fx4, hfx4⟩ : ∃ fx : List (Addr × Value), [(⟨w.heap.size, 0, none⟩, (.int .i64 x.k)), (⟨w.heap.size, 1, none⟩, (.int .i64 x.c)), (⟨w.heap.size, 2, none⟩, (.int .i64 x.s)), (⟨w.heap.size, 3, none⟩, (.string x.st)), (⟨w.heap.size, 4, none⟩, x.iv), (⟨w.heap.size, 5, none⟩, x.kv), (⟨w.heap.size + 1, 0, none⟩, (.int .i64 v0.k)), (⟨w.heap.size + 1, 1, none⟩, (.int .i64 v0.c)), (⟨w.heap.size + 1, 2, none⟩, (.int .i64 v0.s)), (⟨w.heap.size + 1, 3, none⟩, (.string v0.st)), (⟨w.heap.size + 1, 4, none⟩, v0.iv), (⟨w.heap.size + 1, 5, none⟩, v0.kv), (⟨w.heap.size + 1, 6, none⟩, (.int .i64 v1.k)), (⟨w.heap.size + 1, 7, none⟩, (.int .i64 v1.c)), (⟨w.heap.size + 1, 8, none⟩, (.int .i64 v1.s)), (⟨w.heap.size + 1, 9, none⟩, (.string v1.st)), (⟨w.heap.size + 1, 10, none⟩, v1.iv), (⟨w.heap.size + 1, 11, none⟩, v1.kv), (⟨w.heap.size + 2, 0, none⟩, (.string a)), (⟨w.heap.size + 2, 1, none⟩, (.string b))] = fx := ⟨_, rfl⟩
    rw [hfx4] at hS4
    have u4_0 := Sx.get (B := wc.heap.size) (o := wc) (fx := fx4) (p := ⟨w.heap.size, 0, none⟩) (v := (.int .i64 x.k)) (by subst hfx4; simp)
    have u4_1 := Sx.get (B := wc.heap.size) (o := wc) (fx := fx4) (p := ⟨w.heap.size, 1, none⟩) (v := (.int .i64 x.c)) (by subst hfx4; simp)
    have u4_2 := Sx.get (B := wc.heap.size) (o := wc) (fx := fx4) (p := ⟨w.heap.size, 2, none⟩) (v := (.int .i64 x.s)) (by subst hfx4; simp)
    have u4_3 := Sx.get (B := wc.heap.size) (o := wc) (fx := fx4) (p := ⟨w.heap.size, 3, none⟩) (v := (.string x.st)) (by subst hfx4; simp)
    have u4_4 := Sx.get (B := wc.heap.size) (o := wc) (fx := fx4) (p := ⟨w.heap.size, 4, none⟩) (v := x.iv) (by subst hfx4; simp)
    have u4_5 := Sx.get (B := wc.heap.size) (o := wc) (fx := fx4) (p := ⟨w.heap.size, 5, none⟩) (v := x.kv) (by subst hfx4; simp)
    have u4_6 := Sx.get (B := wc.heap.size) (o := wc) (fx := fx4) (p := ⟨w.heap.size + 1, 0, none⟩) (v := (.int .i64 v0.k)) (by subst hfx4; simp)
    have u4_7 := Sx.get (B := wc.heap.size) (o := wc) (fx := fx4) (p := ⟨w.heap.size + 1, 1, none⟩) (v := (.int .i64 v0.c)) (by subst hfx4; simp)
    have u4_8 := Sx.get (B := wc.heap.size) (o := wc) (fx := fx4) (p := ⟨w.heap.size + 1, 2, none⟩) (v := (.int .i64 v0.s)) (by subst hfx4; simp)
    have u4_9 := Sx.get (B := wc.heap.size) (o := wc) (fx := fx4) (p := ⟨w.heap.size + 1, 3, none⟩) (v := (.string v0.st)) (by subst hfx4; simp)
    have u4_10 := Sx.get (B := wc.heap.size) (o := wc) (fx := fx4) (p := ⟨w.heap.size + 1, 4, none⟩) (v := v0.iv) (by subst hfx4; simp)
    have u4_11 := Sx.get (B := wc.heap.size) (o := wc) (fx := fx4) (p := ⟨w.heap.size + 1, 5, none⟩) (v := v0.kv) (by subst hfx4; simp)
    have u4_12 := Sx.get (B := wc.heap.size) (o := wc) (fx := fx4) (p := ⟨w.heap.size + 1, 6, none⟩) (v := (.int .i64 v1.k)) (by subst hfx4; simp)
    have u4_13 := Sx.get (B := wc.heap.size) (o := wc) (fx := fx4) (p := ⟨w.heap.size + 1, 7, none⟩) (v := (.int .i64 v1.c)) (by subst hfx4; simp)
    have u4_14 := Sx.get (B := wc.heap.size) (o := wc) (fx := fx4) (p := ⟨w.heap.size + 1, 8, none⟩) (v := (.int .i64 v1.s)) (by subst hfx4; simp)
    have u4_15 := Sx.get (B := wc.heap.size) (o := wc) (fx := fx4) (p := ⟨w.heap.size + 1, 9, none⟩) (v := (.string v1.st)) (by subst hfx4; simp)
    have u4_16 := Sx.get (B := wc.heap.size) (o := wc) (fx := fx4) (p := ⟨w.heap.size + 1, 10, none⟩) (v := v1.iv) (by subst hfx4; simp)
    have u4_17 := Sx.get (B := wc.heap.size) (o := wc) (fx := fx4) (p := ⟨w.heap.size + 1, 11, none⟩) (v := v1.kv) (by subst hfx4; simp)
    have u4_18 := Sx.get (B := wc.heap.size) (o := wc) (fx := fx4) (p := ⟨w.heap.size + 2, 0, none⟩) (v := (.string a)) (by subst hfx4; simp)
    have u4_19 := Sx.get (B := wc.heap.size) (o := wc) (fx := fx4) (p := ⟨w.heap.size + 2, 1, none⟩) (v := (.string b)) (by subst hfx4; simp)
    clear hfx4
    have HS4 := Lib.hid hS4
    clear hS4
    have hlt4 := fun t ht => (HS4.out.2 t ht).1
    clear x0 x1 x2 x3 x4 x5 p0 p1 p2 p3 p4 p5 q0 q1 q2 q3 q4 q5 s0 s1
    refine wp_region_held_drew (S := Sx wc.heap.size wc fx4) (by kernel_rfl) HS4.out.drew (fun hHeld => ?_)
    refine take_put (i := 0) (d := 48) (oi := _) (v := ?v40) rfl rfl (by kernel_rfl) (by kernel_rfl) (by kernel_rfl) (fun _ _ _ h => h) (Or.inl ⟨by rfl, ?y40⟩) hHeld ?r40
    case y40 => (intro w hSw; (try dsimp only at hSw); go_simp; try with_reducible rfl)
    simp only [Act.put, List.setIfInBounds_toArray, List.set_cons_zero, List.set_cons_succ]
    refine take_put (i := 1) (d := 49) (oi := _) (v := ?v41) rfl rfl (by kernel_rfl) (by kernel_rfl) (by kernel_rfl) (fun _ _ _ h => h) (Or.inl ⟨by rfl, ?y41⟩) hHeld ?r41
    case y41 => (intro w hSw; (try dsimp only at hSw); go_simp; try with_reducible rfl)
    simp only [Act.put, List.setIfInBounds_toArray, List.set_cons_zero, List.set_cons_succ]
    refine take_put (i := 2) (d := 50) (oi := _) (v := ?v42) rfl rfl (by kernel_rfl) (by kernel_rfl) (by kernel_rfl) (fun _ _ _ h => h) (Or.inl ⟨by rfl, ?y42⟩) hHeld ?r42
    case y42 => (intro w hSw; (try dsimp only at hSw); go_simp; try with_reducible rfl)
    simp only [Act.put, List.setIfInBounds_toArray, List.set_cons_zero, List.set_cons_succ]
    refine take_put (i := 3) (d := 51) (oi := _) (v := ?v43) rfl rfl (by kernel_rfl) (by kernel_rfl) (by kernel_rfl) (fun _ _ _ h => h) (Or.inl ⟨by rfl, ?y43⟩) hHeld ?r43
    case y43 => (intro w hSw; (try dsimp only at hSw); go_simp; try with_reducible rfl)
    simp only [Act.put, List.setIfInBounds_toArray, List.set_cons_zero, List.set_cons_succ]
    refine take_put (i := 4) (d := 52) (oi := _) (v := ?v44) rfl rfl (by kernel_rfl) (by kernel_rfl) (by kernel_rfl) (fun _ _ _ h => h) (Or.inl ⟨by rfl, ?y44⟩) hHeld ?r44
    case y44 => (intro w hSw; (try dsimp only at hSw); go_simp; try with_reducible rfl)
    simp only [Act.put, List.setIfInBounds_toArray, List.set_cons_zero, List.set_cons_succ]
    refine take_put (i := 6) (d := 54) (oi := _) (v := ?v46) rfl rfl (by kernel_rfl) (by kernel_rfl) (by kernel_rfl) (fun _ _ _ h => h) (Or.inl ⟨by rfl, ?y46⟩) hHeld ?r46
    case y46 => (intro w hSw; (try dsimp only at hSw); go_simp; try with_reducible rfl)
    simp only [Act.put, List.setIfInBounds_toArray, List.set_cons_zero, List.set_cons_succ]
    refine take_put (i := 7) (d := 55) (oi := _) (v := ?v47) rfl rfl (by kernel_rfl) (by kernel_rfl) (by kernel_rfl) (fun _ _ _ h => h) (Or.inl ⟨by rfl, ?y47⟩) hHeld ?r47
    case y47 => (intro w hSw; (try dsimp only at hSw); go_simp; try with_reducible rfl)
    simp only [Act.put, List.setIfInBounds_toArray, List.set_cons_zero, List.set_cons_succ]
    refine take_put (i := 8) (d := 56) (oi := _) (v := ?v48) rfl rfl (by kernel_rfl) (by kernel_rfl) (by kernel_rfl) (fun _ _ _ h => h) (Or.inl ⟨by rfl, ?y48⟩) hHeld ?r48
    case y48 => (intro w hSw; (try dsimp only at hSw); go_simp; try with_reducible rfl)
    simp only [Act.put, List.setIfInBounds_toArray, List.set_cons_zero, List.set_cons_succ]
    refine take_put (i := 9) (d := 57) (oi := _) (v := ?v49) rfl rfl (by kernel_rfl) (by kernel_rfl) (by kernel_rfl) (fun _ _ _ h => h) (Or.inl ⟨by rfl, ?y49⟩) hHeld ?r49
    case y49 => (intro w hSw; (try dsimp only at hSw); go_simp; try with_reducible rfl)
    simp only [Act.put, List.setIfInBounds_toArray, List.set_cons_zero, List.set_cons_succ]
    refine wpAnyH_ready (rs := [5, 11]) (by kernel_rfl) (by simp) (AllReadyH.cons (o := _) rfl (fun K hK => ?_) (AllReadyH.cons (o := _) rfl (fun K hK => ?_) (AllReadyH.nil)))
    · go_simp
      refine (HP1.out _ hHeld.1).mono ?_
      rintro e w6 ⟨uk5, uc5, us5, ut5, ua5, un5, uo5, va5, vn5, vo5, rfl, hu5, bk⟩
      have HU5 := Lib.hid hu5
      clear hu5
      (try dsimp only)
      refine hK.out _ _ (hHeld.call bk (Nat.le_refl _)) (fun hHeld => ?_)
      clear hK K
      refine wpAnyH_ready (rs := [10, 11]) (by kernel_rfl) (by simp) (AllReadyH.cons (o := _) rfl (fun K hK => ?_) (AllReadyH.cons (o := _) rfl (fun K hK => ?_) (AllReadyH.nil)))
      · go_simp
        refine (HP2.out ⟨uk5, uc5, us5, ut5, .slice ua5 un5 uo5, .slice va5 vn5 vo5⟩ _ hHeld.1 HU5.out).mono ?_
        rintro e w7 ⟨uk6, uc6, us6, ut6, ua6, un6, uo6, va6, vn6, vo6, rfl, hu6, bk⟩
        have HU6 := Lib.hid hu6
        clear hu6
        (try dsimp only)
        refine hK.out _ _ (hHeld.call bk (Nat.le_refl _)) (fun hHeld => ?_)
        clear hK K
        have hHeld0 := hHeld
        refine wpAnyH_ready (rs := [11]) (by kernel_rfl) (by simp) (AllReadyH.cons (o := _) rfl (fun K hK => ?_) (AllReadyH.nil))
        go_simp
        (try dsimp only)
        refine hK.out _ _ (hHeld.call (bA1 _ _) (Nat.le_refl _)) (fun hHeld => ?_)
        clear hK K
        refine wpAnyH_ready (rs := [12]) (by kernel_rfl) (by simp) (AllReadyH.cons (o := _) rfl (fun K hK => ?_) (AllReadyH.nil))
        go_simp
        (try dsimp only)
        refine hK.out _ _ (hHeld0.call (bA1 w7 (Obj.cells #[.int .i64 uk6, .int .i64 uc6, .int .i64 us6, .string ut6, .slice ua6 un6 uo6, .slice va6 vn6 vo6] 27)) (Nat.le_refl _)) (fun hHeld => ?_)
        clear hK K
        refine wpAnyH_done (by kernel_rfl) ?_ _
        have HF := Lib.hid hHeld.1
        have HF0 := Lib.hid hHeld0.1
        clear hHeld hHeld0
        go_wp2
        go_meet
        exact ⟨w7.heap.size, uk6, uc6, us6, ut6, ua6, un6, uo6, va6, vn6, vo6, rfl, Lib.hid (by obtain ⟨n, h'⟩ := HU6.out; exact (HB.out.on HF0.out).push h'), Lib.hid (HT.out.on HF.out)⟩
      · go_simp
        have hw6 : wc.heap.size ≤ w6.heap.size := hHeld.1.size
        have HX5 : ∃ n, VTx w6.heap.size (w6.alloc (Obj.cells #[.int .i64 0, .int .i64 0, .int .i64 0, .string ⟨#[]⟩, .slice none 0 0, .slice none 0 0] 27)) n ⟨uk5, uc5, us5, ut5, .slice ua5 un5 uo5, .slice va5 vn5 vo5⟩ (putT t b u1) := by obtain ⟨n, h'⟩ := HU5.out; exact ⟨n, VTx.on (bA1 _ _) n (VT.x (Nat.le_refl _) n h')⟩
        have hz0 := Vb.new w6 #[.int .i64 0, .int .i64 0, .int .i64 0, .string ⟨#[]⟩, .slice none 0 0, .slice none 0 0]
        (try dsimp only)
        refine hK.out _ _ (hHeld.call (bA1 _ _) (Nat.le_refl _)) (fun hHeld => ?_)
        clear hK K
        refine wpAnyH_ready (rs := [10]) (by kernel_rfl) (by simp) (AllReadyH.cons (o := _) rfl (fun K hK => ?_) (AllReadyH.nil))
        go_simp
        refine (HP2X.out ⟨uk5, uc5, us5, ut5, .slice ua5 un5 uo5, .slice va5 vn5 vo5⟩ _ hHeld.1 w6.heap.size (by omega) (by simp) HX5).mono ?_
        rintro e w7 ⟨uk6, uc6, us6, ut6, ua6, un6, uo6, va6, vn6, vo6, rfl, hu6, bk⟩
        have HU6 := Lib.hid hu6
        clear hu6
        (try dsimp only)
        refine hK.out _ _ (hHeld.call bk (Nat.le_refl _)) (fun hHeld => ?_)
        clear hK K
        have hzq : Vb w7 w6.heap.size #[.int .i64 0, .int .i64 0, .int .i64 0, .string ⟨#[]⟩, .slice none 0 0, .slice none 0 0] := hz0.on bk
        have HBK := Lib.hid hHeld.1
        obtain ⟨z0, z1, z2, z3, z4, z5⟩ := hzq.six
        have hfq := fun o => hzq.free o
        refine wpAnyH_ready (rs := [12]) (by kernel_rfl) (by simp) (AllReadyH.cons (o := _) rfl (fun K hK => ?_) (AllReadyH.nil))
        go_simp
        (try dsimp only)
        refine hK.out _ _ (hHeld.set6 hw6 (fun t ht => Nat.lt_of_lt_of_le (hlt4 t ht) hw6) _ _ _ _ _ _) (fun hHeld => ?_)
        clear hK K
        refine wpAnyH_done (by kernel_rfl) ?_ _
        have HF := Lib.hid hHeld.1
        have HZQ := Lib.hid hzq
        clear hHeld z0 z1 z2 z3 z4 z5 hfq hzq
        go_wp2
        go_meet
        exact ⟨_, uk6, uc6, us6, ut6, ua6, un6, uo6, va6, vn6, vo6, rfl, Lib.hid (by obtain ⟨n, h'⟩ := HU6.out; exact HB.out.newX hw6 HBK.out HZQ.out h'), Lib.hid (HT.out.on HF.out)⟩
    · go_simp
      have hz0 := Vb.new wc.drew #[.int .i64 0, .int .i64 0, .int .i64 0, .string ⟨#[]⟩, .slice none 0 0, .slice none 0 0]
      (try dsimp only)
      refine hK.out _ _ (hHeld.call (bA1 _ _) (Nat.le_refl _)) (fun hHeld => ?_)
      clear hK K
      refine wpAnyH_ready (rs := [5]) (by kernel_rfl) (by simp) (AllReadyH.cons (o := _) rfl (fun K hK => ?_) (AllReadyH.nil))
      go_simp
      refine (HP1X.out _ hHeld.1 wc.heap.size hwc (by simp)).mono ?_
      rintro e w6 ⟨uk5, uc5, us5, ut5, ua5, un5, uo5, va5, vn5, vo5, rfl, HX5, bk⟩
      have hz6 : Vb w6 wc.heap.size #[.int .i64 0, .int .i64 0, .int .i64 0, .string ⟨#[]⟩, .slice none 0 0, .slice none 0 0] := hz0.on bk
      (try dsimp only)
      refine hK.out _ _ (hHeld.call bk (Nat.le_refl _)) (fun hHeld => ?_)
      clear hK K
      refine wpAnyH_ready (rs := [10]) (by kernel_rfl) (by simp) (AllReadyH.cons (o := _) rfl (fun K hK => ?_) (AllReadyH.nil))
      go_simp
      refine (HP2X.out ⟨uk5, uc5, us5, ut5, .slice ua5 un5 uo5, .slice va5 vn5 vo5⟩ _ hHeld.1 wc.heap.size hwc hz6.lt HX5).mono ?_
      rintro e w7 ⟨uk6, uc6, us6, ut6, ua6, un6, uo6, va6, vn6, vo6, rfl, hu6, bk⟩
      have HU6 := Lib.hid hu6
      clear hu6
      (try dsimp only)
      refine hK.out _ _ (hHeld.call bk (Nat.le_refl _)) (fun hHeld => ?_)
      clear hK K
      have hzq : Vb w7 wc.heap.size #[.int .i64 0, .int .i64 0, .int .i64 0, .string ⟨#[]⟩, .slice none 0 0, .slice none 0 0] := hz6.on bk
      have HBK := Lib.hid hHeld.1
      obtain ⟨z0, z1, z2, z3, z4, z5⟩ := hzq.six
      have hfq := fun o => hzq.free o
      refine wpAnyH_ready (rs := [12]) (by kernel_rfl) (by simp) (AllReadyH.cons (o := _) rfl (fun K hK => ?_) (AllReadyH.nil))
      go_simp
      (try dsimp only)
      refine hK.out _ _ (hHeld.set6 (Nat.le_refl _) (fun t ht => Nat.lt_of_lt_of_le (hlt4 t ht) (Nat.le_refl _)) _ _ _ _ _ _) (fun hHeld => ?_)
      clear hK K
      refine wpAnyH_done (by kernel_rfl) ?_ _
      have HF := Lib.hid hHeld.1
      have HZQ := Lib.hid hzq
      clear hHeld z0 z1 z2 z3 z4 z5 hfq hzq
      go_wp2
      go_meet
      exact ⟨_, uk6, uc6, us6, ut6, ua6, un6, uo6, va6, vn6, vo6, rfl, Lib.hid (by obtain ⟨n, h'⟩ := HU6.out; exact HB.out.newX (Nat.le_refl _) HBK.out HZQ.out h'), Lib.hid (HT.out.on HF.out)⟩
  case rest =>
  clear HB HT
  obtain ⟨k2, uk2, uc2, us2, ut2, ua2, un2, uo2, va2, vn2, vo2, rfl, HB, HT⟩ := hcut
  have hT : (putT (putT t b u1) a u0) = (putT (putT t a u0) b u1) := (putT_turn (isT_iff.1 HII.out) HAB.out).symm
  obtain ⟨f0, f1, f2, f3, f4, f5⟩ := HB.out.cells (k := k1) (x := ⟨uk1, uc1, us1, ut1, .slice ua1 un1 uo1, .slice va1 vn1 vo1⟩) (t := (putT (putT t a u0) b u1)) (by simp)
  obtain ⟨g0, g1, g2, g3, g4, g5⟩ := HB.out.cells (k := k2) (x := ⟨uk2, uc2, us2, ut2, .slice ua2 un2 uo2, .slice va2 vn2 vo2⟩) (t := (putT (putT t b u1) a u0)) (by simp)
  simp only at f0 f1 f2 f3 f4 f5 g0 g1 g2 g3 g4 g5
  have hS1 := same_cells ⟨uk1, uc1, us1, ut1, .slice ua1 un1 uo1, .slice va1 vn1 vo1⟩ ⟨uk2, uc2, us2, ut2, .slice ua2 un2 uo2, .slice va2 vn2 vo2⟩ (putT (putT t a u0) b u1) wc (HB.out.tree (k1, ⟨uk1, uc1, us1, ut1, .slice ua1 un1 uo1, .slice va1 vn1 vo1⟩, (putT (putT t a u0) b u1)) (by simp)) (by rw [← hT]; exact HB.out.tree (k2, ⟨uk2, uc2, us2, ut2, .slice ua2 un2 uo2, .slice va2 vn2 vo2⟩, (putT (putT t b u1) a u0)) (by simp))
  simp only at hS1
  have HS1 := Lib.hid hS1
  have HBE := Lib.hid HB.out.bel
  clear hS1 hT HB HT HII HAB HLL HX Hv0 Hv1 HKa HKb hil
  go_wp2_with (first | (go_at_call 15; refine HS1.out.mono ?_; rintro e w8 ⟨rfl, b8⟩) | (go_at_call 11; refine (lives_any _).mono ?_; rintro e w9 ⟨rfl, b9⟩))
  go_ret
  exact ⟨rfl, bT (bT HBE.out b8) b9⟩
end Jv
end Go.Proofs.Ytnlnogchbmpmaaa
