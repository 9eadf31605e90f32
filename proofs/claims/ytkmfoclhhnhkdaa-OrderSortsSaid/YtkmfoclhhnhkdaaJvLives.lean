/- keyholelaw05.lives answers true. -/
import Derived.Test.YtkmfoclhhnhkdaaJvPutT
import Derived.KernelRfl
import Derived.Test.YtkmfoclhhnhkdaaJvSame
namespace Go.Proofs.Ytkmfoclhhnhkdaa
open Go.RowKit
namespace Jv
open _root_.Go.Proofs.Ytkmfoclhhnhkdaa.Nm
/-- a whole number as data -/
def jvI (n : Int) : JV := .mk 3 n 0 ⟨#[]⟩ [] []
/-- a whole number's cells -/
def sixI (n : Int) : Six := ⟨3, n, 0, ⟨#[]⟩, .slice none 0 0, .slice none 0 0⟩
def sixO : Six := ⟨6, 0, 0, ⟨#[]⟩, .slice none 0 0, .slice none 0 0⟩
def jvO : JV := .mk 6 0 0 ⟨#[]⟩ [] []
theorem VT.I (w : World) (n : Int) (h : -9223372036854775808 ≤ n ∧ n < 9223372036854775808) : VT w 1 (sixI n) (jvI n) :=
  ⟨rfl, rfl, rfl, rfl, Ks.nil0 w, ⟨⟨by show (-9223372036854775808 : Int) ≤ 3; decide, by show (3 : Int) < _; decide⟩, h, ⟨by show (-9223372036854775808 : Int) ≤ 0; decide, by show (0 : Int) < _; decide⟩, by show (⟨#[]⟩ : ByteArray).size ≤ maxLen; decide, fun x hx => by simp [jvI, JV.keys] at hx⟩, [], Vs.nil0 w, rfl, fun j y z h => by simp at h⟩
theorem VT.O (w : World) : VT w 1 sixO jvO :=
  ⟨rfl, rfl, rfl, rfl, Ks.nil0 w, ⟨by decide, by decide, by decide, by decide, fun x hx => by simp [jvO, JV.keys] at hx⟩, [], Vs.nil0 w, rfl, fun j y z h => by simp at h⟩
theorem put1 : putT jvO ⟨#[98]⟩ (jvI 1) = .mk 6 0 0 ⟨#[]⟩ [jvI 1] [⟨#[98]⟩] := by
  rfl
theorem put2 : putT (.mk 6 0 0 ⟨#[]⟩ [jvI 1] [⟨#[98]⟩]) ⟨#[97]⟩ (jvI 2) = .mk 6 0 0 ⟨#[]⟩ [jvI 2, jvI 1] [⟨#[97]⟩, ⟨#[98]⟩] := by
  have h1 : idx [(⟨#[98]⟩ : ByteArray)] ⟨#[97]⟩ = -1 := by
    rcases idx_cases [(⟨#[98]⟩ : ByteArray)] ⟨#[97]⟩ with ⟨h, _⟩ | ⟨i, _, _, h, _⟩
    · exact h
    · have := List.mem_of_getElem? h
      simp at this
  have h2 : plc [(⟨#[98]⟩ : ByteArray)] ⟨#[97]⟩ = 0 := plc_at (x := ⟨#[98]⟩) rfl (by rw [gtB_is, ltB, Lib.toList_data, Lib.toList_data]; rfl) (fun j s hj => by omega)
  unfold putT
  rw [if_pos (by decide)]
  simp only [JV.k, JV.c, JV.s, JV.st, JV.keys, JV.items, putI, putK, h1, h2]
  rfl
set_option maxRecDepth 100000 in
set_option maxHeartbeats 4000000 in
theorem lives_any (w : World) :
    Calls Try.prog 8 #[] w fun e w' => e = .returned (.bool true) ∧ Below w.heap.size w w' := by
  have hI : ∀ (n : Int) (w : World), -9223372036854775808 ≤ n → n < 1000000000000000 → -1000000000000000 < n → Calls Try.prog 26 #[.int .i64 n] w fun e w' => e = .returned (.agg #[.int .i64 3, .int .i64 n, .int .i64 0, .string ⟨#[]⟩, .slice none 0 0, .slice none 0 0]) ∧ Below w.heap.size w w' := fun n w h0 h1 h2 => by
    have := int_v n w h0 (by omega)
    unfold intV at this
    rw [if_pos ⟨h2, h1⟩] at this
    exact this
  have hI1 := fun w => hI 1 w (by decide) (by decide) (by decide)
  have hI2 := fun w => hI 2 w (by decide) (by decide) (by decide)
  clear hI
  have hp1 : ∀ w, Calls Try.prog 25 #[.agg #[.int .i64 6, .int .i64 0, .int .i64 0, .string ⟨#[]⟩, .slice none 0 0, .slice none 0 0], .string ⟨#[98]⟩, (.agg #[.int .i64 3, .int .i64 1, .int .i64 0, .string ⟨#[]⟩, .slice none 0 0, .slice none 0 0])] w fun e w' => ∃ k c s st iv kv, e = .returned (.agg #[.int .i64 k, .int .i64 c, .int .i64 s, .string st, iv, kv]) ∧ VT w' 2 ⟨k, c, s, st, iv, kv⟩ (.mk 6 0 0 ⟨#[]⟩ [jvI 1] [⟨#[98]⟩]) ∧ Below w.heap.size w w' := fun w => by
    have := put_anyT 1 1 sixO (sixI 1) jvO (jvI 1) ⟨#[98]⟩ w (VT.O w) (VT.I w 1 (by decide)) (by decide) (by decide)
    rw [put1] at this
    exact this.mono fun e w' ⟨y, h1, h2, h3⟩ => ⟨y.k, y.c, y.s, y.st, y.iv, y.kv, h1, h2, h3⟩
  have hp2 : ∀ w k c s st iv kv, VT w 2 ⟨k, c, s, st, iv, kv⟩ (.mk 6 0 0 ⟨#[]⟩ [jvI 1] [⟨#[98]⟩]) → Calls Try.prog 25 #[.agg #[.int .i64 k, .int .i64 c, .int .i64 s, .string st, iv, kv], .string ⟨#[97]⟩, (.agg #[.int .i64 3, .int .i64 2, .int .i64 0, .string ⟨#[]⟩, .slice none 0 0, .slice none 0 0])] w fun e w' => ∃ k c s st io ic ko kc a b, e = .returned (.agg #[.int .i64 k, .int .i64 c, .int .i64 s, .string st, .slice (some ⟨io, a, none⟩) 2 ic, .slice (some ⟨ko, b, none⟩) 2 kc]) ∧ Below w.heap.size w w' ∧ ko < w'.heap.size ∧ w'.cell? ⟨ko, b, none⟩ = some (.string ⟨#[97]⟩) ∧ w'.cell? ⟨ko, b + 1, none⟩ = some (.string ⟨#[98]⟩) ∧ io < w'.heap.size ∧ w'.cell? ⟨io, a + 1, none⟩ = some (.int .i64 2) := fun w k c s st iv kv h => by
    have := put_anyT 2 1 ⟨k, c, s, st, iv, kv⟩ (sixI 2) _ (jvI 2) ⟨#[97]⟩ w h (VT.I w 2 (by decide)) (by decide) (by decide)
    rw [put2] at this
    refine this.mono fun e w' ⟨y, h1, h2, h3⟩ => ?_
    obtain ⟨e1, e2, e3, e4, e5, hB, l, hl, hll, hlt⟩ := h2
    obtain ⟨k', c', s', st', iv', kv'⟩ := y
    obtain ⟨ko, kc, q1, q2, q3⟩ := e5.form
    obtain ⟨io, ic, p1, p2, p3⟩ := hl.form
    have hl2 : l.length = 2 := hll
    obtain ⟨g, o, rfl, hg, hcl⟩ := p3 (by omega)
    obtain ⟨g', o', rfl, hg', hcl'⟩ := q3 (by decide)
    simp only at p1 q1
    rw [hl2] at p1
    subst p1 q1
    have c0 := hcl' 0 ⟨#[97]⟩ rfl
    have c1 := hcl' 1 ⟨#[98]⟩ rfl
    obtain ⟨x0, hx0⟩ : ∃ x, l[0]? = some x := ⟨_, List.getElem?_eq_getElem (by omega)⟩
    have d0 := (hcl 0 x0 hx0).2.1
    have hv := hlt 0 x0 (jvI 2) hx0 rfl
    have hxc : x0.c = 2 := hv.2.1
    rw [hxc, Nat.zero_mul, Nat.add_zero] at d0
    exact ⟨_, _, _, _, _, _, _, _, _, _, h1, h3, hg', c0, c1, hg, d0⟩
  go_enter Try.func8, Try.ntmps8
  go_upto_region 2 with (first | (go_at_call 25; refine (hp2 _ _ _ _ _ _ _ (VT.on b3 _ hy)).mono ?_; rintro e w4 ⟨k, c, s, st, io, ic, ko, kc, a, b, rfl, b4, hko, c0, c1, hio, d0⟩) | (go_at_call 26; have _ := hy; refine (hI2 _).mono ?_; rintro e w3 ⟨rfl, b3⟩) | (go_at_call 25; refine (hp1 _).mono ?_; rintro e w2 ⟨k, c, s, st, iv, kv, rfl, hy, b2⟩) | (go_at_call 26; refine (hI1 _).mono ?_; rintro e w1 ⟨rfl, b1⟩))
  have HB := Lib.hid (bT (bT (bT b1 b2) b3) b4)
  have hv := (Vb.new w4 #[.int .i64 k, .int .i64 c, .int .i64 s, .string st, .slice (some ⟨io, a, none⟩) 2 ic, .slice (some ⟨ko, b, none⟩) 2 kc]).six
  obtain ⟨z0, z1, z2, z3, z4, z5⟩ := hv
  have hb := bA1 w4 (Obj.cells #[.int .i64 k, .int .i64 c, .int .i64 s, .string st, .slice (some ⟨io, a, none⟩) 2 ic, .slice (some ⟨ko, b, none⟩) 2 kc] 27)
  have c0 := (hb.cell (p := ⟨ko, b, none⟩) hko).trans c0
  have c1 := (hb.cell (p := ⟨ko, b + 1, none⟩) hko).trans c1
  have d0 := (hb.cell (p := ⟨io, a + 1, none⟩) hio).trans d0
  have HB2 := Lib.hid (bT HB.out hb)
  have e97 := str_same (⟨#[97]⟩ : ByteArray)
  have e98 := str_same (⟨#[98]⟩ : ByteArray)
  clear b1 b2 b3 b4 hb hy hI1 hI2 hp1 hp2
  go_wp2_with fail
  go_ret
  exact ⟨rfl, HB2.out⟩
end Jv
end Go.Proofs.Ytkmfoclhhnhkdaa
