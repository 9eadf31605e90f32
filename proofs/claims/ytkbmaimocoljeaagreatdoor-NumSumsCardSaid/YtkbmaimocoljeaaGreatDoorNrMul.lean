/- The document's Times and Mul. -/
import Derived.Test.YtkbmaimocoljeaaGreatDoorNrAdd
namespace Go.Proofs.YtkbmaimocoljeaaGreatDoor
open Go.RowKit
namespace Nm
set_option maxRecDepth 100000 in
theorem run_fieldD (b : Bool) (ao : Option Addr) (n c : Nat) (w : World) : (Instr.field 48 (.agg #[.bool b, .slice ao n c]) 1).run Tryz.prog w = .ok (.slice ao n c) w := by kernel_rfl
set_option maxRecDepth 100000 in
set_option maxHeartbeats 4000000 in
theorem times_any (na nb r : Bool) (va vb : Value) (x y : Nat) (w : World) (hra : Rw w va (dgs x)) (hrb : Rw w vb (dgs y)) (hla : (dgs x).length ≤ 1000) (hlb : (dgs y).length ≤ 1000) (hr : (na != nb) = r) :
    Calls Tryz.prog 32 #[.agg #[.bool na, va], .agg #[.bool nb, vb]] w (LongIs r (x * y) w) := by
  have hsa := hra.sl
  obtain ⟨ao, an, ac, rfl⟩ := hsa
  have hsb := hrb.sl
  obtain ⟨bo, bn, bc, rfl⟩ := hsb
  obtain rfl := hrb.len
  have HRA := Lib.hid hra
  have HRB := Lib.hid hrb
  have hshift : ∀ (k : Nat) w', k ≤ 1000 → Hid (Below w.heap.size w w') → Calls Tryz.prog 45 #[.agg #[.bool false, .slice ao an ac], .int .i64 (k : Int)] w' fun e w'' => ∃ a n c, e = .returned (.agg #[.bool false, .slice a n c]) ∧ Hid (Rw w'' (.slice a n c) (dgs (x * 10 ^ k))) ∧ Below w'.heap.size w' w'' := fun k w' hk h => by
    refine (refShift_any false (.slice ao an ac) x k (k : Int) w' (HRA.out.on h.out) (by omega) (by omega) rfl).mono ?_
    rintro e w'' ⟨v, rfl, h1, h2⟩
    obtain ⟨a, n, c, rfl⟩ := h1.sl
    exact ⟨a, n, c, rfl, Lib.hid h1, h2⟩
  have hsum : ∀ v1 v2 l1 (k : Nat) w', Hid (Rw w' v1 l1) → Hid (Dg l1) → l1.length ≤ 100000 → k ≤ 1000 → Hid (Rw w' v2 (dgs (x * 10 ^ k))) → Calls Tryz.prog 48 #[v1, v2] w' fun e w'' => ∃ a n c l, e = .returned (.slice a n c) ∧ Hid (Rw w'' (.slice a n c) l) ∧ Hid (Dg l ∧ dv l = dv l1 + x * 10 ^ k) ∧ l.length ≤ max l1.length ((dgs x).length + k) + 1 ∧ Below w'.heap.size w' w'' := fun v1 v2 l1 k w' h1 h2 h3 h4 h5 => by
    have hlen : (dgs (x * 10 ^ k)).length ≤ (dgs x).length + k := by
      by_cases hx : x = 0
      · subst hx; rw [Nat.zero_mul, dgs_zero]; simp
      · rw [dgs_mul _ _ hx, List.length_append, List.length_replicate]; omega
    refine (sum_any v1 v2 l1 (dgs (x * 10 ^ k)) w' h1.out h5.out h2.out (Dg_dgs _) (by omega) (by omega)).mono ?_
    rintro e w'' ⟨v, l, rfl, ⟨g1, g2, g3⟩, g4, g5⟩
    obtain ⟨a, n, c, rfl⟩ := g4.sl
    rw [dv_dgs] at g2
    exact ⟨a, n, c, l, rfl, Lib.hid g4, Lib.hid ⟨g1, g2⟩, by omega, g5⟩
  have hr2 : (!(na == nb)) = r := by rw [← hr]; rfl
  have hfld := fun ao n c w => run_fieldD false ao n c w
  clear hra hrb
  go_enter Tryz.func32, Tryz.ntmps32
  go_wp2
  go_loopw [5, 6] (fun ov iv wr => ∃ (i : Nat) (out : List Nat), iv = .int .i64 (i : Nat) ∧ i ≤ (dgs y).length ∧ Hid (Rw wr ov out) ∧ Hid (Tms (dgs x) (dgs y) out i 0) ∧ out.length ≤ 2000 + 10 * i ∧ Hid (Lb wr w.heap.size (.bool na) (.slice ao an ac)) ∧ Hid (Lb wr (w.heap.size + 1) (.bool nb) (.slice bo (dgs y).length bc)) ∧ Hid (Lb wr (w.heap.size + 1 + 1) (.bool false) (.slice none 0 0)) ∧ Hid (Below w.heap.size w wr)) (fun _ iv _ => (dgs y).length - (intOf iv).toNat)
  case atStart => exact ⟨0, [], rfl, by omega, Lib.hid (Rw.nil _), Lib.hid (Tms.zero _ _), by simp, Lib.hid (by simpa using ((Lb.new w (.bool na) (.slice ao an ac)).alloc (Obj.cells #[.bool nb, .slice bo (dgs y).length bc] 48)).alloc (Obj.cells #[.bool false, .slice none 0 0] 48)), Lib.hid (by simpa using (Lb.new (w.alloc (Obj.cells #[.bool na, .slice ao an ac] 48)) (.bool nb) (.slice bo (dgs y).length bc)).alloc (Obj.cells #[.bool false, .slice none 0 0] 48)), Lib.hid (by simpa using Lb.new ((w.alloc (Obj.cells #[.bool na, .slice ao an ac] 48)).alloc (Obj.cells #[.bool nb, .slice bo (dgs y).length bc] 48)) (.bool false) (.slice none 0 0)), Lib.hid (bA3 _ _ _ _)⟩
  case round =>
    obtain ⟨i, out, rfl, hi, HOv, HT, hol, HA, HBx, HC, HBel⟩ := hrel
    obtain ⟨l0, l1, m0, m1⟩ := HA.out.bx
    obtain ⟨p0, p1, q0, q1⟩ := HBx.out.bx
    obtain ⟨s0, s1, t0, t1⟩ := HC.out.bx
    by_cases hlt : i < (dgs y).length
    · obtain ⟨d, hd⟩ : ∃ d, (dgs y)[i]? = some d := ⟨(dgs y)[i], List.getElem?_eq_getElem hlt⟩
      obtain ⟨kb, ob, rfl⟩ := HRB.out.ptr (by omega)
      have hcd : wr.cell? ⟨kb, ob + i, none⟩ = some (.int .i64 (d : Nat)) := (HRB.out.on HBel.out).cell hd
      have hd10 := Dg_dgs y d (List.mem_of_getElem? hd)
      have HD : Hid (dat (dgs y) i = d) := Lib.hid (dat_is hd)
      have HCD := Lib.hid hd
      clear hd
      go_wp2
      go_loopw [5, 7] (fun ov kv wr => ∃ (k : Nat) (out : List Nat), kv = .int .i64 (k : Nat) ∧ k ≤ d ∧ Hid (Rw wr ov out) ∧ Hid (Tms (dgs x) (dgs y) out i k) ∧ out.length ≤ 2000 + 10 * i + k ∧ Hid (Lb wr w.heap.size (.bool na) (.slice ao an ac)) ∧ Hid (Lb wr (w.heap.size + 1) (.bool nb) (.slice (some ⟨kb, ob, none⟩) (dgs y).length bc)) ∧ Hid (Lb wr (w.heap.size + 1 + 1) (.bool false) (.slice none 0 0)) ∧ Hid (Below w.heap.size w wr)) (fun _ kv _ => d - (intOf kv).toNat)
      case atStart => exact ⟨0, out, rfl, by omega, HOv, HT, by omega, HA, HBx, HC, HBel⟩
      case round =>
        clear l0 l1 m0 m1 p0 p1 q0 q1 s0 s1 t0 t1 hcd HA HBx HC HBel HOv HT hol
        obtain ⟨k, out, rfl, hk, HOv, HT, hol, HA, HBx, HC, HBel⟩ := hrel
        obtain ⟨l0, l1, m0, m1⟩ := HA.out.bx
        obtain ⟨p0, p1, q0, q1⟩ := HBx.out.bx
        obtain ⟨s0, s1, t0, t1⟩ := HC.out.bx
        have hcd2 := (HRB.out.on HBel.out).cell HCD.out
        by_cases hkd : k < d
        · obtain ⟨oo, on, oc, rfl⟩ := HOv.out.sl
          go_wp2_with (first | (go_at_call 45; refine (hshift _ _ (by omega) HBel).mono ?_; rintro e w1 ⟨a1, n1, c1, rfl, HR1, b1⟩; have HB1 := Lib.hid b1; clear b1) | (go_at_call 48; refine (hsum _ _ out i _ (Lib.hid (HOv.out.on HB1.out)) (Lib.hid HT.out.1) (by omega) (by omega) HR1).mono ?_; rintro e w2 ⟨a2, n2, c2, l2, rfl, HR2, HDV, hl2, b2⟩; have HB2 := Lib.hid b2; clear b2))
          go_roundw
          case rel => exact ⟨k + 1, l2, by go_num, by omega, HR2, Lib.hid (HT.out.step HDV.out.1 (by rw [HDV.out.2, dv_dgs])), by omega, Lib.hid ((HA.out.on HB1.out).on HB2.out), Lib.hid ((HBx.out.on HB1.out).on HB2.out), Lib.hid ((HC.out.on HB1.out).on HB2.out), Lib.hid (bT (bT HBel.out HB1.out) HB2.out)⟩
          case measure => simp [intOf]; omega
        · obtain rfl : k = d := by omega
          have HT' : Hid (Tms (dgs x) (dgs y) out (i + 1) 0) := Lib.hid (by
            have h := HT.out
            rw [← HD.out] at h
            exact h.next)
          go_wp2
          go_roundw
          case rel => exact ⟨i + 1, out, by go_num, by omega, HOv, HT', by omega, HA, HBx, HC, HBel⟩
          case measure => simp [intOf]; omega
    · have HE : Hid (dv out = x * y) := Lib.hid (by rw [HT.out.fin (by omega), dv_dgs, dv_dgs])
      have htrim : ∀ w', Hid (Below wr.heap.size wr w') → Calls Tryz.prog 47 #[.agg #[.bool r, u5]] w' (LongIs r (x * y) w') := fun w' h => by
        rw [← HE.out]
        exact trim_any r u5 out w' (HOv.out.on h.out) HT.out.1 (by omega)
      obtain ⟨oo, on, oc, rfl⟩ := HOv.out.sl
      go_wp2_with (go_at_call 47; ((with_reducible refine (htrim _ (Lib.hid (Below.refl _ _))).mono ?_)); rintro e w1 ⟨v1, rfl, hr1, b1⟩; have HR1 := Lib.hid hr1; have HB1 := Lib.hid b1; have HX := Lib.hid (HC.out.on b1); obtain ⟨vo, vn, vc, rfl⟩ := hr1.sl; obtain ⟨z0, z1, z2, z3⟩ := (HC.out.on b1).bx; clear hr1 b1)
      obtain ⟨y0, y1, _, _⟩ := HX.out.bx.put (.bool (ng r (x * y))) (.slice vo vn vc)
      clear z0 z1 z2 z3
      simp [bodyPost, results, Tryz.results32, go_sem, y0, y1]
      exact LongIs.of rfl (HR1.out.box HX.out.bx) (((bT HBel.out HB1.out).setCell (by simp; omega) _).setCell (by simp; omega) _)
end Nm
end Go.Proofs.YtkbmaimocoljeaaGreatDoor
