/- Whole numbers without bound: Num at a scale below 0. -/
import Derived.Test.YtpddkchnogfjkaaGreatDoorNrNum
namespace Go.Proofs.YtpddkchnogfjkaaGreatDoor
open Go.RowKit
namespace Nm
set_option maxRecDepth 100000 in
set_option maxHeartbeats 8000000 in
theorem num_neg (b : Bool) (v : Value) (l : List Nat) (e10 : Nat) (z : Int) (w : World) (hr : Rw w v l) (hd : Dg l) (hl : l.length ≤ 1000000) (he0 : 0 < e10) (he1 : e10 ≤ 1000) (hz : z = sg b (dv l * 10 ^ e10)) (hN0 : dv l ≠ 0) :
    Calls Tryz.prog 27 #[.agg #[.bool b, v], .int .i64 (-(e10 : Int))] w fun e w' => e = .returned (numA (hold z 0)) ∧ Below w.heap.size w w' := by
  obtain ⟨N, hN⟩ : ∃ N, dv l = N := ⟨_, rfl⟩
  rw [hN] at hz hN0
  obtain ⟨c, hc⟩ : ∃ c, N * 10 ^ e10 = c := ⟨_, rfl⟩
  rw [hc] at hz
  have hc0 : c ≠ 0 := by
    rw [← hc]
    exact Nat.mul_ne_zero hN0 (by have := Nat.pow_pos (n := e10) (show 0 < 10 by decide); omega)
  have hzN : z.natAbs = c := by rw [hz, abs_sg]
  obtain ⟨g1, hg1⟩ : ∃ g, ng b N = g := ⟨_, rfl⟩
  obtain ⟨g, hg⟩ : ∃ g, ng g1 c = g := ⟨_, rfl⟩
  have HG : Hid (g = decide (z < 0)) := Lib.hid (by
    rw [← hg, ng_pos hc0, ← hg1, ng_pos hN0, hz, ← ng_sg, ng_pos hc0])
  have hlN : (dgs N).length ≤ 1000000 := by
    refine Nat.le_trans (dgs_len.2 ?_) hl
    rw [← hN]; exact dv_lt hd
  have htrim : ∀ w', Hid (Below w.heap.size w w') → Calls Tryz.prog 26 #[.agg #[.bool b, v]] w' (fun e w'' => ∃ ao n cap, e = .returned (.agg #[.bool g1, .slice ao n cap]) ∧ Hid (n = (dgs N).length) ∧ Hid (Rw w'' (.slice ao n cap) (dgs N)) ∧ Below w'.heap.size w' w'') := fun w' h => by
    refine (trim_any b v l w' (hr.on h.out) hd (by omega)).mono ?_
    rintro e w'' ⟨v', rfl, h1, h2⟩
    rw [hN] at h1 ⊢
    rw [hg1]
    obtain ⟨ao, n, cap, rfl⟩ := h1.sl
    exact ⟨ao, n, cap, rfl, Lib.hid h1.len, Lib.hid h1, h2⟩
  have hshift : ∀ v' w', Hid (Rw w' v' (dgs N)) → Calls Tryz.prog 40 #[.agg #[.bool g1, v'], .int .i64 (e10 : Int)] w' (fun e w'' => ∃ ao n cap, e = .returned (.agg #[.bool g, .slice ao n cap]) ∧ Hid (Rw w'' (.slice ao n cap) (dgs c)) ∧ Below w'.heap.size w' w'') := fun v' w' h => by
    refine (refShift_any g1 v' N e10 (e10 : Int) w' h.out (by omega) (by omega) rfl).mono ?_
    rintro e w'' ⟨v2, rfl, h1, h2⟩
    rw [hc] at h1 ⊢
    rw [hg]
    obtain ⟨ao, n, cap, rfl⟩ := h1.sl
    exact ⟨ao, n, cap, rfl, Lib.hid h1, h2⟩
  have HA := Lib.hid (hold_is (z := z) (s := 0) (t := 0) (c := c) (by rw [hzN]) (Or.inl rfl))
  have HN0 := Lib.hid hN0
  have hsl := hr.sl
  obtain ⟨vo, vn, vc, rfl⟩ := hsl
  clear hr hd hl hz hzN hg hN hg1 hc hlN hN0
  go_enter Tryz.func27, Tryz.ntmps27
  go_wp2_with (go_at_call 26; refine (htrim _ (Lib.hid (bA2 _ _ _))).mono ?_; rintro e w1 ⟨ao1, n1, c1, rfl, HN1, HR1, b1⟩; have HB1 := Lib.hid b1; obtain ⟨e0, e1, f0, f1⟩ := boxed b1 w.heap.size (.bool b) (.slice vo vn vc) (by simp [go_sem]) (by simp [go_sem]) (by simp [go_sem]) (by simp [go_sem]); clear b1)
  have HL0 : Hid (Lb w1 w.heap.size (.bool b) (.slice vo vn vc)) := Lib.hid (((Lb.new w _ _).alloc _).on HB1.out)
  have HX0 : Hid (Bx w1 (w.heap.size + 1) (.int .i64 0) (.int .i64 0)) := Lib.hid (Bx.on ⟨by simp [go_sem], by simp [go_sem], by simp [go_sem], by simp [go_sem]⟩ HB1.out)
  have HB0 : Hid (Below w.heap.size w w1) := Lib.hid (bT (bA2 _ _ _) HB1.out)
  obtain ⟨w2, hw2⟩ : ∃ x, (w1.setCell ⟨w.heap.size, 0, none⟩ (.bool g1)).setCell ⟨w.heap.size, 1, none⟩ (.slice ao1 n1 c1) = x := ⟨_, rfl⟩
  have HR0 : Hid (Rw w2 (.slice ao1 n1 c1) (dgs N)) := Lib.hid (by rw [← hw2]; exact HR1.out.box HL0.out.bx)
  have HL1 : Hid (Lb w2 w.heap.size (.bool g1) (.slice ao1 n1 c1)) := Lib.hid (by rw [← hw2]; exact (HL0.out.set0 _).set1 _)
  have HX1 : Hid (Bx w2 (w.heap.size + 1) (.int .i64 0) (.int .i64 0)) := Lib.hid (by rw [← hw2]; exact (HX0.out.far (by simp) _).far (by simp) _)
  have HBB : Hid (Below w.heap.size w w2) := Lib.hid (by rw [← hw2]; exact (HB0.out.setCell (by simp) _).setCell (by simp) _)
  rw [hw2]
  clear e0 e1 f0 f1 HB1 HR1 HL0 HX0 HB0 hw2 htrim
  go_loop [1] (fun sc => sc = .int .i64 (-(e10 : Int))) (fun _ => 0)
  case atStart => rfl
  case round =>
    subst hrel
    obtain ⟨l0, l1, m0, m1⟩ := HL1.out.bx
    have hn10 : 0 < n1 := by rw [HN1.out]; exact dgs_ne HN0.out
    have hn11 : ((n1 : Int) == 0) = false := by simp; omega
    go_upto_region 10 with (go_at_call 40; refine (hshift _ _ HR0).mono ?_; rintro e w3 ⟨ao3, n, cap, rfl, HR3, b3⟩; have HB3 := Lib.hid (bT HBB.out b3); have HL3 := Lib.hid (HL1.out.on b3); have HX3 := Lib.hid (HX1.out.on b3); obtain ⟨l0', l1', m0', m1'⟩ := (HL1.out.on b3).bx; clear b3)
    obtain ⟨k, o, rfl⟩ := HR3.out.ptr (dgs_ne hc0)
    obtain ⟨wr, hwr⟩ : ∃ x, (w3.setCell ⟨w.heap.size, 0, none⟩ (.bool g)).setCell ⟨w.heap.size, 1, none⟩ (.slice (some ⟨k, o, none⟩) n cap) = x := ⟨_, rfl⟩
    have HRw : Hid (Rw wr (.slice (some ⟨k, o, none⟩) n cap) (dgs c)) := Lib.hid (by rw [← hwr]; exact HR3.out.box HL3.out.bx)
    have HL : Hid (Lb wr w.heap.size (.bool g) (.slice (some ⟨k, o, none⟩) n cap)) := Lib.hid (by rw [← hwr]; exact (HL3.out.set0 _).set1 _)
    have HR : Hid (Bx wr (w.heap.size + 1) (.int .i64 0) (.int .i64 0)) := Lib.hid (by rw [← hwr]; exact (HX3.out.far (by simp) _).far (by simp) _)
    have HBel : Hid (Below w.heap.size w wr) := Lib.hid (by rw [← hwr]; exact (HB3.out.setCell (by simp) _).setCell (by simp) _)
    rw [hwr]
    clear l0 l1 m0 m1 l0' l1' m0' m1' hwr HB3 HL3 HX3 HR3 HBB HX1 HL1 HR0 hshift hn11
    have hn1 : 0 < n := by have := HRw.out.len; have := dgs_ne hc0; omega
    have hnl : n = (dgs c).length := HRw.out.len
    have hnc : n ≤ cap := HRw.out.cap
    have hkl : k < wr.heap.size := HRw.out.lt
    have HN := Lib.hid hnl
    by_cases g1 : 15 < n
    · have E : Hid (hold z 0 = none) := Lib.hid (by
        rw [HA.out, if_pos (Or.inr ?_)]
        refine Decidable.byContradiction fun g => ?_
        have := dgs_len.2 (show c < 10 ^ 15 by omega)
        omega)
      clear HA hnl
      obtain ⟨l0, l1, m0, m1⟩ := HL.out.bx
      obtain ⟨r0, r1, s0, s1⟩ := HR.out
      go_wp2
      obtain ⟨z0, z1, _, _⟩ := HR.out.put (.int .i64 0) (.int .i64 0)
      simp [bodyPost, results, Tryz.results27, go_sem, z0, z1]
      exact ⟨by rw [E.out]; rfl, (HBel.out.setCell (by simp) _).setCell (by simp) _⟩
    have hc15 : c < 1000000000000000 := dgs_len.1 (show (dgs c).length ≤ 15 by omega)
    clear hnl
    obtain ⟨l0, l1, m0, m1⟩ := HL.out.bx
    obtain ⟨r0, r1, s0, s1⟩ := HR.out
    have hdv := fun i => dv_drop_le (dgs c) i
    rw [dv_dgs] at hdv
    have HDV := Lib.hid hdv
    clear hdv
    go_wp2
    go_loop [6, 7] (fun cc i => ∃ (j e : Nat), i = .int .i64 ((j : Int) - 1) ∧ j ≤ n ∧ cc = .int .i64 (e : Nat) ∧ e ≤ c ∧ Hid (e = dv ((dgs c).drop j))) (fun _ i => (intOf i + 1).toNat)
    case atStart => exact ⟨n, 0, rfl, Nat.le_refl _, rfl, by omega, Lib.hid (by rw [List.drop_eq_nil_of_le (by have := HN.out; omega)]; rfl)⟩
    case round =>
      obtain ⟨j, e, rfl, hj, rfl, hec, HE⟩ := hrel
      by_cases j0 : j = 0
      · subst j0
        have HE2 : Hid (e = c) := Lib.hid (by rw [HE.out, List.drop_zero, dv_dgs])
        by_cases hz : z < 0
        · have E : Hid (hold z 0 = some (-(e : Int), 0)) := Lib.hid (by rw [HA.out, if_neg (by omega), if_pos hz, HE2.out])
          have hgg := HG.out.trans (decide_eq_true hz)
          clear HE HE2 HA
          subst hgg
          go_wp2
          obtain ⟨z0, z1, _, _⟩ := HR.out.put (.int .i64 (-(e : Int))) (.int .i64 0)
          simp [bodyPost, results, Tryz.results27, go_sem, z0, z1]
          exact ⟨by rw [E.out]; rfl, (HBel.out.setCell (by simp) _).setCell (by simp) _⟩
        · have E : Hid (hold z 0 = some ((e : Int), 0)) := Lib.hid (by rw [HA.out, if_neg (by omega), if_neg hz, HE2.out])
          have hgg := HG.out.trans (decide_eq_false hz)
          clear HE HE2 HA
          subst hgg
          go_wp2
          obtain ⟨z0, z1, _, _⟩ := HR.out.put (.int .i64 (e : Int)) (.int .i64 0)
          simp [bodyPost, results, Tryz.results27, go_sem, z0, z1]
          exact ⟨by rw [E.out]; rfl, (HBel.out.setCell (by simp) _).setCell (by simp) _⟩
      · obtain ⟨m, rfl⟩ : ∃ m, j = m + 1 := ⟨j - 1, by omega⟩
        have hml : m < (dgs c).length := by have := HN.out; omega
        obtain ⟨d, hd⟩ : ∃ d, (dgs c)[m]? = some d := ⟨(dgs c)[m], List.getElem?_eq_getElem hml⟩
        have hcl : wr.cell? ⟨k, o + m, none⟩ = some (.int .i64 (d : Nat)) := HRw.out.cell hd
        have hd10 := Dg_dgs c d (List.mem_of_getElem? hd)
        have HE' : Hid (10 * e + d = dv ((dgs c).drop m)) := Lib.hid (by
          obtain ⟨h1, h2⟩ := List.getElem?_eq_some_iff.1 hd
          rw [dv_drop h1, h2, ← HE.out]; omega)
        have hle : 10 * e + d ≤ c := by rw [HE'.out]; exact HDV.out m
        clear HE hd hml
        have em : ((m + 1 : Nat) : Int) - 1 = (m : Int) := by omega
        rw [em]
        clear em
        go_wp2
        go_round
        case rel => exact ⟨m, 10 * e + d, by go_num, by omega, by go_num, hle, HE'⟩
        case measure => simp [intOf]
end Nm
end Go.Proofs.YtpddkchnogfjkaaGreatDoor
