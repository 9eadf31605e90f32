/- The document's Div. -/
import Derived.Test.YtkbmaimocoljeaaDoorNrFloor
namespace Go.Proofs.YtkbmaimocoljeaaDoor
open Go.RowKit
namespace Nm
set_option maxRecDepth 100000 in
theorem run_fieldV (b : Bool) (ao : Option Addr) (n c : Nat) (w : World) : (Instr.field 31 (.agg #[.bool b, .slice ao n c]) 1).run Tryd.prog w = .ok (.slice ao n c) w := by kernel_rfl
theorem shift_c (x k : Nat) (v : Value) (w : World) (h : Hid (Rw w v (dgs x))) (hl : (dgs x).length ≤ 1000) (hk : k ≤ 1000) :
    Calls Tryd.prog 26 #[.agg #[.bool false, v], .int .i64 (k : Int)] w fun e w' => ∃ a n c, e = .returned (.agg #[.bool false, .slice a n c]) ∧ n = (dgs (x * 10 ^ k)).length ∧ Hid (Rw w' (.slice a n c) (dgs (x * 10 ^ k))) ∧ Below w.heap.size w w' := by
  refine (refShift_any false v x k (k : Int) w h.out (by omega) (by omega) rfl).mono ?_
  rintro e w' ⟨v', rfl, h1, h2⟩
  obtain ⟨a, n, c, rfl⟩ := h1.sl
  exact ⟨a, n, c, rfl, h1.len, Lib.hid h1, h2⟩
theorem trim_c (v : Value) (l : List Nat) (n : Nat) (w : World) (h : Hid (Rw w v l)) (hd : Hid (Dg l)) (hl : l.length ≤ 1000) (hn : dv l = n) :
    Calls Tryd.prog 25 #[.agg #[.bool false, v]] w fun e w' => ∃ a m c, e = .returned (.agg #[.bool false, .slice a m c]) ∧ Hid (Rw w' (.slice a m c) (dgs n)) ∧ Below w.heap.size w w' := by
  subst hn
  refine (trim_any false v l w h.out hd.out (by omega)).mono ?_
  rintro e w' ⟨v', rfl, h1, h2⟩
  obtain ⟨a, m, c, rfl⟩ := h1.sl
  exact ⟨a, m, c, rfl, Lib.hid h1, h2⟩
theorem above_c (v1 v2 : Value) (x y : Nat) (b : Bool) (w : World) (h1 : Hid (Rw w v1 (dgs x))) (h2 : Hid (Rw w v2 (dgs y))) (l1 : (dgs x).length ≤ 1000) (l2 : (dgs y).length ≤ 1000) (hb : decide (y ≤ x) = b) :
    Calls Tryd.prog 41 #[v1, v2] w fun e w' => e = .returned (.bool b) ∧ ∃ n, w' = w.drewN n := by
  rw [← hb]
  exact above_any v1 v2 x y w h1.out h2.out (by omega) (by omega)
theorem less_c (v1 v2 : Value) (x y : Nat) (w : World) (h1 : Hid (Rw w v1 (dgs x))) (h2 : Hid (Rw w v2 (dgs y))) (l1 : (dgs x).length ≤ 900) (hle : y ≤ x) :
    Calls Tryd.prog 42 #[v1, v2] w fun e w' => ∃ a m c l, e = .returned (.slice a m c) ∧ Hid (Rw w' (.slice a m c) l) ∧ Hid (Dg l) ∧ l.length ≤ 1000 ∧ dv l = x - y ∧ Below w.heap.size w w' := by
  have hlen : (dgs y).length ≤ (dgs x).length := Decidable.byContradiction fun g => by
    have := dgs_longer (a := y) (b := x) (by omega)
    omega
  refine (less_any v1 v2 (dgs x) (dgs y) w h1.out h2.out (Dg_dgs _) (Dg_dgs _) (by omega) hlen (by rw [dv_dgs, dv_dgs]; omega)).mono ?_
  rintro e w' ⟨v, l, rfl, ⟨g1, g2, g3⟩, g4, g5⟩
  rw [dv_dgs, dv_dgs] at g2
  obtain ⟨a, m, c, rfl⟩ := g4.sl
  exact ⟨a, m, c, l, rfl, Lib.hid g4, Lib.hid g1, by omega, g2, g5⟩
theorem dgs_cons (d r : Nat) : dv (d :: dgs r) = d + 10 * r := by simp only [dv, dv_dgs]
theorem div_unique {n y k r : Nat} (h : r + k * y = n) (hr : r < y) : k = n / y ∧ r = n % y := by
  subst h
  rw [Nat.add_mul_div_right _ _ (by omega), Nat.add_mul_mod_self_right, Nat.div_eq_of_lt hr, Nat.mod_eq_of_lt hr]
  omega
theorem Rw.cons {w : World} {B : Nat} {v : Value} {d : Nat} {l : List Nat} (h : Ow B w v ([d] ++ l)) : Rw w v (d :: l) := Rw.of_own h
/-- the boxes of Div's loop -/
structure DvB (w : World) (wr : World) (k4 k6 k7 k9 : Nat) (p g : Bool) (vx vy vn : Value) : Prop where
  b4 : Bx wr k4 (.int .i64 0) (.int .i64 0)
  b6 : Lb wr k6 (.bool p) vx
  b7 : Lb wr k7 (.bool g) vy
  b9 : Lb wr k9 (.bool false) vn
  bel : Below w.heap.size w wr
theorem DvB.on {w a b : World} {k4 k6 k7 k9 : Nat} {p g : Bool} {vx vy vn : Value} (h : DvB w a k4 k6 k7 k9 p g vx vy vn) (k : Below a.heap.size a b) : DvB w b k4 k6 k7 k9 p g vx vy vn :=
  ⟨h.b4.on k, h.b6.on k, h.b7.on k, h.b9.on k, bT h.bel k⟩
theorem grow_below {a b : World} {o : Obj} {v : Value} (hv : ∀ q, v.ownBlock = some q → a.heap.size ≤ q) (hg : (a.alloc o).grownBy b v.ownBlock) : Below a.heap.size a b := (bA1 a o).grown hg (by simp) hv
set_option maxRecDepth 100000 in
set_option maxHeartbeats 4000000 in
theorem refDiv_any (ca sa cb sb : Int) (w : World) (ia : isB ca sa = true) (ib : isB cb sb = true) (hb0 : cb ≠ 0) :
    Calls Tryd.prog 17 #[.agg #[.int .i64 ca, .int .i64 sa], .agg #[.int .i64 cb, .int .i64 sb]] w fun e w' => e = .returned (ans (divO ca sa cb sb)) ∧ Below w.heap.size w w' := by
  have ha := isB_iff.1 ia
  have hb := isB_iff.1 ib
  obtain ⟨m, hm⟩ : ∃ m, mx sa sb = m := ⟨_, rfl⟩
  have hm9 : m ≤ 9 := by rw [← hm]; unfold mx; omega
  have bX := up_le (c := ca) (s := sa) hm9 (by omega) (by omega)
  have bY := up_le (c := cb) (s := sb) hm9 (by omega) (by omega)
  have hsame := div_same ca sa cb sb m _ _ ia ib hb0 hm rfl rfl
  obtain ⟨p, hp⟩ : ∃ p, decide (up ca sa m < 0) = p := ⟨_, rfl⟩
  obtain ⟨g, hg⟩ : ∃ g, decide (up cb sb m < 0) = g := ⟨_, rfl⟩
  have hline := line_c ca sa cb sb ia ib p g (by rw [hm]; exact hp) (by rw [hm]; exact hg)
  rw [hm] at hline
  rw [hp, hg] at hsame
  obtain ⟨x, hx⟩ : ∃ x, (up ca sa m).natAbs = x := ⟨_, rfl⟩
  obtain ⟨y, hy⟩ : ∃ y, (up cb sb m).natAbs = y := ⟨_, rfl⟩
  have hy0 : 0 < y := by
    rw [← hy, up_abs]
    exact Nat.mul_pos (by omega) (Nat.pow_pos (by decide))
  rw [hx, hy] at hsame hline
  have lx : (dgs x).length ≤ 24 := dgs_len.2 (by omega)
  have ly : (dgs y).length ≤ 24 := dgs_len.2 (by omega)
  obtain ⟨N, hN⟩ : ∃ N, x * 10 ^ 10 = N := ⟨_, rfl⟩
  rw [hN] at hsame
  have lN : (dgs N).length ≤ 34 := dgs_len.2 (by
    have := Nat.mul_lt_mul_of_pos_right (show x < 10 ^ 24 by omega) (show 0 < 10 ^ 10 by decide)
    rw [← Nat.pow_add] at this
    omega)
  have hsh : ∀ v w, Hid (Rw w v (dgs x)) → Calls Tryd.prog 26 #[.agg #[.bool false, v], .int .i64 10] w fun e w' => ∃ a n c, e = .returned (.agg #[.bool false, .slice a n c]) ∧ n = (dgs N).length ∧ Hid (Rw w' (.slice a n c) (dgs N)) ∧ Below w.heap.size w w' := fun v w h => by
    have h1 := shift_c x 10 v w h (by omega) (by decide)
    rw [hN] at h1
    exact h1
  have HSAME := Lib.hid hsame
  obtain ⟨r, hr⟩ : ∃ r, (p != g) = r := ⟨_, rfl⟩
  have hr2 : (!(p == g)) = r := by rw [← hr]; rfl
  rw [hr] at HSAME
  have hfld := fun ao n c w => run_fieldV false ao n c w
  have hcb : (cb == 0) = false := by simp; exact hb0
  obtain ⟨i0, hi, hz0, hz1, hz2⟩ := info_parts info_i
  have hny : 0 < (dgs y).length := dgs_ne (by omega)
  clear hsame hm hm9 bX bY hp hg hx hy hN ia ib ha hb hb0
  go_enter Tryd.func17, Tryd.ntmps17
  go_wp2_with (first | (go_at_call 40; refine (hline _).mono ?_; rintro e w1 ⟨a1, n1, c1, a2, n2, c2, rfl, HR1, HR2, b1⟩; have HX4 := Lib.hid (Bx.on (bxNew ((w.alloc (Obj.cells #[.int .i64 ca, .int .i64 sa] 23)).alloc (Obj.cells #[.int .i64 cb, .int .i64 sb] 23)) (.int .i64 0) (.int .i64 0) 23) b1); have HB1 := Lib.hid (bT (bA3 _ _ _ _) b1); have HQ1 := Lib.hid ((HR1.out.on (bA1 _ (Obj.cells #[.bool p, .slice a1 n1 c1] 31))).on (bA1 _ (Obj.cells #[.bool g, .slice a2 n2 c2] 31))); have HN2 := Lib.hid HR2.out.len; clear b1) | (go_at_call 26; refine (hsh _ _ HQ1).mono ?_; rintro e w2 ⟨a3, n3, c3, rfl, hn3, HR3, b2⟩; have HB2 := Lib.hid b2; have HN3 := Lib.hid hn3; have hn3b : n3 ≤ 34 := (by rw [hn3]; exact lN); clear b2 hn3))
  have HBX0 : Hid (DvB w (w2.alloc (Obj.cells #[.bool false, .slice a3 n3 c3] 31)) (w.heap.size + 1 + 1) w1.heap.size (w1.heap.size + 1) w2.heap.size p g (.slice a1 n1 c1) (.slice a2 n2 c2) (.slice a3 n3 c3)) := Lib.hid (by
    have k := HB2.out
    have b4 := Bx.alloc (Bx.on (Bx.alloc (Bx.alloc HX4.out (Obj.cells #[.bool p, .slice a1 n1 c1] 31)) (Obj.cells #[.bool g, .slice a2 n2 c2] 31)) k) (Obj.cells #[.bool false, .slice a3 n3 c3] 31)
    have b6 := (((Lb.new w1 (.bool p) (.slice a1 n1 c1)).alloc (Obj.cells #[.bool g, .slice a2 n2 c2] 31)).on k).alloc (Obj.cells #[.bool false, .slice a3 n3 c3] 31)
    have b7 := ((Lb.new (w1.alloc (Obj.cells #[.bool p, .slice a1 n1 c1] 31)) (.bool g) (.slice a2 n2 c2)).on k).alloc (Obj.cells #[.bool false, .slice a3 n3 c3] 31)
    have b9 := Lb.new w2 (.bool false) (.slice a3 n3 c3)
    exact ⟨by simpa using b4, b6, by simpa using b7, b9, (bT ((HB1.out.alloc HB1.out.size _).alloc (Nat.le_trans HB1.out.size (by simp)) _) k).alloc (Nat.le_trans (Nat.le_trans HB1.out.size (by simp; omega)) k.size) _⟩)
  have HRY0 : Hid (Rw (w2.alloc (Obj.cells #[.bool false, .slice a3 n3 c3] 31)) (.slice a2 n2 c2) (dgs y)) := Lib.hid ((((HR2.out.on (bA1 _ _)).on (bA1 _ _)).on HB2.out).on (bA1 _ _))
  have HRN0 : Hid (Rw (w2.alloc (Obj.cells #[.bool false, .slice a3 n3 c3] 31)) (.slice a3 n3 c3) (dgs N)) := Lib.hid (HR3.out.on (bA1 _ _))
  have hny2 : 0 < n2 := by rw [HN2.out]; exact hny
  have HWS := Lib.hid (show w.heap.size ≤ w1.heap.size from HB1.out.size)
  have HWT := Lib.hid (show w1.heap.size + 2 ≤ w2.heap.size by have := HB2.out.size; simpa using this)
  clear HX4 HB1 HQ1 HR1 HR2 HR3 HB2
  go_loopw [10, 11, 12] (fun qv rv iv wr => ∃ (j q : Nat) (ql : List Nat), iv = .int .i64 ((j : Int) - 1) ∧ j ≤ n3 ∧ Hid (Rw wr qv ql) ∧ Hid (Rw wr rv (dgs q)) ∧ q < y ∧ Hid (Dv (dgs N) y ql q j) ∧ Hid (Rw wr (.slice a2 n2 c2) (dgs y)) ∧ Hid (Rw wr (.slice a3 n3 c3) (dgs N)) ∧ Hid (DvB w wr (w.heap.size + 1 + 1) w1.heap.size (w1.heap.size + 1) w2.heap.size p g (.slice a1 n1 c1) (.slice a2 n2 c2) (.slice a3 n3 c3))) (fun _ _ iv _ => (intOf iv + 1).toNat)
  case atStart => exact ⟨n3, 0, [], rfl, Nat.le_refl _, Lib.hid (Rw.nil _), Lib.hid (by rw [dgs_zero]; exact Rw.nil _), hy0, Lib.hid (by rw [HN3.out]; exact Dv.zero hy0), HRY0, HRN0, HBX0⟩
  case round =>
    clear HBX0 HRY0 HRN0 hsh hline
    obtain ⟨j, q, ql, rfl, hj, HQ, HRst, hqy, HDv, HRY, HRN, HBX⟩ := hrel
    obtain ⟨qo, qn, qc, rfl⟩ := HQ.out.sl
    obtain ⟨ro, rn, rc, rfl⟩ := HRst.out.sl
    have hql : ql.length ≤ 34 := by have := HDv.out.2.1; omega
    have h4 := HBX.out.b4
    obtain ⟨f0, f1, f2, f3⟩ := h4
    obtain ⟨s0, s1, s2, s3⟩ := HBX.out.b6.bx
    obtain ⟨t0, t1, t2, t3⟩ := HBX.out.b7.bx
    obtain ⟨z0, z1, z2, z3⟩ := HBX.out.b9.bx
    by_cases j0 : j = 0
    · subst j0
      have hfin := HDv.out.fin
      rw [dv_dgs] at hfin
      have hbel := HBX.out.bel
      by_cases hq0 : q = 0
      · have hrn : rn = 0 := by have := HRst.out.len; rw [hq0, dgs_zero] at this; exact this
        subst hrn
        have E := Lib.hid (HSAME.out.2 (by rw [← hfin.2]; exact hq0))
        rw [← hfin.1] at E
        have htold : ∀ w', Hid (Below wr.heap.size wr w') → Calls Tryd.prog 43 #[.agg #[.bool r, .slice qo qn qc], .int .i64 10] w' fun e w'' => e = .returned (ans (divO ca sa cb sb)) ∧ Below w'.heap.size w' w'' := fun w' h => by
          rw [← E.out]
          exact told_any r (.slice qo qn qc) ql 10 (sg r (dv ql)) 10 w' (HQ.out.on h.out) HDv.out.1 (by omega) (by omega) rfl rfl
        clear hfin hq0 E hqy
        rcases ans_split (divO ca sa cb sb) with ⟨xx, yy, _, _, e2⟩ | ⟨_, e2⟩
        · rw [e2] at htold
          have HE2 := Lib.hid e2
          clear e2
          go_wp2_with (go_at_call 43; refine (htold _ (Lib.hid (Below.refl _ _))).mono ?_; rintro e wt ⟨rfl, bt⟩; have HBT := Lib.hid (HBX.out.on bt); obtain ⟨y0, y1, y2, y3⟩ := HBT.out.b4)
          obtain ⟨x0, x1, _, _⟩ := HBT.out.b4.put (.int .i64 xx) (.int .i64 (yy : Int))
          clear y0 y1
          simp [bodyPost, results, Tryd.results17, go_sem, x0, x1]
          exact ⟨by rw [HE2.out], (HBT.out.bel.setCell (by simp; omega) _).setCell (by simp; omega) _⟩
        · rw [e2] at htold
          have HE2 := Lib.hid e2
          clear e2
          go_wp2_with (go_at_call 43; refine (htold _ (Lib.hid (Below.refl _ _))).mono ?_; rintro e wt ⟨rfl, bt⟩; have HBT := Lib.hid (HBX.out.on bt); obtain ⟨y0, y1, y2, y3⟩ := HBT.out.b4)
          obtain ⟨x0, x1, _, _⟩ := HBT.out.b4.put (.int .i64 0) (.int .i64 0)
          clear y0 y1
          simp [bodyPost, results, Tryd.results17, go_sem, x0, x1]
          exact ⟨by rw [HE2.out], (HBT.out.bel.setCell (by simp; omega) _).setCell (by simp; omega) _⟩
      · have hrn : 0 < rn := by rw [HRst.out.len]; exact dgs_ne hq0
        have HE2 := Lib.hid (HSAME.out.1 (by rw [← hfin.2]; exact hq0))
        clear hfin hq0 hqy
        go_wp2
        obtain ⟨x0, x1, _, _⟩ := HBX.out.b4.put (.int .i64 0) (.int .i64 0)
        clear f0 f1
        simp [bodyPost, results, Tryd.results17, go_sem, x0, x1]
        exact ⟨by rw [HE2.out]; rfl, (hbel.setCell (by simp; omega) _).setCell (by simp; omega) _⟩
    · obtain ⟨i, rfl⟩ : ∃ i, j = i + 1 := ⟨j - 1, by omega⟩
      have em : ((i + 1 : Nat) : Int) - 1 = (i : Int) := by omega
      rw [em]
      clear em
      have hil : i < (dgs N).length := by have := HN3.out; omega
      obtain ⟨d, hd⟩ : ∃ d, (dgs N)[i]? = some d := ⟨(dgs N)[i], List.getElem?_eq_getElem hil⟩
      obtain ⟨kn, on, rfl⟩ := HRN.out.ptr (by omega)
      have hcd : wr.cell? ⟨kn, on + i, none⟩ = some (.int .i64 (d : Nat)) := HRN.out.cell hd
      have hd10 := Dg_dgs N d (List.mem_of_getElem? hd)
      have HD := Lib.hid hd
      have hin : i < n3 := by omega
      have lq : (dgs q).length ≤ 24 := dgs_len.2 (by have := dgs_len.1 ly; omega)
      clear hd hil
      go_wp2_with (at_builtin; refine wpList_append_own _ rfl _ _ 29 rfl wr.heap.size 3 i0 (.int .i64 0) 1 8 Tryd.underlying29 hi hz0 hz1 hz2 rfl (by decide) _ _ _ rfl (World.ownsRow_nil _ _ _ _) ⟨wr.heap.size, 0, none⟩ 1 1 [.int .i64 (d : Int)] rfl rfl (cells_new _ _ _) (one_int _) ?c3 ?c4 ?c5 ?c6)
      case c3 => unfold maxLen; omega
      case c4 => omega
      case c5 => simp
      case c6 =>
        intro v1 wa hown1 hgrow1 _
        have HO1 : Hid (Ow wr.heap.size wa v1 ([] ++ [d])) := Lib.hid (Ow.push (l := []) rfl hown1)
        have HK1 : Hid (Below wr.heap.size wr wa) := Lib.hid (grow_below (fun q h => by simp [Value.ownBlock] at h) hgrow1)
        have HRst1 := Lib.hid (HRst.out.on HK1.out)
        clear hown1 hgrow1
        go_wp2_with (at_builtin; refine app_row rfl _ _ rfl rfl HO1.out rfl HRst1.out ?d1 ?d2 ?d3)
        case d1 => simp; omega
        case d2 => exact HK1.out.size
        case d3 =>
          intro v2 wb hown2 hgrow2
          have HK2 : Hid (Below wr.heap.size wr wb) := Lib.hid (HO1.out.bel0 HK1.out hgrow2)
          have HRx : Hid (Rw wb v2 (d :: dgs q)) := Lib.hid (Rw.of_own hown2)
          have HBX2 := Lib.hid (HBX.out.on HK2.out)
          have HRY2 := Lib.hid (HRY.out.on HK2.out)
          obtain ⟨xo, xn, xc, rfl⟩ := HRx.out.sl
          clear hown2 hgrow2 f0 f1 f2 f3 s0 s1 s2 s3 t0 t1 t2 t3 z0 z1 z2 z3 hcd
          have h4 := HBX2.out.b4
          obtain ⟨f0, f1, f2, f3⟩ := h4
          obtain ⟨s0, s1, s2, s3⟩ := HBX2.out.b6.bx
          obtain ⟨t0, t1, t2, t3⟩ := HBX2.out.b7.bx
          obtain ⟨z0, z1, z2, z3⟩ := HBX2.out.b9.bx
          go_wp2_with (go_at_call 25; refine (trim_c _ (d :: dgs q) (d + 10 * q) _ HRx (Lib.hid (fun e he => (List.mem_cons.1 he).elim (fun h => by rw [h]; exact hd10) (Dg_dgs q e))) (by rw [List.length_cons]; omega) (dgs_cons d q)).mono ?_; rintro e wc ⟨ao4, n4, c4, rfl, HR4, bc⟩; have HK3 := Lib.hid (bT HK2.out bc); clear bc)
          have HBX3 := Lib.hid (HBX.out.on HK3.out)
          have HRY3 := Lib.hid (HRY.out.on HK3.out)
          have HQ3 := Lib.hid (HQ.out.on HK3.out)
          have HRN3 := Lib.hid (HRN.out.on HK3.out)
          go_loopw [11, 14] (fun rv kv wx => ∃ (k u : Nat), kv = .int .i64 (k : Nat) ∧ Hid (u + k * y = d + 10 * q) ∧ k ≤ 9 ∧ Hid (Rw wx rv (dgs u)) ∧ Hid (Rw wx (.slice a2 n2 c2) (dgs y)) ∧ Hid (Below wr.heap.size wr wx)) (fun _ kv _ => 10 - (intOf kv).toNat)
          case atStart => exact ⟨0, d + 10 * q, rfl, Lib.hid (by omega), by omega, HR4, HRY3, HK3⟩
          case round =>
            clear f0 f1 f2 f3 s0 s1 s2 s3 t0 t1 t2 t3 z0 z1 z2 z3 HR4 HRx
            obtain ⟨k, u, rfl, HU, hk9, HRu, HRYx, HKx⟩ := hrel
            obtain ⟨uo, un, uc, rfl⟩ := HRu.out.sl
            have HBXx := Lib.hid (HBX.out.on HKx.out)
            have hu : u < 10 * y := by have := HU.out; omega
            have lu : (dgs u).length ≤ 25 := dgs_len.2 (by have := dgs_len.1 ly; omega)
            have h4 := HBXx.out.b4
            obtain ⟨f0, f1, f2, f3⟩ := h4
            obtain ⟨s0, s1, s2, s3⟩ := HBXx.out.b6.bx
            obtain ⟨t0, t1, t2, t3⟩ := HBXx.out.b7.bx
            obtain ⟨z0, z1, z2, z3⟩ := HBXx.out.b9.bx
            by_cases hle : y ≤ u
            · have hk10 : k + 1 ≤ 9 := by
                have h1 := HU.out
                refine Decidable.byContradiction fun g => ?_
                have := Nat.mul_le_mul_right y (show 9 ≤ k by omega)
                omega
              go_wp2_with (first | (go_at_call 41; refine (above_c _ _ u y true _ HRu HRYx (by omega) (by omega) (decide_eq_true hle)).mono ?_; rintro e w5 ⟨rfl, nd, rfl⟩; have HRu5 : Hid (Rw (wr.drewN nd) _ (dgs u)) := Lib.hid (HRu.out.on (bN (Below.refl _ _) nd)); have HRY5 : Hid (Rw (wr.drewN nd) _ (dgs y)) := Lib.hid (HRYx.out.on (bN (Below.refl _ _) nd))) | (go_at_call 42; refine (less_c _ _ u y _ HRu5 HRY5 (by omega) hle).mono ?_; rintro e w6 ⟨a6, n6, c6, l6, rfl, HR6, HD6, hl6, hdv6, b6⟩; have HB6 := Lib.hid b6; have HV6 := Lib.hid hdv6; clear b6 hdv6) | (go_at_call 25; refine (trim_c _ l6 (u - y) _ HR6 HD6 (by omega) HV6.out).mono ?_; rintro e w7 ⟨a7, n7, c7, rfl, HR7, b7⟩; have HB7 := Lib.hid b7; clear b7))
              have HK7 := Lib.hid (bT (bT (bN HKx.out nd) HB6.out) HB7.out)
              go_roundw
              case rel => exact ⟨k + 1, u - y, by go_num, Lib.hid (by have := HU.out; rw [Nat.add_mul]; omega), by omega, HR7, Lib.hid ((HRY.out.on HK7.out)), HK7⟩
              case measure => simp [intOf]; omega
            · have HKU := Lib.hid (div_unique HU.out (by omega))
              go_wp2_with (first | (go_at_call 41; refine (above_c _ _ u y false _ HRu HRYx (by omega) (by omega) (decide_eq_false hle)).mono ?_; rintro e w5 ⟨rfl, nd, rfl⟩; have HRu5 : Hid (Rw (wr.drewN nd) _ (dgs u)) := Lib.hid (HRu.out.on (bN (Below.refl _ _) nd)); have HK5 := Lib.hid (bN HKx.out nd)) | (at_builtin; refine wpList_append_own _ rfl _ _ 29 rfl wr.heap.size 3 i0 (.int .i64 0) 1 8 Tryd.underlying29 hi hz0 hz1 hz2 rfl (by decide) _ _ _ rfl (World.ownsRow_nil _ _ _ _) ⟨wr.heap.size, 0, none⟩ 1 1 [.int .i64 (k : Int)] rfl rfl (cells_new (wr.drewN nd) _ _) (one_int _) ?e3 ?e4 ?e5 ?e6))
              case e3 => unfold maxLen; omega
              case e4 => omega
              case e5 => simp
              case e6 =>
                intro v8 w8 hown8 hgrow8 _
                have HO8 : Hid (Ow wr.heap.size w8 v8 ([] ++ [k])) := Lib.hid (Ow.push (l := []) rfl hown8)
                have HK8 : Hid (Below (wr.drewN nd).heap.size (wr.drewN nd) w8) := Lib.hid (grow_below (a := wr.drewN nd) (fun q h => by simp [Value.ownBlock] at h) hgrow8)
                have HKQ := Lib.hid (bT HK5.out HK8.out)
                have HQ8 := Lib.hid (HQ.out.on HKQ.out)
                clear hown8 hgrow8
                go_wp2_with (at_builtin; refine app_row rfl _ _ rfl rfl HO8.out rfl HQ8.out ?g1 ?g2 ?g3)
                case g1 => simp; omega
                case g2 => exact HK8.out.size
                case g3 =>
                  intro v9 w9 hown9 hgrow9
                  have HK9 : Hid (Below (wr.drewN nd).heap.size (wr.drewN nd) w9) := Lib.hid (HO8.out.bel0 (w := wr.drewN nd) HK8.out hgrow9)
                  have HR9 : Hid (Rw w9 v9 (k :: ql)) := Lib.hid (Rw.of_own hown9)
                  have HKZ := Lib.hid (bT HK5.out HK9.out)
                  have HU9 := Lib.hid (HRu5.out.on HK9.out)
                  have HDv' : Hid (Dv (dgs N) y (k :: ql) u i) := Lib.hid (by
                    have h := HDv.out.step (Dg_dgs N) HD.out
                    rw [HKU.out.1, HKU.out.2]
                    exact h)
                  clear hown9 hgrow9
                  go_wp2
                  go_roundw
                  case rel => exact ⟨i, u, k :: ql, by go_num, by omega, HR9, HU9, by omega, HDv', Lib.hid (HRY.out.on HKZ.out), Lib.hid (HRN.out.on HKZ.out), Lib.hid (HBX.out.on HKZ.out)⟩
                  case measure => simp [intOf]
end Nm
end Go.Proofs.YtkbmaimocoljeaaDoor
