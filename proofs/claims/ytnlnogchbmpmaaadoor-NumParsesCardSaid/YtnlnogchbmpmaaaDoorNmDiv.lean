/- Div, of any two numbers. -/
import Derived.Test.YtnlnogchbmpmaaaDoorNmArith
namespace Go.Proofs.YtnlnogchbmpmaaaDoor
open Go.RowKit
namespace Nm
theorem bxNew (a : World) (x y : Value) (t : TypeId) : Bx (a.alloc (.cells #[x, y] t)) a.heap.size x y := ⟨by simp [go_sem], by simp [go_sem], by simp [go_sem], by simp [go_sem]⟩
theorem bxNewD (a : World) (x y : Value) (t : TypeId) : Bx (a.alloc (.cells #[x, y] t)).drew a.heap.size x y := bxNew a x y t
theorem Sv.lt {B : Nat} {o a : World} {fx : List (Nat × Value × Value)} {op : List Nat} (h : Sv B o fx op a) {k : Nat} (hk : k ∈ op) : k < a.heap.size := by
  obtain ⟨_, _, g⟩ := h.2.2 k hk
  exact kl g.1
theorem Sv.ne {B : Nat} {o a : World} {fx : List (Nat × Value × Value)} {op : List Nat} (h : Sv B o fx op a) : ∀ t ∈ fx, a.heap.size ≠ t.1 := fun t ht => Nat.ne_of_gt (kl (h.2.1 t ht).1)
theorem Sv.new {B : Nat} {o a b : World} {fx : List (Nat × Value × Value)} {op : List Nat} (h : Sv B o fx op a) (h0 : Sv B o fx op b) (hB : B ≤ o.heap.size) (u v : Value) : Sv B o fx op ((a.setCell ⟨b.heap.size, 0, none⟩ u).setCell ⟨b.heap.size, 1, none⟩ v) :=
  (h.set0 (Nat.le_trans hB h0.1.size) h0.ne u).set1 (Nat.le_trans hB h0.1.size) h0.ne v
theorem div_sign {X cb : Int} (hc : cb ≠ 0) (hd : X % cb = 0) : (X.natAbs : Int) / (cb.natAbs : Int) = ((X / cb).natAbs : Int) ∧ ((decide (X < 0) != decide (cb < 0)) = true → X / cb ≤ 0) ∧ ((decide (X < 0) != decide (cb < 0)) = false → 0 ≤ X / cb) := by
  have e := Int.mul_ediv_add_emod X cb
  rw [hd, Int.add_zero] at e
  generalize X / cb = k at *
  subst e
  refine ⟨?_, ?_, ?_⟩
  · rw [Int.natAbs_mul, Int.natCast_mul, Int.mul_ediv_cancel_left _ (by omega)]
  · intro h
    rcases Int.lt_or_le 0 k with g | g
    · exfalso
      rcases Int.lt_or_le cb 0 with g2 | g2
      · have := Int.mul_neg_of_neg_of_pos g2 g
        simp [this, g2] at h
      · have := Int.mul_pos (show 0 < cb by omega) g
        have h1 : ¬ cb * k < 0 := by omega
        have h2 : ¬ cb < 0 := by omega
        simp [h1, h2] at h
    · exact g
  · intro h
    rcases Int.lt_or_le k 0 with g | g
    · exfalso
      rcases Int.lt_or_le cb 0 with g2 | g2
      · have := Int.mul_pos_of_neg_of_neg g2 g
        have h1 : ¬ cb * k < 0 := by omega
        simp [h1, g2] at h
      · have := Int.mul_neg_of_pos_of_neg (show 0 < cb by omega) g
        have h2 : ¬ cb < 0 := by omega
        simp [this, h2] at h
    · exact g
/-- a quotient -/
def divO (ca sa cb sb : Int) : Option (Int × Nat) :=
  if cb = 0 then none else
  if (ca * ((10 ^ (9 + sb - sa).toNat : Nat) : Int)) % cb = 0 then hold (ca * ((10 ^ (9 + sb - sa).toNat : Nat) : Int) / cb) 9 else none
set_option maxRecDepth 100000 in
set_option maxHeartbeats 4000000 in
theorem div_any (ca sa cb sb : Int) (w : World) :
    Calls Tryd.prog 7 #[nv ca sa, nv cb sb] w fun e w' => e = .returned (if isB ca sa = true ∧ isB cb sb = true then ans (divO ca sa cb sb) else bad) ∧ Below w.heap.size w w' := by
  unfold nv
  by_cases ia : isB ca sa = true
  case neg =>
    rw [if_neg (fun h => ia h.1)]
    have ia : isB ca sa = false := by simpa using ia
    go_enter Tryd.func7, Tryd.ntmps7
    go_wp2_with (go_at_call 20; refine (is_c ia _).mono ?_; rintro e wk ⟨rfl, bk⟩; obtain ⟨r0, r1, r2, r3⟩ := boxed bk (w.heap.size + 1 + 1) (.int .i64 0) (.int .i64 0) (by simp [go_sem]) (by simp [go_sem]) (by simp [go_sem]) (by simp [go_sem]); obtain ⟨q0, q1, q2, q3⟩ := boxed bk (w.heap.size + 1) (.int .i64 cb) (.int .i64 sb) (by simp [go_sem]) (by simp [go_sem]) (by simp [go_sem]) (by simp [go_sem]); have bel1 := bT (bA3 _ _ _ _) bk)
    simp [bodyPost, results, Tryd.results7, go_sem, r0, r1]
    exact ⟨rfl, ((bel1).setCell (by simp; omega) _).setCell (by simp; omega) _⟩
  by_cases ib : isB cb sb = true
  case neg =>
    rw [if_neg (fun h => ib h.2)]
    have ib : isB cb sb = false := by simpa using ib
    go_enter Tryd.func7, Tryd.ntmps7
    go_wp2_with (go_at_call 20; refine (is_c (by first | exact ia | exact ib) _).mono ?_; rintro e wk ⟨rfl, bk⟩; first | (obtain ⟨p0', p1', p2', p3'⟩ := boxed bk _ _ _ p0 p1 p2 p3; obtain ⟨q0', q1', q2', q3'⟩ := boxed bk _ _ _ q0 q1 q2 q3; obtain ⟨r0', r1', r2', r3'⟩ := boxed bk _ _ _ r0 r1 r2 r3; have bel2 := bT bel1 bk) | (obtain ⟨p0, p1, p2, p3⟩ := boxed bk w.heap.size (.int .i64 ca) (.int .i64 sa) (by simp [go_sem]) (by simp [go_sem]) (by simp [go_sem]) (by simp [go_sem]); obtain ⟨q0, q1, q2, q3⟩ := boxed bk (w.heap.size + 1) (.int .i64 cb) (.int .i64 sb) (by simp [go_sem]) (by simp [go_sem]) (by simp [go_sem]) (by simp [go_sem]); obtain ⟨r0, r1, r2, r3⟩ := boxed bk (w.heap.size + 1 + 1) (.int .i64 0) (.int .i64 0) (by simp [go_sem]) (by simp [go_sem]) (by simp [go_sem]) (by simp [go_sem]); have bel1 := bT (bA3 _ _ _ _) bk))
    simp [bodyPost, results, Tryd.results7, go_sem, r0', r1']
    exact ⟨rfl, ((bel2).setCell (by simp; omega) _).setCell (by simp; omega) _⟩
  rw [if_pos ⟨ia, ib⟩]
  have hua := isB_iff.1 ia
  have hub := isB_iff.1 ib
  unfold divO
  by_cases hc0 : cb = 0
  · subst hc0
    rw [if_pos rfl]
    have hb : (0 : Nat) ≤ 0 := Nat.le_refl 0
    go_enter Tryd.func7, Tryd.ntmps7
    go_wp2_with (go_at_call 20; refine (is_c (by first | exact ia | exact ib) _).mono ?_; rintro e wk ⟨rfl, bk⟩; first | (obtain ⟨p0', p1', p2', p3'⟩ := boxed bk _ _ _ p0 p1 p2 p3; obtain ⟨q0', q1', q2', q3'⟩ := boxed bk _ _ _ q0 q1 q2 q3; obtain ⟨r0', r1', r2', r3'⟩ := boxed bk _ _ _ r0 r1 r2 r3; have bel2 := bT bel1 bk) | (obtain ⟨p0, p1, p2, p3⟩ := boxed bk w.heap.size (.int .i64 ca) (.int .i64 sa) (by simp [go_sem]) (by simp [go_sem]) (by simp [go_sem]) (by simp [go_sem]); obtain ⟨q0, q1, q2, q3⟩ := boxed bk (w.heap.size + 1) (.int .i64 0) (.int .i64 sb) (by simp [go_sem]) (by simp [go_sem]) (by simp [go_sem]) (by simp [go_sem]); obtain ⟨r0, r1, r2, r3⟩ := boxed bk (w.heap.size + 1 + 1) (.int .i64 0) (.int .i64 0) (by simp [go_sem]) (by simp [go_sem]) (by simp [go_sem]) (by simp [go_sem]); have bel1 := bT (bA3 _ _ _ _) bk))
    simp [bodyPost, results, Tryd.results7, go_sem, r0', r1']
    exact ⟨rfl, (bel2.setCell (by simp; omega) _).setCell (by simp; omega) _⟩
  rw [if_neg hc0]
  obtain ⟨t, ht⟩ : ∃ t : Int, ((10 ^ (9 + sb - sa).toNat : Nat) : Int) = t := ⟨_, rfl⟩
  have htb := tenI (9 + sb - sa).toNat (by omega)
  rw [ht] at htb ⊢
  obtain ⟨a1, ha1⟩ : ∃ x : Int, IntKind.i64.wrap (9 + sb) = x := ⟨_, rfl⟩
  obtain ⟨a2, ha2⟩ : ∃ x : Int, IntKind.i64.wrap (a1 - sa) = x := ⟨_, rfl⟩
  have ha1' : a1 = 9 + sb := by rw [← ha1, wrapS _ (by omega) (by omega)]
  have ha2' : a2 = 9 + sb - sa := by rw [← ha2, ha1', wrapS _ (by omega) (by omega)]
  have T9 : Ten a2 t := ⟨(9 + sb - sa).toNat, by omega, by omega, ht⟩
  obtain ⟨X, hX⟩ : ∃ X, ca * t = X := ⟨_, rfl⟩
  have hb1 := mul_le_of (ca.natAbs : Int) 1000000000000000 t (by omega) (by omega)
  have hb3 : (X.natAbs : Int) = (ca.natAbs : Int) * t := by rw [← hX, Int.natAbs_mul, Int.natCast_mul, show ((t.natAbs : Nat) : Int) = t by omega]
  rw [hX]
  obtain ⟨x1, x2, hXW⟩ := wd_form X
  have P9 : Prd ca t x1 x2 := ⟨by omega, by omega, by omega, by omega, by rw [hX]; exact hXW⟩
  have hx0 : -170141183460469231731687303715884105728 ≤ X := by omega
  have hx1 : X < 170141183460469231731687303715884105728 := by omega
  have hx2 : (X.natAbs : Int) < 170141183460469231731687303715884105728 := by omega
  have hsz := fun w => size_wd X w hx0 hx1
  have hng := fun w => negative_wd X w hx0 hx1
  have hmg := fun w => magnitude_any cb w (by omega) (by omega)
  have hov := fun w => over_any (X.natAbs : Int) (cb.natAbs : Int) w (by omega) (by omega) (by omega) (by omega)
  obtain ⟨y1, y2, hY⟩ := wd_form (X.natAbs : Int)
  obtain ⟨D, hD⟩ : ∃ D : Int, ((cb.natAbs : Nat) : Int) = D := ⟨_, rfl⟩
  rw [hXW, hY] at hsz
  rw [hXW] at hng
  rw [hD] at hmg
  rw [hY, hD] at hov
  have hcz : (cb == 0) = false := by simp; exact hc0
  obtain ⟨U, hU⟩ : ∃ U : Int, (X.natAbs : Int) / D = U := ⟨_, rfl⟩
  obtain ⟨V, hV⟩ : ∃ V : Int, (X.natAbs : Int) % D = V := ⟨_, rfl⟩
  rw [hU, hV] at hov
  obtain ⟨z1, z2, hZ⟩ := wd_form U
  rw [hZ] at hov
  have hVX : V = 0 ↔ X % cb = 0 := by
    rw [← hV, ← hD]
    rw [← Int.dvd_iff_emod_eq_zero, ← Int.dvd_iff_emod_eq_zero, Int.natCast_dvd_natCast, Int.natAbs_dvd_natAbs]
  have HA := Lib.hid (And.intro ha1' ha2')
  have HX := Lib.hid (And.intro hX hXW)
  have HD := Lib.hid (And.intro hD (And.intro hU hZ))
  have HV := Lib.hid hVX
  clear ha1' ha2' hX hXW hY hD hU hZ hVX ht htb hb1 hb3
  by_cases hdv : V = 0
  case neg =>
    rw [if_neg (fun h => hdv (HV.out.2 h))]
    have hvn : (V != 0) = true := by simp; exact hdv
    clear HV hV hdv
    go_enter Tryd.func7, Tryd.ntmps7
    go_upto_region 5 with (go_at_call 20; refine (is_c (by first | exact ia | exact ib) _).mono ?_; rintro e wk ⟨rfl, bk⟩; first | (obtain ⟨p0', p1', p2', p3'⟩ := boxed bk _ _ _ p0 p1 p2 p3; obtain ⟨q0', q1', q2', q3'⟩ := boxed bk _ _ _ q0 q1 q2 q3; obtain ⟨r0', r1', r2', r3'⟩ := boxed bk _ _ _ r0 r1 r2 r3; have bel2 := bT bel1 bk) | (obtain ⟨p0, p1, p2, p3⟩ := boxed bk w.heap.size (.int .i64 ca) (.int .i64 sa) (by simp [go_sem]) (by simp [go_sem]) (by simp [go_sem]) (by simp [go_sem]); obtain ⟨q0, q1, q2, q3⟩ := boxed bk (w.heap.size + 1) (.int .i64 cb) (.int .i64 sb) (by simp [go_sem]) (by simp [go_sem]) (by simp [go_sem]) (by simp [go_sem]); obtain ⟨r0, r1, r2, r3⟩ := boxed bk (w.heap.size + 1 + 1) (.int .i64 0) (.int .i64 0) (by simp [go_sem]) (by simp [go_sem]) (by simp [go_sem]) (by simp [go_sem]); have bel1 := bT (bA3 _ _ _ _) bk))
    have hS1 := (((Sv.nil (B := w.heap.size) (o := w) (a := wk) (bel2)).addf (k := (w.heap.size + 1)) (x := .int .i64 cb) (y := .int .i64 sb) (⟨q0', q1', q2', q3'⟩)).addf (k := w.heap.size) (x := .int .i64 ca) (y := .int .i64 sa) (⟨p0', p1', p2', p3'⟩)).addo (k := (w.heap.size + 1 + 1)) ((⟨r0', r1', r2', r3'⟩ : Bx _ _ _ _))
    obtain ⟨fx1, hfx1⟩ : ∃ fx : List (Nat × Value × Value), [(w.heap.size, .int .i64 ca, .int .i64 sa), ((w.heap.size + 1), .int .i64 cb, .int .i64 sb)] = fx := ⟨_, rfl⟩
    obtain ⟨op1, hop1⟩ : ∃ op : List Nat, [(w.heap.size + 1 + 1)] = op := ⟨_, rfl⟩
    rw [hfx1, hop1] at hS1
    have u1_0_0 := Sv.fix0 (B := w.heap.size) (o := w) (fx := fx1) (op := op1) (k := w.heap.size) (x := .int .i64 ca) (y := .int .i64 sa) (by subst hfx1; simp)
    have u1_0_1 := Sv.fix1 (B := w.heap.size) (o := w) (fx := fx1) (op := op1) (k := w.heap.size) (x := .int .i64 ca) (y := .int .i64 sa) (by subst hfx1; simp)
    have u1_1_0 := Sv.fix0 (B := w.heap.size) (o := w) (fx := fx1) (op := op1) (k := (w.heap.size + 1)) (x := .int .i64 cb) (y := .int .i64 sb) (by subst hfx1; simp)
    have u1_1_1 := Sv.fix1 (B := w.heap.size) (o := w) (fx := fx1) (op := op1) (k := (w.heap.size + 1)) (x := .int .i64 cb) (y := .int .i64 sb) (by subst hfx1; simp)
    have mf1_0 : (w.heap.size, .int .i64 ca, .int .i64 sa) ∈ fx1 := by subst hfx1; simp
    have mf1_1 : ((w.heap.size + 1), .int .i64 cb, .int .i64 sb) ∈ fx1 := by subst hfx1; simp
    obtain ⟨G1_0, H1_0, g1_0_0, g1_0_1, g1_0_2, g1_0_3⟩ := Sv.get (B := w.heap.size) (o := w) (fx := fx1) (op := op1) (k := (w.heap.size + 1 + 1)) (by subst hop1; simp)
    have n1_0 : ∀ t ∈ fx1, (w.heap.size + 1 + 1) ≠ t.1 := by
      subst hfx1
      intro t ht
      simp only [List.mem_cons, List.not_mem_nil, or_false] at ht
      rcases ht with rfl | rfl <;> simp <;> omega
    have o1_0 : (w.heap.size + 1 + 1) ∈ op1 := by subst hop1; simp
    clear hfx1 hop1
    have HS1 := Lib.hid hS1
    clear hS1
    clear p0 p1 p2 p3 q0 q1 q2 q3 p0' p1' p2' p3' q0' q1' q2' q3' r0 r1 r2 r3 r0' r1' r2' r3' bel1 bel2 bk
    go_cut [6] (fun s6 wx => ∃ k6, s6 = .pointer (some ⟨k6, 0, none⟩) ∧ w.heap.size + 3 ≤ k6 ∧ Sv w.heap.size w fx1 op1 wx ∧ Bx wx k6 (.int .u64 x1) (.int .u64 x2))
    case first =>
      go_region_held3 (Sv w.heap.size w fx1 op1) (first | assumption | exact HS1.out.drew | exact Sv.call (by assumption) (by assumption) (Nat.le_refl _) | exact Sv.set1 (Sv.set0 (by assumption) (by omega) n1_0 _) (by omega) n1_0 _ | exact Sv.alloc (by assumption) (Nat.le_refl _) _ | exact Sv.alloc (Hid.out (by assumption)) (Nat.le_refl _) _ | exact Sv.new (by assumption) HS1.out (Nat.le_refl _) _ _)
        (first
          | (go_at_call 16; refine (ten_c T9 _).mono ?_; rintro e wt ⟨rfl, rfl⟩)
          | (go_at_call 15; refine (prd_c P9 _).mono ?_; rintro e wp ⟨rfl, bk⟩; have HK := Lib.hid (Sv.call (b := wp) (by assumption) bk (Nat.le_refl _)); first | (have NB := Lib.hid (Bx.on (bxNewD wk (.int .u64 0) (.int .u64 0) _) bk); obtain ⟨n0, n1, n2, n3⟩ := NB.out) | skip))
      all_goals go_wp2
      all_goals go_meet
      all_goals first
        | exact ⟨wk.heap.size, rfl, HS1.out.lt o1_0, by assumption, Bx.put NB.out _ _⟩
        | exact ⟨wp.heap.size, rfl, HK.out.lt o1_0, by assumption, ⟨by (simp [go_sem] <;> fail), by (simp [go_sem] <;> fail), by (simp [go_sem] <;> fail), by (simp [go_sem] <;> fail)⟩⟩
    case rest =>
    obtain ⟨k6, rfl, hk6, hF1, bx6⟩ := hcut
    clear u1_0_0 u1_0_1 u1_1_0 u1_1_1 g1_0_0 g1_0_1 g1_0_2 g1_0_3
    clear HS1
    obtain ⟨ru, rv, bxr⟩ := hF1.2.2 _ o1_0
    have hS2 := (((Sv.nil (B := w.heap.size) (o := w) (a := wc) (hF1.1)).addf (k := k6) (x := .int .u64 x1) (y := .int .u64 x2) (bx6)).addf (k := (w.heap.size + 1)) (x := .int .i64 cb) (y := .int .i64 sb) (hF1.2.1 _ mf1_1)).addo (k := (w.heap.size + 1 + 1)) (bxr)
    obtain ⟨fx2, hfx2⟩ : ∃ fx : List (Nat × Value × Value), [((w.heap.size + 1), .int .i64 cb, .int .i64 sb), (k6, .int .u64 x1, .int .u64 x2)] = fx := ⟨_, rfl⟩
    obtain ⟨op2, hop2⟩ : ∃ op : List Nat, [(w.heap.size + 1 + 1)] = op := ⟨_, rfl⟩
    rw [hfx2, hop2] at hS2
    have u2_0_0 := Sv.fix0 (B := w.heap.size) (o := w) (fx := fx2) (op := op2) (k := (w.heap.size + 1)) (x := .int .i64 cb) (y := .int .i64 sb) (by subst hfx2; simp)
    have u2_0_1 := Sv.fix1 (B := w.heap.size) (o := w) (fx := fx2) (op := op2) (k := (w.heap.size + 1)) (x := .int .i64 cb) (y := .int .i64 sb) (by subst hfx2; simp)
    have u2_1_0 := Sv.fix0 (B := w.heap.size) (o := w) (fx := fx2) (op := op2) (k := k6) (x := .int .u64 x1) (y := .int .u64 x2) (by subst hfx2; simp)
    have u2_1_1 := Sv.fix1 (B := w.heap.size) (o := w) (fx := fx2) (op := op2) (k := k6) (x := .int .u64 x1) (y := .int .u64 x2) (by subst hfx2; simp)
    have mf2_0 : ((w.heap.size + 1), .int .i64 cb, .int .i64 sb) ∈ fx2 := by subst hfx2; simp
    have mf2_1 : (k6, .int .u64 x1, .int .u64 x2) ∈ fx2 := by subst hfx2; simp
    obtain ⟨G2_0, H2_0, g2_0_0, g2_0_1, g2_0_2, g2_0_3⟩ := Sv.get (B := w.heap.size) (o := w) (fx := fx2) (op := op2) (k := (w.heap.size + 1 + 1)) (by subst hop2; simp)
    have n2_0 : ∀ t ∈ fx2, (w.heap.size + 1 + 1) ≠ t.1 := by
      subst hfx2
      intro t ht
      simp only [List.mem_cons, List.not_mem_nil, or_false] at ht
      rcases ht with rfl | rfl <;> simp <;> omega
    have o2_0 : (w.heap.size + 1 + 1) ∈ op2 := by subst hop2; simp
    clear hfx2 hop2
    have HS2 := Lib.hid hS2
    clear hS2
    clear hF1 bx6 bxr mf1_0 mf1_1 n1_0 o1_0
    go_upto_region 6 with (fail)
    go_cut [7, 8] (fun s7 s8 wx => ∃ k7, s7 = .pointer (some ⟨k7, 0, none⟩) ∧ s8 = .int .u64 V ∧ w.heap.size + 3 ≤ k7 ∧ k7 ≠ k6 ∧ Sv w.heap.size w fx2 op2 wx ∧ Bx wx k7 (.int .u64 z1) (.int .u64 z2))
    case first =>
      go_region_held3 (Sv w.heap.size w fx2 op2) (first | assumption | exact HS2.out.drew | exact Sv.call (by assumption) (by assumption) (Nat.le_refl _) | exact Sv.set1 (Sv.set0 (by assumption) (by omega) n2_0 _) (by omega) n2_0 _ | exact Sv.alloc (by assumption) (Nat.le_refl _) _ | exact Sv.alloc (Hid.out (by assumption)) (Nat.le_refl _) _ | exact Sv.new (by assumption) HS2.out (Nat.le_refl _) _ _ | exact Sv.new (by assumption) HKs.out (Nat.le_refl _) _ _)
        (first
          | (go_at_call 21; refine (hsz _).mono ?_; rintro e ws ⟨rfl, bk⟩; have HKs := Lib.hid (Sv.call (b := ws) (by assumption) bk (Nat.le_refl _)); first | (have NB := Lib.hid (Bx.on (bxNewD wc (.int .u64 0) (.int .u64 0) _) bk); obtain ⟨n0, n1, n2, n3⟩ := NB.out) | skip)
          | (go_at_call 23; refine (hmg _).mono ?_; rintro e wm ⟨rfl, rfl⟩)
          | (go_at_call 22; refine (hov _).mono ?_; rintro e wo ⟨rfl, bk⟩; have HKo := Lib.hid (Sv.call (b := wo) (by assumption) bk (Nat.le_refl _)); first | (have NB2 := Lib.hid (Bx.on NB.out bk); obtain ⟨n0, n1, n2, n3⟩ := NB2.out) | (have NB2 := Lib.hid (Bx.on (bxNew ws (.int .u64 0) (.int .u64 0) _) bk); obtain ⟨n0, n1, n2, n3⟩ := NB2.out) | skip))
      all_goals go_wp2
      all_goals go_meet
      all_goals first
        | exact ⟨wc.heap.size, rfl, rfl, HS2.out.lt o2_0, HS2.out.ne _ mf2_1, by assumption, Bx.put NB2.out _ _⟩
        | exact ⟨ws.heap.size, rfl, rfl, HKs.out.lt o2_0, HKs.out.ne _ mf2_1, by assumption, Bx.put NB2.out _ _⟩
        | exact ⟨wo.heap.size, rfl, rfl, HKo.out.lt o2_0, HKo.out.ne _ mf2_1, by assumption, bxNew wo _ _ _⟩
    case rest =>
    obtain ⟨k7, rfl, rfl, hk7, hk76, hF2, bx7⟩ := hcut
    clear u2_0_0 u2_0_1 u2_1_0 u2_1_1 g2_0_0 g2_0_1 g2_0_2 g2_0_3
    clear HS2
    obtain ⟨ru, rv, r0, r1, r2, r3⟩ := hF2.2.2 _ o2_0
    have HF2 := Lib.hid hF2
    clear hF2
    go_wp2
    simp [bodyPost, results, Tryd.results7, go_sem, r0, r1]
    exact ⟨rfl, (HF2.out.1.setCell (by simp; omega) _).setCell (by simp; omega) _⟩
  subst hdv
  have hdd : X % cb = 0 := HV.out.1 rfl
  rw [if_pos hdd]
  have hs := div_sign hc0 hdd
  have hUZ : U = ((X / cb).natAbs : Int) := by rw [← hs.1, HD.out.1]; exact HD.out.2.1.symm
  obtain ⟨Z, hZ⟩ : ∃ Z, X / cb = Z := ⟨_, rfl⟩
  rw [hZ] at hs hUZ ⊢
  have hUX : U ≤ (X.natAbs : Int) := by rw [← HD.out.2.1]; exact Int.ediv_le_self _ (by omega)
  have hh := fun w => held_any Z 9 w (by omega) (by omega) (by decide)
  obtain ⟨x, y, z, hz⟩ := ans_ex (hold Z 9)
  rw [hz] at hh ⊢
  clear hz hdd HV hV
  obtain ⟨_, hs0, hs1⟩ := hs
  by_cases hsg : (decide (X < 0) != decide (cb < 0)) = true
  · have hZU : -U = Z := by have := hs0 hsg; omega
    have hn2 := fun w => negated_wd U w
    obtain ⟨w1, w2, hW⟩ := wd_form Z
    rw [hZU, HD.out.2.2, hW] at hn2
    rw [hW] at hh
    have hsg2 : (decide (X < 0) == decide (cb < 0)) = false := by
      generalize decide (X < 0) = p at *
      generalize decide (cb < 0) = q at *
      cases p <;> cases q <;> simp at hsg ⊢
    clear hW hZU hs0 hs1 hUZ hUX HD HX hZ
    go_enter Tryd.func7, Tryd.ntmps7
    go_upto_region 5 with (go_at_call 20; refine (is_c (by first | exact ia | exact ib) _).mono ?_; rintro e wk ⟨rfl, bk⟩; first | (obtain ⟨p0', p1', p2', p3'⟩ := boxed bk _ _ _ p0 p1 p2 p3; obtain ⟨q0', q1', q2', q3'⟩ := boxed bk _ _ _ q0 q1 q2 q3; obtain ⟨r0', r1', r2', r3'⟩ := boxed bk _ _ _ r0 r1 r2 r3; have bel2 := bT bel1 bk) | (obtain ⟨p0, p1, p2, p3⟩ := boxed bk w.heap.size (.int .i64 ca) (.int .i64 sa) (by simp [go_sem]) (by simp [go_sem]) (by simp [go_sem]) (by simp [go_sem]); obtain ⟨q0, q1, q2, q3⟩ := boxed bk (w.heap.size + 1) (.int .i64 cb) (.int .i64 sb) (by simp [go_sem]) (by simp [go_sem]) (by simp [go_sem]) (by simp [go_sem]); obtain ⟨r0, r1, r2, r3⟩ := boxed bk (w.heap.size + 1 + 1) (.int .i64 0) (.int .i64 0) (by simp [go_sem]) (by simp [go_sem]) (by simp [go_sem]) (by simp [go_sem]); have bel1 := bT (bA3 _ _ _ _) bk))
    have hS1 := (((Sv.nil (B := w.heap.size) (o := w) (a := wk) (bel2)).addf (k := (w.heap.size + 1)) (x := .int .i64 cb) (y := .int .i64 sb) (⟨q0', q1', q2', q3'⟩)).addf (k := w.heap.size) (x := .int .i64 ca) (y := .int .i64 sa) (⟨p0', p1', p2', p3'⟩)).addo (k := (w.heap.size + 1 + 1)) ((⟨r0', r1', r2', r3'⟩ : Bx _ _ _ _))
    obtain ⟨fx1, hfx1⟩ : ∃ fx : List (Nat × Value × Value), [(w.heap.size, .int .i64 ca, .int .i64 sa), ((w.heap.size + 1), .int .i64 cb, .int .i64 sb)] = fx := ⟨_, rfl⟩
    obtain ⟨op1, hop1⟩ : ∃ op : List Nat, [(w.heap.size + 1 + 1)] = op := ⟨_, rfl⟩
    rw [hfx1, hop1] at hS1
    have u1_0_0 := Sv.fix0 (B := w.heap.size) (o := w) (fx := fx1) (op := op1) (k := w.heap.size) (x := .int .i64 ca) (y := .int .i64 sa) (by subst hfx1; simp)
    have u1_0_1 := Sv.fix1 (B := w.heap.size) (o := w) (fx := fx1) (op := op1) (k := w.heap.size) (x := .int .i64 ca) (y := .int .i64 sa) (by subst hfx1; simp)
    have u1_1_0 := Sv.fix0 (B := w.heap.size) (o := w) (fx := fx1) (op := op1) (k := (w.heap.size + 1)) (x := .int .i64 cb) (y := .int .i64 sb) (by subst hfx1; simp)
    have u1_1_1 := Sv.fix1 (B := w.heap.size) (o := w) (fx := fx1) (op := op1) (k := (w.heap.size + 1)) (x := .int .i64 cb) (y := .int .i64 sb) (by subst hfx1; simp)
    have mf1_0 : (w.heap.size, .int .i64 ca, .int .i64 sa) ∈ fx1 := by subst hfx1; simp
    have mf1_1 : ((w.heap.size + 1), .int .i64 cb, .int .i64 sb) ∈ fx1 := by subst hfx1; simp
    obtain ⟨G1_0, H1_0, g1_0_0, g1_0_1, g1_0_2, g1_0_3⟩ := Sv.get (B := w.heap.size) (o := w) (fx := fx1) (op := op1) (k := (w.heap.size + 1 + 1)) (by subst hop1; simp)
    have n1_0 : ∀ t ∈ fx1, (w.heap.size + 1 + 1) ≠ t.1 := by
      subst hfx1
      intro t ht
      simp only [List.mem_cons, List.not_mem_nil, or_false] at ht
      rcases ht with rfl | rfl <;> simp <;> omega
    have o1_0 : (w.heap.size + 1 + 1) ∈ op1 := by subst hop1; simp
    clear hfx1 hop1
    have HS1 := Lib.hid hS1
    clear hS1
    clear p0 p1 p2 p3 q0 q1 q2 q3 p0' p1' p2' p3' q0' q1' q2' q3' r0 r1 r2 r3 r0' r1' r2' r3' bel1 bel2 bk
    go_cut [6] (fun s6 wx => ∃ k6, s6 = .pointer (some ⟨k6, 0, none⟩) ∧ w.heap.size + 3 ≤ k6 ∧ Sv w.heap.size w fx1 op1 wx ∧ Bx wx k6 (.int .u64 x1) (.int .u64 x2))
    case first =>
      go_region_held3 (Sv w.heap.size w fx1 op1) (first | assumption | exact HS1.out.drew | exact Sv.call (by assumption) (by assumption) (Nat.le_refl _) | exact Sv.set1 (Sv.set0 (by assumption) (by omega) n1_0 _) (by omega) n1_0 _ | exact Sv.alloc (by assumption) (Nat.le_refl _) _ | exact Sv.alloc (Hid.out (by assumption)) (Nat.le_refl _) _ | exact Sv.new (by assumption) HS1.out (Nat.le_refl _) _ _)
        (first
          | (go_at_call 16; refine (ten_c T9 _).mono ?_; rintro e wt ⟨rfl, rfl⟩)
          | (go_at_call 15; refine (prd_c P9 _).mono ?_; rintro e wp ⟨rfl, bk⟩; have HK := Lib.hid (Sv.call (b := wp) (by assumption) bk (Nat.le_refl _)); first | (have NB := Lib.hid (Bx.on (bxNewD wk (.int .u64 0) (.int .u64 0) _) bk); obtain ⟨n0, n1, n2, n3⟩ := NB.out) | skip))
      all_goals go_wp2
      all_goals go_meet
      all_goals first
        | exact ⟨wk.heap.size, rfl, HS1.out.lt o1_0, by assumption, Bx.put NB.out _ _⟩
        | exact ⟨wp.heap.size, rfl, HK.out.lt o1_0, by assumption, ⟨by (simp [go_sem] <;> fail), by (simp [go_sem] <;> fail), by (simp [go_sem] <;> fail), by (simp [go_sem] <;> fail)⟩⟩
    case rest =>
    obtain ⟨k6, rfl, hk6, hF1, bx6⟩ := hcut
    clear u1_0_0 u1_0_1 u1_1_0 u1_1_1 g1_0_0 g1_0_1 g1_0_2 g1_0_3
    clear HS1
    obtain ⟨ru, rv, bxr⟩ := hF1.2.2 _ o1_0
    have hS2 := (((Sv.nil (B := w.heap.size) (o := w) (a := wc) (hF1.1)).addf (k := k6) (x := .int .u64 x1) (y := .int .u64 x2) (bx6)).addf (k := (w.heap.size + 1)) (x := .int .i64 cb) (y := .int .i64 sb) (hF1.2.1 _ mf1_1)).addo (k := (w.heap.size + 1 + 1)) (bxr)
    obtain ⟨fx2, hfx2⟩ : ∃ fx : List (Nat × Value × Value), [((w.heap.size + 1), .int .i64 cb, .int .i64 sb), (k6, .int .u64 x1, .int .u64 x2)] = fx := ⟨_, rfl⟩
    obtain ⟨op2, hop2⟩ : ∃ op : List Nat, [(w.heap.size + 1 + 1)] = op := ⟨_, rfl⟩
    rw [hfx2, hop2] at hS2
    have u2_0_0 := Sv.fix0 (B := w.heap.size) (o := w) (fx := fx2) (op := op2) (k := (w.heap.size + 1)) (x := .int .i64 cb) (y := .int .i64 sb) (by subst hfx2; simp)
    have u2_0_1 := Sv.fix1 (B := w.heap.size) (o := w) (fx := fx2) (op := op2) (k := (w.heap.size + 1)) (x := .int .i64 cb) (y := .int .i64 sb) (by subst hfx2; simp)
    have u2_1_0 := Sv.fix0 (B := w.heap.size) (o := w) (fx := fx2) (op := op2) (k := k6) (x := .int .u64 x1) (y := .int .u64 x2) (by subst hfx2; simp)
    have u2_1_1 := Sv.fix1 (B := w.heap.size) (o := w) (fx := fx2) (op := op2) (k := k6) (x := .int .u64 x1) (y := .int .u64 x2) (by subst hfx2; simp)
    have mf2_0 : ((w.heap.size + 1), .int .i64 cb, .int .i64 sb) ∈ fx2 := by subst hfx2; simp
    have mf2_1 : (k6, .int .u64 x1, .int .u64 x2) ∈ fx2 := by subst hfx2; simp
    obtain ⟨G2_0, H2_0, g2_0_0, g2_0_1, g2_0_2, g2_0_3⟩ := Sv.get (B := w.heap.size) (o := w) (fx := fx2) (op := op2) (k := (w.heap.size + 1 + 1)) (by subst hop2; simp)
    have n2_0 : ∀ t ∈ fx2, (w.heap.size + 1 + 1) ≠ t.1 := by
      subst hfx2
      intro t ht
      simp only [List.mem_cons, List.not_mem_nil, or_false] at ht
      rcases ht with rfl | rfl <;> simp <;> omega
    have o2_0 : (w.heap.size + 1 + 1) ∈ op2 := by subst hop2; simp
    clear hfx2 hop2
    have HS2 := Lib.hid hS2
    clear hS2
    clear hF1 bx6 bxr mf1_0 mf1_1 n1_0 o1_0
    go_upto_region 6 with (fail)
    go_cut [7, 8] (fun s7 s8 wx => ∃ k7, s7 = .pointer (some ⟨k7, 0, none⟩) ∧ s8 = .int .u64 0 ∧ w.heap.size + 3 ≤ k7 ∧ k7 ≠ k6 ∧ Sv w.heap.size w fx2 op2 wx ∧ Bx wx k7 (.int .u64 z1) (.int .u64 z2))
    case first =>
      go_region_held3 (Sv w.heap.size w fx2 op2) (first | assumption | exact HS2.out.drew | exact Sv.call (by assumption) (by assumption) (Nat.le_refl _) | exact Sv.set1 (Sv.set0 (by assumption) (by omega) n2_0 _) (by omega) n2_0 _ | exact Sv.alloc (by assumption) (Nat.le_refl _) _ | exact Sv.alloc (Hid.out (by assumption)) (Nat.le_refl _) _ | exact Sv.new (by assumption) HS2.out (Nat.le_refl _) _ _ | exact Sv.new (by assumption) HKs.out (Nat.le_refl _) _ _)
        (first
          | (go_at_call 21; refine (hsz _).mono ?_; rintro e ws ⟨rfl, bk⟩; have HKs := Lib.hid (Sv.call (b := ws) (by assumption) bk (Nat.le_refl _)); first | (have NB := Lib.hid (Bx.on (bxNewD wc (.int .u64 0) (.int .u64 0) _) bk); obtain ⟨n0, n1, n2, n3⟩ := NB.out) | skip)
          | (go_at_call 23; refine (hmg _).mono ?_; rintro e wm ⟨rfl, rfl⟩)
          | (go_at_call 22; refine (hov _).mono ?_; rintro e wo ⟨rfl, bk⟩; have HKo := Lib.hid (Sv.call (b := wo) (by assumption) bk (Nat.le_refl _)); first | (have NB2 := Lib.hid (Bx.on NB.out bk); obtain ⟨n0, n1, n2, n3⟩ := NB2.out) | (have NB2 := Lib.hid (Bx.on (bxNew ws (.int .u64 0) (.int .u64 0) _) bk); obtain ⟨n0, n1, n2, n3⟩ := NB2.out) | skip))
      all_goals go_wp2
      all_goals go_meet
      all_goals first
        | exact ⟨wc.heap.size, rfl, rfl, HS2.out.lt o2_0, HS2.out.ne _ mf2_1, by assumption, Bx.put NB2.out _ _⟩
        | exact ⟨ws.heap.size, rfl, rfl, HKs.out.lt o2_0, HKs.out.ne _ mf2_1, by assumption, Bx.put NB2.out _ _⟩
        | exact ⟨wo.heap.size, rfl, rfl, HKo.out.lt o2_0, HKo.out.ne _ mf2_1, by assumption, bxNew wo _ _ _⟩
    case rest =>
    obtain ⟨k7, rfl, rfl, hk7, hk76, hF2, bx7⟩ := hcut
    clear u2_0_0 u2_0_1 u2_1_0 u2_1_1 g2_0_0 g2_0_1 g2_0_2 g2_0_3
    clear HS2
    obtain ⟨ru, rv, r0, r1, r2, r3⟩ := hF2.2.2 _ o2_0
    go_upto_region 9 with (fail)
    have hS3 := ((((Sv.nil (B := w.heap.size) (o := w) (a := wc) (hF2.1)).addf (k := k7) (x := .int .u64 z1) (y := .int .u64 z2) (bx7)).addf (k := k6) (x := .int .u64 x1) (y := .int .u64 x2) (hF2.2.1 _ mf2_1)).addf (k := (w.heap.size + 1)) (x := .int .i64 cb) (y := .int .i64 sb) (hF2.2.1 _ mf2_0)).addo (k := (w.heap.size + 1 + 1)) ((⟨r0, r1, r2, r3⟩ : Bx _ _ _ _))
    obtain ⟨fx3, hfx3⟩ : ∃ fx : List (Nat × Value × Value), [((w.heap.size + 1), .int .i64 cb, .int .i64 sb), (k6, .int .u64 x1, .int .u64 x2), (k7, .int .u64 z1, .int .u64 z2)] = fx := ⟨_, rfl⟩
    obtain ⟨op3, hop3⟩ : ∃ op : List Nat, [(w.heap.size + 1 + 1)] = op := ⟨_, rfl⟩
    rw [hfx3, hop3] at hS3
    have u3_0_0 := Sv.fix0 (B := w.heap.size) (o := w) (fx := fx3) (op := op3) (k := (w.heap.size + 1)) (x := .int .i64 cb) (y := .int .i64 sb) (by subst hfx3; simp)
    have u3_0_1 := Sv.fix1 (B := w.heap.size) (o := w) (fx := fx3) (op := op3) (k := (w.heap.size + 1)) (x := .int .i64 cb) (y := .int .i64 sb) (by subst hfx3; simp)
    have u3_1_0 := Sv.fix0 (B := w.heap.size) (o := w) (fx := fx3) (op := op3) (k := k6) (x := .int .u64 x1) (y := .int .u64 x2) (by subst hfx3; simp)
    have u3_1_1 := Sv.fix1 (B := w.heap.size) (o := w) (fx := fx3) (op := op3) (k := k6) (x := .int .u64 x1) (y := .int .u64 x2) (by subst hfx3; simp)
    have u3_2_0 := Sv.fix0 (B := w.heap.size) (o := w) (fx := fx3) (op := op3) (k := k7) (x := .int .u64 z1) (y := .int .u64 z2) (by subst hfx3; simp)
    have u3_2_1 := Sv.fix1 (B := w.heap.size) (o := w) (fx := fx3) (op := op3) (k := k7) (x := .int .u64 z1) (y := .int .u64 z2) (by subst hfx3; simp)
    have mf3_0 : ((w.heap.size + 1), .int .i64 cb, .int .i64 sb) ∈ fx3 := by subst hfx3; simp
    have mf3_1 : (k6, .int .u64 x1, .int .u64 x2) ∈ fx3 := by subst hfx3; simp
    have mf3_2 : (k7, .int .u64 z1, .int .u64 z2) ∈ fx3 := by subst hfx3; simp
    obtain ⟨G3_0, H3_0, g3_0_0, g3_0_1, g3_0_2, g3_0_3⟩ := Sv.get (B := w.heap.size) (o := w) (fx := fx3) (op := op3) (k := (w.heap.size + 1 + 1)) (by subst hop3; simp)
    have n3_0 : ∀ t ∈ fx3, (w.heap.size + 1 + 1) ≠ t.1 := by
      subst hfx3
      intro t ht
      simp only [List.mem_cons, List.not_mem_nil, or_false] at ht
      rcases ht with rfl | rfl | rfl <;> simp <;> omega
    have o3_0 : (w.heap.size + 1 + 1) ∈ op3 := by subst hop3; simp
    clear hfx3 hop3
    have HS3 := Lib.hid hS3
    clear hS3
    clear hF2 bx7 r0 r1 r2 r3 mf2_0 mf2_1 n2_0 o2_0
    go_region_held3 (Sv w.heap.size w fx3 op3) (first | assumption | exact HS3.out.drew | exact Sv.call (by assumption) (by assumption) (Nat.le_refl _) | exact Sv.set1 (Sv.set0 (by assumption) (by omega) n3_0 _) (by omega) n3_0 _)
      (first
        | (go_at_call 24; refine (hng _).mono ?_; rintro e wn ⟨rfl, bk⟩))
    rename_i HF
    have HF3 := Lib.hid HF
    obtain ⟨_, _, r0, r1, r2, r3⟩ := HF.2.2 _ o3_0
    obtain ⟨t0, t1, t2, t3⟩ := HF.2.1 _ mf3_2
    clear u3_0_0 u3_0_1 u3_1_0 u3_1_1 u3_2_0 u3_2_1 g3_0_0 g3_0_1 g3_0_2 g3_0_3
    clear HF HS3
    go_wp2_with (first | (go_at_call 25; refine (hn2 _).mono ?_; rintro e w5 ⟨rfl, b5⟩; obtain ⟨q0, q1, q2, q3⟩ := boxed b5 _ _ _ r0 r1 r2 r3; obtain ⟨e0, e1, e2, e3⟩ := boxed b5 _ _ _ t0 t1 t2 t3; have bel5 := bT HF3.out.1 b5) | (go_at_call 14; refine (hh _).mono ?_; rintro e w6 ⟨rfl, b6⟩; obtain ⟨v0, v1, v2, v3⟩ := Bx.on ((Bx.far (⟨q0, q1, q2, q3⟩ : Bx _ _ _ _) (by simp; omega) _).far (by simp; omega) _) b6; have bel6 := bT ((bel5.setCell (by simp; omega) _).setCell (by simp; omega) _) b6))
    simp [bodyPost, results, Tryd.results7, go_sem, v0, v1]
    exact (bel6.setCell (by simp; omega) _).setCell (by simp; omega) _
  · have hsg : (decide (X < 0) != decide (cb < 0)) = false := by simpa using hsg
    have hZU : U = Z := by have := hs1 hsg; omega
    rw [← hZU, HD.out.2.2] at hh
    have hsg2 : (decide (X < 0) == decide (cb < 0)) = true := by
      generalize decide (X < 0) = p at *
      generalize decide (cb < 0) = q at *
      cases p <;> cases q <;> simp at hsg ⊢
    clear hZU hs0 hs1 hUZ hUX HD HX hZ
    go_enter Tryd.func7, Tryd.ntmps7
    go_upto_region 5 with (go_at_call 20; refine (is_c (by first | exact ia | exact ib) _).mono ?_; rintro e wk ⟨rfl, bk⟩; first | (obtain ⟨p0', p1', p2', p3'⟩ := boxed bk _ _ _ p0 p1 p2 p3; obtain ⟨q0', q1', q2', q3'⟩ := boxed bk _ _ _ q0 q1 q2 q3; obtain ⟨r0', r1', r2', r3'⟩ := boxed bk _ _ _ r0 r1 r2 r3; have bel2 := bT bel1 bk) | (obtain ⟨p0, p1, p2, p3⟩ := boxed bk w.heap.size (.int .i64 ca) (.int .i64 sa) (by simp [go_sem]) (by simp [go_sem]) (by simp [go_sem]) (by simp [go_sem]); obtain ⟨q0, q1, q2, q3⟩ := boxed bk (w.heap.size + 1) (.int .i64 cb) (.int .i64 sb) (by simp [go_sem]) (by simp [go_sem]) (by simp [go_sem]) (by simp [go_sem]); obtain ⟨r0, r1, r2, r3⟩ := boxed bk (w.heap.size + 1 + 1) (.int .i64 0) (.int .i64 0) (by simp [go_sem]) (by simp [go_sem]) (by simp [go_sem]) (by simp [go_sem]); have bel1 := bT (bA3 _ _ _ _) bk))
    have hS1 := (((Sv.nil (B := w.heap.size) (o := w) (a := wk) (bel2)).addf (k := (w.heap.size + 1)) (x := .int .i64 cb) (y := .int .i64 sb) (⟨q0', q1', q2', q3'⟩)).addf (k := w.heap.size) (x := .int .i64 ca) (y := .int .i64 sa) (⟨p0', p1', p2', p3'⟩)).addo (k := (w.heap.size + 1 + 1)) ((⟨r0', r1', r2', r3'⟩ : Bx _ _ _ _))
    obtain ⟨fx1, hfx1⟩ : ∃ fx : List (Nat × Value × Value), [(w.heap.size, .int .i64 ca, .int .i64 sa), ((w.heap.size + 1), .int .i64 cb, .int .i64 sb)] = fx := ⟨_, rfl⟩
    obtain ⟨op1, hop1⟩ : ∃ op : List Nat, [(w.heap.size + 1 + 1)] = op := ⟨_, rfl⟩
    rw [hfx1, hop1] at hS1
    have u1_0_0 := Sv.fix0 (B := w.heap.size) (o := w) (fx := fx1) (op := op1) (k := w.heap.size) (x := .int .i64 ca) (y := .int .i64 sa) (by subst hfx1; simp)
    have u1_0_1 := Sv.fix1 (B := w.heap.size) (o := w) (fx := fx1) (op := op1) (k := w.heap.size) (x := .int .i64 ca) (y := .int .i64 sa) (by subst hfx1; simp)
    have u1_1_0 := Sv.fix0 (B := w.heap.size) (o := w) (fx := fx1) (op := op1) (k := (w.heap.size + 1)) (x := .int .i64 cb) (y := .int .i64 sb) (by subst hfx1; simp)
    have u1_1_1 := Sv.fix1 (B := w.heap.size) (o := w) (fx := fx1) (op := op1) (k := (w.heap.size + 1)) (x := .int .i64 cb) (y := .int .i64 sb) (by subst hfx1; simp)
    have mf1_0 : (w.heap.size, .int .i64 ca, .int .i64 sa) ∈ fx1 := by subst hfx1; simp
    have mf1_1 : ((w.heap.size + 1), .int .i64 cb, .int .i64 sb) ∈ fx1 := by subst hfx1; simp
    obtain ⟨G1_0, H1_0, g1_0_0, g1_0_1, g1_0_2, g1_0_3⟩ := Sv.get (B := w.heap.size) (o := w) (fx := fx1) (op := op1) (k := (w.heap.size + 1 + 1)) (by subst hop1; simp)
    have n1_0 : ∀ t ∈ fx1, (w.heap.size + 1 + 1) ≠ t.1 := by
      subst hfx1
      intro t ht
      simp only [List.mem_cons, List.not_mem_nil, or_false] at ht
      rcases ht with rfl | rfl <;> simp <;> omega
    have o1_0 : (w.heap.size + 1 + 1) ∈ op1 := by subst hop1; simp
    clear hfx1 hop1
    have HS1 := Lib.hid hS1
    clear hS1
    clear p0 p1 p2 p3 q0 q1 q2 q3 p0' p1' p2' p3' q0' q1' q2' q3' r0 r1 r2 r3 r0' r1' r2' r3' bel1 bel2 bk
    go_cut [6] (fun s6 wx => ∃ k6, s6 = .pointer (some ⟨k6, 0, none⟩) ∧ w.heap.size + 3 ≤ k6 ∧ Sv w.heap.size w fx1 op1 wx ∧ Bx wx k6 (.int .u64 x1) (.int .u64 x2))
    case first =>
      go_region_held3 (Sv w.heap.size w fx1 op1) (first | assumption | exact HS1.out.drew | exact Sv.call (by assumption) (by assumption) (Nat.le_refl _) | exact Sv.set1 (Sv.set0 (by assumption) (by omega) n1_0 _) (by omega) n1_0 _ | exact Sv.alloc (by assumption) (Nat.le_refl _) _ | exact Sv.alloc (Hid.out (by assumption)) (Nat.le_refl _) _ | exact Sv.new (by assumption) HS1.out (Nat.le_refl _) _ _)
        (first
          | (go_at_call 16; refine (ten_c T9 _).mono ?_; rintro e wt ⟨rfl, rfl⟩)
          | (go_at_call 15; refine (prd_c P9 _).mono ?_; rintro e wp ⟨rfl, bk⟩; have HK := Lib.hid (Sv.call (b := wp) (by assumption) bk (Nat.le_refl _)); first | (have NB := Lib.hid (Bx.on (bxNewD wk (.int .u64 0) (.int .u64 0) _) bk); obtain ⟨n0, n1, n2, n3⟩ := NB.out) | skip))
      all_goals go_wp2
      all_goals go_meet
      all_goals first
        | exact ⟨wk.heap.size, rfl, HS1.out.lt o1_0, by assumption, Bx.put NB.out _ _⟩
        | exact ⟨wp.heap.size, rfl, HK.out.lt o1_0, by assumption, ⟨by (simp [go_sem] <;> fail), by (simp [go_sem] <;> fail), by (simp [go_sem] <;> fail), by (simp [go_sem] <;> fail)⟩⟩
    case rest =>
    obtain ⟨k6, rfl, hk6, hF1, bx6⟩ := hcut
    clear u1_0_0 u1_0_1 u1_1_0 u1_1_1 g1_0_0 g1_0_1 g1_0_2 g1_0_3
    clear HS1
    obtain ⟨ru, rv, bxr⟩ := hF1.2.2 _ o1_0
    have hS2 := (((Sv.nil (B := w.heap.size) (o := w) (a := wc) (hF1.1)).addf (k := k6) (x := .int .u64 x1) (y := .int .u64 x2) (bx6)).addf (k := (w.heap.size + 1)) (x := .int .i64 cb) (y := .int .i64 sb) (hF1.2.1 _ mf1_1)).addo (k := (w.heap.size + 1 + 1)) (bxr)
    obtain ⟨fx2, hfx2⟩ : ∃ fx : List (Nat × Value × Value), [((w.heap.size + 1), .int .i64 cb, .int .i64 sb), (k6, .int .u64 x1, .int .u64 x2)] = fx := ⟨_, rfl⟩
    obtain ⟨op2, hop2⟩ : ∃ op : List Nat, [(w.heap.size + 1 + 1)] = op := ⟨_, rfl⟩
    rw [hfx2, hop2] at hS2
    have u2_0_0 := Sv.fix0 (B := w.heap.size) (o := w) (fx := fx2) (op := op2) (k := (w.heap.size + 1)) (x := .int .i64 cb) (y := .int .i64 sb) (by subst hfx2; simp)
    have u2_0_1 := Sv.fix1 (B := w.heap.size) (o := w) (fx := fx2) (op := op2) (k := (w.heap.size + 1)) (x := .int .i64 cb) (y := .int .i64 sb) (by subst hfx2; simp)
    have u2_1_0 := Sv.fix0 (B := w.heap.size) (o := w) (fx := fx2) (op := op2) (k := k6) (x := .int .u64 x1) (y := .int .u64 x2) (by subst hfx2; simp)
    have u2_1_1 := Sv.fix1 (B := w.heap.size) (o := w) (fx := fx2) (op := op2) (k := k6) (x := .int .u64 x1) (y := .int .u64 x2) (by subst hfx2; simp)
    have mf2_0 : ((w.heap.size + 1), .int .i64 cb, .int .i64 sb) ∈ fx2 := by subst hfx2; simp
    have mf2_1 : (k6, .int .u64 x1, .int .u64 x2) ∈ fx2 := by subst hfx2; simp
    obtain ⟨G2_0, H2_0, g2_0_0, g2_0_1, g2_0_2, g2_0_3⟩ := Sv.get (B := w.heap.size) (o := w) (fx := fx2) (op := op2) (k := (w.heap.size + 1 + 1)) (by subst hop2; simp)
    have n2_0 : ∀ t ∈ fx2, (w.heap.size + 1 + 1) ≠ t.1 := by
      subst hfx2
      intro t ht
      simp only [List.mem_cons, List.not_mem_nil, or_false] at ht
      rcases ht with rfl | rfl <;> simp <;> omega
    have o2_0 : (w.heap.size + 1 + 1) ∈ op2 := by subst hop2; simp
    clear hfx2 hop2
    have HS2 := Lib.hid hS2
    clear hS2
    clear hF1 bx6 bxr mf1_0 mf1_1 n1_0 o1_0
    go_upto_region 6 with (fail)
    go_cut [7, 8] (fun s7 s8 wx => ∃ k7, s7 = .pointer (some ⟨k7, 0, none⟩) ∧ s8 = .int .u64 0 ∧ w.heap.size + 3 ≤ k7 ∧ k7 ≠ k6 ∧ Sv w.heap.size w fx2 op2 wx ∧ Bx wx k7 (.int .u64 z1) (.int .u64 z2))
    case first =>
      go_region_held3 (Sv w.heap.size w fx2 op2) (first | assumption | exact HS2.out.drew | exact Sv.call (by assumption) (by assumption) (Nat.le_refl _) | exact Sv.set1 (Sv.set0 (by assumption) (by omega) n2_0 _) (by omega) n2_0 _ | exact Sv.alloc (by assumption) (Nat.le_refl _) _ | exact Sv.alloc (Hid.out (by assumption)) (Nat.le_refl _) _ | exact Sv.new (by assumption) HS2.out (Nat.le_refl _) _ _ | exact Sv.new (by assumption) HKs.out (Nat.le_refl _) _ _)
        (first
          | (go_at_call 21; refine (hsz _).mono ?_; rintro e ws ⟨rfl, bk⟩; have HKs := Lib.hid (Sv.call (b := ws) (by assumption) bk (Nat.le_refl _)); first | (have NB := Lib.hid (Bx.on (bxNewD wc (.int .u64 0) (.int .u64 0) _) bk); obtain ⟨n0, n1, n2, n3⟩ := NB.out) | skip)
          | (go_at_call 23; refine (hmg _).mono ?_; rintro e wm ⟨rfl, rfl⟩)
          | (go_at_call 22; refine (hov _).mono ?_; rintro e wo ⟨rfl, bk⟩; have HKo := Lib.hid (Sv.call (b := wo) (by assumption) bk (Nat.le_refl _)); first | (have NB2 := Lib.hid (Bx.on NB.out bk); obtain ⟨n0, n1, n2, n3⟩ := NB2.out) | (have NB2 := Lib.hid (Bx.on (bxNew ws (.int .u64 0) (.int .u64 0) _) bk); obtain ⟨n0, n1, n2, n3⟩ := NB2.out) | skip))
      all_goals go_wp2
      all_goals go_meet
      all_goals first
        | exact ⟨wc.heap.size, rfl, rfl, HS2.out.lt o2_0, HS2.out.ne _ mf2_1, by assumption, Bx.put NB2.out _ _⟩
        | exact ⟨ws.heap.size, rfl, rfl, HKs.out.lt o2_0, HKs.out.ne _ mf2_1, by assumption, Bx.put NB2.out _ _⟩
        | exact ⟨wo.heap.size, rfl, rfl, HKo.out.lt o2_0, HKo.out.ne _ mf2_1, by assumption, bxNew wo _ _ _⟩
    case rest =>
    obtain ⟨k7, rfl, rfl, hk7, hk76, hF2, bx7⟩ := hcut
    clear u2_0_0 u2_0_1 u2_1_0 u2_1_1 g2_0_0 g2_0_1 g2_0_2 g2_0_3
    clear HS2
    obtain ⟨ru, rv, r0, r1, r2, r3⟩ := hF2.2.2 _ o2_0
    go_upto_region 9 with (fail)
    have hS3 := ((((Sv.nil (B := w.heap.size) (o := w) (a := wc) (hF2.1)).addf (k := k7) (x := .int .u64 z1) (y := .int .u64 z2) (bx7)).addf (k := k6) (x := .int .u64 x1) (y := .int .u64 x2) (hF2.2.1 _ mf2_1)).addf (k := (w.heap.size + 1)) (x := .int .i64 cb) (y := .int .i64 sb) (hF2.2.1 _ mf2_0)).addo (k := (w.heap.size + 1 + 1)) ((⟨r0, r1, r2, r3⟩ : Bx _ _ _ _))
    obtain ⟨fx3, hfx3⟩ : ∃ fx : List (Nat × Value × Value), [((w.heap.size + 1), .int .i64 cb, .int .i64 sb), (k6, .int .u64 x1, .int .u64 x2), (k7, .int .u64 z1, .int .u64 z2)] = fx := ⟨_, rfl⟩
    obtain ⟨op3, hop3⟩ : ∃ op : List Nat, [(w.heap.size + 1 + 1)] = op := ⟨_, rfl⟩
    rw [hfx3, hop3] at hS3
    have u3_0_0 := Sv.fix0 (B := w.heap.size) (o := w) (fx := fx3) (op := op3) (k := (w.heap.size + 1)) (x := .int .i64 cb) (y := .int .i64 sb) (by subst hfx3; simp)
    have u3_0_1 := Sv.fix1 (B := w.heap.size) (o := w) (fx := fx3) (op := op3) (k := (w.heap.size + 1)) (x := .int .i64 cb) (y := .int .i64 sb) (by subst hfx3; simp)
    have u3_1_0 := Sv.fix0 (B := w.heap.size) (o := w) (fx := fx3) (op := op3) (k := k6) (x := .int .u64 x1) (y := .int .u64 x2) (by subst hfx3; simp)
    have u3_1_1 := Sv.fix1 (B := w.heap.size) (o := w) (fx := fx3) (op := op3) (k := k6) (x := .int .u64 x1) (y := .int .u64 x2) (by subst hfx3; simp)
    have u3_2_0 := Sv.fix0 (B := w.heap.size) (o := w) (fx := fx3) (op := op3) (k := k7) (x := .int .u64 z1) (y := .int .u64 z2) (by subst hfx3; simp)
    have u3_2_1 := Sv.fix1 (B := w.heap.size) (o := w) (fx := fx3) (op := op3) (k := k7) (x := .int .u64 z1) (y := .int .u64 z2) (by subst hfx3; simp)
    have mf3_0 : ((w.heap.size + 1), .int .i64 cb, .int .i64 sb) ∈ fx3 := by subst hfx3; simp
    have mf3_1 : (k6, .int .u64 x1, .int .u64 x2) ∈ fx3 := by subst hfx3; simp
    have mf3_2 : (k7, .int .u64 z1, .int .u64 z2) ∈ fx3 := by subst hfx3; simp
    obtain ⟨G3_0, H3_0, g3_0_0, g3_0_1, g3_0_2, g3_0_3⟩ := Sv.get (B := w.heap.size) (o := w) (fx := fx3) (op := op3) (k := (w.heap.size + 1 + 1)) (by subst hop3; simp)
    have n3_0 : ∀ t ∈ fx3, (w.heap.size + 1 + 1) ≠ t.1 := by
      subst hfx3
      intro t ht
      simp only [List.mem_cons, List.not_mem_nil, or_false] at ht
      rcases ht with rfl | rfl | rfl <;> simp <;> omega
    have o3_0 : (w.heap.size + 1 + 1) ∈ op3 := by subst hop3; simp
    clear hfx3 hop3
    have HS3 := Lib.hid hS3
    clear hS3
    clear hF2 bx7 r0 r1 r2 r3 mf2_0 mf2_1 n2_0 o2_0
    go_region_held3 (Sv w.heap.size w fx3 op3) (first | assumption | exact HS3.out.drew | exact Sv.call (by assumption) (by assumption) (Nat.le_refl _) | exact Sv.set1 (Sv.set0 (by assumption) (by omega) n3_0 _) (by omega) n3_0 _)
      (first
        | (go_at_call 24; refine (hng _).mono ?_; rintro e wn ⟨rfl, bk⟩))
    rename_i HF
    have HF3 := Lib.hid HF
    obtain ⟨_, _, r0, r1, r2, r3⟩ := HF.2.2 _ o3_0
    obtain ⟨t0, t1, t2, t3⟩ := HF.2.1 _ mf3_2
    clear u3_0_0 u3_0_1 u3_1_0 u3_1_1 u3_2_0 u3_2_1 g3_0_0 g3_0_1 g3_0_2 g3_0_3
    clear HF HS3
    go_wp2_with (go_at_call 14; refine (hh _).mono ?_; rintro e w6 ⟨rfl, b6⟩; obtain ⟨v0, v1, v2, v3⟩ := boxed b6 _ _ _ r0 r1 r2 r3; have bel6 := bT HF3.out.1 b6)
    simp [bodyPost, results, Tryd.results7, go_sem, v0, v1]
    exact (bel6.setCell (by simp; omega) _).setCell (by simp; omega) _
end Nm
end Go.Proofs.YtnlnogchbmpmaaaDoor
