/- NumOrders answers true for every three numbers. -/
import Derived.Test.YtkamjjkpaampcaaDoorNmOpen
import Derived.Test.YtkamjjkpaampcaaDoorNmOrdMath
namespace Go.Proofs.YtkamjjkpaampcaaDoor
open Go.RowKit
namespace Nm
def CM (ca sa cb sb r : Int) : Prop := isB ca sa = true ∧ isB cb sb = true ∧ cmpI (up ca sa 9) (up cb sb 9) = r
theorem cm_c {ca sa cb sb r : Int} (h : CM ca sa cb sb r) (w : World) : Calls Tryd.prog 28 #[.agg #[.int .i64 ca, .int .i64 sa], .agg #[.int .i64 cb, .int .i64 sb]] w fun e w' => e = .returned (.int .i64 r) ∧ Below w.heap.size w w' := by
  obtain ⟨h1, h2, h3⟩ := h
  have := cmp_any ca sa cb sb w
  rw [if_pos ⟨h1, h2⟩, cmp_nine h1 h2, h3] at this
  exact this
set_option maxRecDepth 100000 in
theorem run_eqN (a b c d : Int) (w : World) : (Op.equalIn 10000 23 (.agg #[.int .i64 a, .int .i64 b]) (.agg #[.int .i64 c, .int .i64 d])).run Tryd.prog w = .ok (a == c && b == d) w := by
  by_cases h : a = c <;> by_cases h' : b = d <;> simp [go_sem, h, h']
set_option maxRecDepth 100000 in
set_option maxHeartbeats 16000000 in
theorem numOrders_any (ca sa cb sb cc sc : Int) (w : World) (hT : Tab w.heap.size w) :
    Calls Tryd.prog 7 #[nv ca sa, nv cb sb, nv cc sc] w fun e w' => e = .returned (.bool true) ∧ Below w.heap.size w w' := by
  have hlv : ∀ w', Hid (Below w.heap.size w w') → Calls Tryd.prog 16 #[] w' fun e w'' => e = .returned (.bool true) ∧ Below w'.heap.size w' w'' := fun w' h => lives_any w' (hT.on h.out) h.out.size
  clear hT
  unfold nv
  by_cases ia : isB ca sa = true
  case neg =>
    have ia : isB ca sa = false := by simpa using ia
    go_enter Tryd.func7, Tryd.ntmps7
    go_wp2_with (first | (go_at_call 12; refine (is_c (by first | exact ia) _).mono ?_; rintro e wk ⟨rfl, bk⟩; first | (obtain ⟨p0'', p1'', p2'', p3''⟩ := boxed bk _ _ _ p0' p1' p2' p3'; obtain ⟨q0'', q1'', q2'', q3''⟩ := boxed bk _ _ _ q0' q1' q2' q3'; obtain ⟨r0'', r1'', r2'', r3''⟩ := boxed bk _ _ _ r0' r1' r2' r3'; have bel3 := bT bel2 bk) | (obtain ⟨p0', p1', p2', p3'⟩ := boxed bk _ _ _ p0 p1 p2 p3; obtain ⟨q0', q1', q2', q3'⟩ := boxed bk _ _ _ q0 q1 q2 q3; obtain ⟨r0', r1', r2', r3'⟩ := boxed bk _ _ _ r0 r1 r2 r3; have bel2 := bT bel1 bk) | (obtain ⟨p0, p1, p2, p3⟩ := boxed bk w.heap.size (.int .i64 ca) (.int .i64 sa) (by simp [go_sem]) (by simp [go_sem]) (by simp [go_sem]) (by simp [go_sem]); obtain ⟨q0, q1, q2, q3⟩ := boxed bk (w.heap.size + 1) (.int .i64 cb) (.int .i64 sb) (by simp [go_sem]) (by simp [go_sem]) (by simp [go_sem]) (by simp [go_sem]); obtain ⟨r0, r1, r2, r3⟩ := boxed bk (w.heap.size + 1 + 1) (.int .i64 cc) (.int .i64 sc) (by simp [go_sem]) (by simp [go_sem]) (by simp [go_sem]) (by simp [go_sem]); have bel1 := bT (bA3 _ _ _ _) bk)) | (go_at_call 16; refine (hlv _ (Lib.hid bel1)).mono ?_; rintro e wl ⟨rfl, bl⟩; have bell := bT (bel1) bl))
    go_ret
    exact ⟨rfl, bell⟩
  by_cases ib : isB cb sb = true
  case neg =>
    have ib : isB cb sb = false := by simpa using ib
    go_enter Tryd.func7, Tryd.ntmps7
    go_wp2_with (first | (go_at_call 12; refine (is_c (by first | exact ia | exact ib) _).mono ?_; rintro e wk ⟨rfl, bk⟩; first | (obtain ⟨p0'', p1'', p2'', p3''⟩ := boxed bk _ _ _ p0' p1' p2' p3'; obtain ⟨q0'', q1'', q2'', q3''⟩ := boxed bk _ _ _ q0' q1' q2' q3'; obtain ⟨r0'', r1'', r2'', r3''⟩ := boxed bk _ _ _ r0' r1' r2' r3'; have bel3 := bT bel2 bk) | (obtain ⟨p0', p1', p2', p3'⟩ := boxed bk _ _ _ p0 p1 p2 p3; obtain ⟨q0', q1', q2', q3'⟩ := boxed bk _ _ _ q0 q1 q2 q3; obtain ⟨r0', r1', r2', r3'⟩ := boxed bk _ _ _ r0 r1 r2 r3; have bel2 := bT bel1 bk) | (obtain ⟨p0, p1, p2, p3⟩ := boxed bk w.heap.size (.int .i64 ca) (.int .i64 sa) (by simp [go_sem]) (by simp [go_sem]) (by simp [go_sem]) (by simp [go_sem]); obtain ⟨q0, q1, q2, q3⟩ := boxed bk (w.heap.size + 1) (.int .i64 cb) (.int .i64 sb) (by simp [go_sem]) (by simp [go_sem]) (by simp [go_sem]) (by simp [go_sem]); obtain ⟨r0, r1, r2, r3⟩ := boxed bk (w.heap.size + 1 + 1) (.int .i64 cc) (.int .i64 sc) (by simp [go_sem]) (by simp [go_sem]) (by simp [go_sem]) (by simp [go_sem]); have bel1 := bT (bA3 _ _ _ _) bk)) | (go_at_call 16; refine (hlv _ (Lib.hid bel2)).mono ?_; rintro e wl ⟨rfl, bl⟩; have bell := bT (bel2) bl))
    go_ret
    exact ⟨rfl, bell⟩
  by_cases ic : isB cc sc = true
  case neg =>
    have ic : isB cc sc = false := by simpa using ic
    go_enter Tryd.func7, Tryd.ntmps7
    go_wp2_with (first | (go_at_call 12; refine (is_c (by first | exact ia | exact ib | exact ic) _).mono ?_; rintro e wk ⟨rfl, bk⟩; first | (obtain ⟨p0'', p1'', p2'', p3''⟩ := boxed bk _ _ _ p0' p1' p2' p3'; obtain ⟨q0'', q1'', q2'', q3''⟩ := boxed bk _ _ _ q0' q1' q2' q3'; obtain ⟨r0'', r1'', r2'', r3''⟩ := boxed bk _ _ _ r0' r1' r2' r3'; have bel3 := bT bel2 bk) | (obtain ⟨p0', p1', p2', p3'⟩ := boxed bk _ _ _ p0 p1 p2 p3; obtain ⟨q0', q1', q2', q3'⟩ := boxed bk _ _ _ q0 q1 q2 q3; obtain ⟨r0', r1', r2', r3'⟩ := boxed bk _ _ _ r0 r1 r2 r3; have bel2 := bT bel1 bk) | (obtain ⟨p0, p1, p2, p3⟩ := boxed bk w.heap.size (.int .i64 ca) (.int .i64 sa) (by simp [go_sem]) (by simp [go_sem]) (by simp [go_sem]) (by simp [go_sem]); obtain ⟨q0, q1, q2, q3⟩ := boxed bk (w.heap.size + 1) (.int .i64 cb) (.int .i64 sb) (by simp [go_sem]) (by simp [go_sem]) (by simp [go_sem]) (by simp [go_sem]); obtain ⟨r0, r1, r2, r3⟩ := boxed bk (w.heap.size + 1 + 1) (.int .i64 cc) (.int .i64 sc) (by simp [go_sem]) (by simp [go_sem]) (by simp [go_sem]) (by simp [go_sem]); have bel1 := bT (bA3 _ _ _ _) bk)) | (go_at_call 16; refine (hlv _ (Lib.hid bel3)).mono ?_; rintro e wl ⟨rfl, bl⟩; have bell := bT (bel3) bl))
    go_ret
    exact ⟨rfl, bell⟩
  obtain ⟨r1, h1⟩ : ∃ r, cmpI (up ca sa 9) (up cb sb 9) = r := ⟨_, rfl⟩
  obtain ⟨r2, h2⟩ : ∃ r, cmpI (up cb sb 9) (up cc sc 9) = r := ⟨_, rfl⟩
  obtain ⟨r3, h3⟩ : ∃ r, cmpI (up ca sa 9) (up cc sc 9) = r := ⟨_, rfl⟩
  have M1 : CM ca sa cb sb r1 := ⟨ia, ib, h1⟩
  have M2 : CM cb sb cc sc r2 := ⟨ib, ic, h2⟩
  have M3 : CM ca sa cc sc r3 := ⟨ia, ic, h3⟩
  have heq := fun w => run_eqN ca sa cb sb w
  obtain ⟨q, hq⟩ : ∃ q : Bool, (ca == cb && sa == sb) = q := ⟨_, rfl⟩
  rw [hq] at heq
  have hqr : q = true ↔ r1 = 0 := by
    rw [← hq, Bool.and_eq_true, beq_iff_eq, beq_iff_eq]
    constructor
    · rintro ⟨rfl, rfl⟩
      rw [← h1]; unfold cmpI; rw [if_pos rfl]
    · intro h
      have := cmp_form (up ca sa 9) (up cb sb 9)
      rw [h1] at this
      exact canon ia ib (by omega)
  have hcan : r1 = 0 → ca = cb ∧ sa = sb := fun h => by
    have := hqr.2 h
    rw [← hq, Bool.and_eq_true, beq_iff_eq, beq_iff_eq] at this
    exact this
  have hqd := hq
  have ho : (r1 = -1 ∨ r1 = 0 ∨ r1 = 1) ∧ (r2 = -1 ∨ r2 = 0 ∨ r2 = 1) ∧ (r3 = -1 ∨ r3 = 0 ∨ r3 = 1) ∧ (r1 ≤ 0 → r2 ≤ 0 → r3 ≤ 0) ∧ (r1 < 0 → r2 ≤ 0 → r3 < 0) := by
    have a1 := cmp_form (up ca sa 9) (up cb sb 9)
    have a2 := cmp_form (up cb sb 9) (up cc sc 9)
    have a3 := cmp_form (up ca sa 9) (up cc sc 9)
    rw [h1] at a1
    rw [h2] at a2
    rw [h3] at a3
    omega
  have hsub := fun w => sub_any ca sa cb sb w
  have hcs : cmpI (up ca sa (mx sa sb) - up cb sb (mx sa sb)) 0 = r1 := by rw [cmp_sub, cmp_nine ia ib, h1]
  rw [if_pos ⟨ia, ib⟩] at hsub
  unfold nv at hsub
  have HS : Hid (∀ c t, hold (up ca sa (mx sa sb) - up cb sb (mx sa sb)) (mx sa sb) = some (c, t) → CM c t 0 0 r1) := Lib.hid (fun c t h => ⟨(hold_ok h).1, by decide, by
    have e := cmp_nine (hold_ok h).1 (show isB 0 0 = true by decide)
    rw [up_zero, up_self, up_zero] at e
    rw [up_zero, ← e, hold_sign h, hcs]⟩)
  generalize hold (up ca sa (mx sa sb) - up cb sb (mx sa sb)) (mx sa sb) = O at *
  clear h1 h2 h3 hq hcs
  go_enter Tryd.func7, Tryd.ntmps7
  go_upto_region 3 with (go_at_call 12; refine (is_c (by first | exact ia | exact ib | exact ic) _).mono ?_; rintro e wk ⟨rfl, bk⟩; first | (obtain ⟨p0'', p1'', p2'', p3''⟩ := boxed bk _ _ _ p0' p1' p2' p3'; obtain ⟨q0'', q1'', q2'', q3''⟩ := boxed bk _ _ _ q0' q1' q2' q3'; obtain ⟨r0'', r1'', r2'', r3''⟩ := boxed bk _ _ _ r0' r1' r2' r3'; have bel3 := bT bel2 bk) | (obtain ⟨p0', p1', p2', p3'⟩ := boxed bk _ _ _ p0 p1 p2 p3; obtain ⟨q0', q1', q2', q3'⟩ := boxed bk _ _ _ q0 q1 q2 q3; obtain ⟨r0', r1', r2', r3'⟩ := boxed bk _ _ _ r0 r1 r2 r3; have bel2 := bT bel1 bk) | (obtain ⟨p0, p1, p2, p3⟩ := boxed bk w.heap.size (.int .i64 ca) (.int .i64 sa) (by simp [go_sem]) (by simp [go_sem]) (by simp [go_sem]) (by simp [go_sem]); obtain ⟨q0, q1, q2, q3⟩ := boxed bk (w.heap.size + 1) (.int .i64 cb) (.int .i64 sb) (by simp [go_sem]) (by simp [go_sem]) (by simp [go_sem]) (by simp [go_sem]); obtain ⟨r0, r1, r2, r3⟩ := boxed bk (w.heap.size + 1 + 1) (.int .i64 cc) (.int .i64 sc) (by simp [go_sem]) (by simp [go_sem]) (by simp [go_sem]) (by simp [go_sem]); have bel1 := bT (bA3 _ _ _ _) bk))
  have hS1 := (((Sv.nil (B := w.heap.size) (o := w) (a := wk) (bel3)).addf (k := (w.heap.size + 1 + 1)) (x := .int .i64 cc) (y := .int .i64 sc) ((⟨r0'', r1'', r2'', r3''⟩ : Bx _ _ _ _))).addf (k := (w.heap.size + 1)) (x := .int .i64 cb) (y := .int .i64 sb) ((⟨q0'', q1'', q2'', q3''⟩ : Bx _ _ _ _))).addf (k := w.heap.size) (x := .int .i64 ca) (y := .int .i64 sa) ((⟨p0'', p1'', p2'', p3''⟩ : Bx _ _ _ _))
  obtain ⟨fx1, hfx1⟩ : ∃ fx : List (Nat × Value × Value), [(w.heap.size, .int .i64 ca, .int .i64 sa), ((w.heap.size + 1), .int .i64 cb, .int .i64 sb), ((w.heap.size + 1 + 1), .int .i64 cc, .int .i64 sc)] = fx := ⟨_, rfl⟩
  obtain ⟨op1, hop1⟩ : ∃ op : List Nat, [] = op := ⟨_, rfl⟩
  rw [hfx1, hop1] at hS1
  have u1_0_0 := Sv.fix0 (B := w.heap.size) (o := w) (fx := fx1) (op := op1) (k := w.heap.size) (x := .int .i64 ca) (y := .int .i64 sa) (by subst hfx1; simp)
  have u1_0_1 := Sv.fix1 (B := w.heap.size) (o := w) (fx := fx1) (op := op1) (k := w.heap.size) (x := .int .i64 ca) (y := .int .i64 sa) (by subst hfx1; simp)
  have u1_1_0 := Sv.fix0 (B := w.heap.size) (o := w) (fx := fx1) (op := op1) (k := (w.heap.size + 1)) (x := .int .i64 cb) (y := .int .i64 sb) (by subst hfx1; simp)
  have u1_1_1 := Sv.fix1 (B := w.heap.size) (o := w) (fx := fx1) (op := op1) (k := (w.heap.size + 1)) (x := .int .i64 cb) (y := .int .i64 sb) (by subst hfx1; simp)
  have u1_2_0 := Sv.fix0 (B := w.heap.size) (o := w) (fx := fx1) (op := op1) (k := (w.heap.size + 1 + 1)) (x := .int .i64 cc) (y := .int .i64 sc) (by subst hfx1; simp)
  have u1_2_1 := Sv.fix1 (B := w.heap.size) (o := w) (fx := fx1) (op := op1) (k := (w.heap.size + 1 + 1)) (x := .int .i64 cc) (y := .int .i64 sc) (by subst hfx1; simp)
  have mf1_0 : (w.heap.size, .int .i64 ca, .int .i64 sa) ∈ fx1 := by subst hfx1; simp
  have mf1_1 : ((w.heap.size + 1), .int .i64 cb, .int .i64 sb) ∈ fx1 := by subst hfx1; simp
  have mf1_2 : ((w.heap.size + 1 + 1), .int .i64 cc, .int .i64 sc) ∈ fx1 := by subst hfx1; simp
  clear hfx1 hop1
  have HS1 := Lib.hid hS1
  clear hS1
  clear p0 p0' p0'' p1 p1' p1'' p2 p2' p2'' p3 p3' p3'' q0 q0' q0'' q1 q1' q1'' q2 q2' q2'' q3 q3' q3'' r0 r0' r0'' r1 r1' r1'' r2 r2' r2'' r3 r3' r3'' bel1 bel2 bk
  clear bel3
  go_region_held3 (Sv w.heap.size w fx1 op1) (first | assumption | exact HS1.out.drew | exact Sv.call (by assumption) (by assumption) (Nat.le_refl _))
    (first
      | (go_at_call 28; refine (cm_c (by first | exact M1 | exact M2 | exact M3) _).mono ?_; rintro e wc ⟨rfl, bk⟩))
  rename_i HF
  have HF3 := Lib.hid HF
  obtain ⟨p0, p1, p2, p3⟩ := HF.2.1 _ mf1_0
  obtain ⟨q0, q1, q2, q3⟩ := HF.2.1 _ mf1_1
  clear u1_0_0 u1_0_1 u1_1_0 u1_1_1 u1_2_0 u1_2_1
  clear HF HS1 M1 M2 M3 mf1_0 mf1_1 mf1_2
  obtain ⟨v1, v2, v3, c1, c2⟩ := ho
  by_cases g1 : r1 = 0
  · obtain ⟨rfl, rfl⟩ := hcan g1
    subst g1
    have hqt : q = true := hqr.2 rfl
    subst hqt
    clear hqr hcan
    by_cases g2 : r2 ≤ 0
    · have g3 : r3 ≤ 0 := c1 (by omega) g2
      clear c1 c2
      cases O with
      | none =>
        unfold ans nv at hsub
        simp only at hsub
        go_wp2_with (first | (go_at_call 29; refine (hsub _).mono ?_; rintro e ws ⟨rfl, bs⟩; have bels := bT HF3.out.1 bs) | (go_at_call 16; refine (hlv _ (Lib.hid bels.alloc bels.size _)).mono ?_; rintro e wl ⟨rfl, bl⟩; have bell := bT (bels.alloc bels.size _) bl))
        go_ret
        exact ⟨rfl, bell⟩
      | some y =>
        obtain ⟨c, t⟩ := y
        have M4 := HS.out c t rfl
        unfold ans nv at hsub
        simp only at hsub
        go_wp2_with (first | (go_at_call 29; refine (hsub _).mono ?_; rintro e ws ⟨rfl, bs⟩; have bels := bT HF3.out.1 bs) | (go_at_call 28; refine (cm_c M4 _).mono ?_; rintro e wc ⟨rfl, bc⟩; have belc := bT (bels.alloc bels.size _) bc) | (go_at_call 16; refine (hlv _ (Lib.hid belc)).mono ?_; rintro e wl ⟨rfl, bl⟩; have bell := bT (belc) bl))
        go_ret
        exact ⟨rfl, bell⟩
    · clear c1 c2
      cases O with
      | none =>
        unfold ans nv at hsub
        simp only at hsub
        go_wp2_with (first | (go_at_call 29; refine (hsub _).mono ?_; rintro e ws ⟨rfl, bs⟩; have bels := bT HF3.out.1 bs) | (go_at_call 16; refine (hlv _ (Lib.hid bels.alloc bels.size _)).mono ?_; rintro e wl ⟨rfl, bl⟩; have bell := bT (bels.alloc bels.size _) bl))
        go_ret
        exact ⟨rfl, bell⟩
      | some y =>
        obtain ⟨c, t⟩ := y
        have M4 := HS.out c t rfl
        unfold ans nv at hsub
        simp only at hsub
        go_wp2_with (first | (go_at_call 29; refine (hsub _).mono ?_; rintro e ws ⟨rfl, bs⟩; have bels := bT HF3.out.1 bs) | (go_at_call 28; refine (cm_c M4 _).mono ?_; rintro e wc ⟨rfl, bc⟩; have belc := bT (bels.alloc bels.size _) bc) | (go_at_call 16; refine (hlv _ (Lib.hid belc)).mono ?_; rintro e wl ⟨rfl, bl⟩; have bell := bT (belc) bl))
        go_ret
        exact ⟨rfl, bell⟩
  have hne : ¬ (ca = cb ∧ sa = sb) := fun e => g1 (hqr.1 (by rw [← hqd, e.1, e.2]; simp))
  have hqt : q = false := by
    cases q with
    | false => rfl
    | true => exact (g1 (hqr.1 rfl)).elim
  subst hqt
  have g1' : (r1 == 0) = false := by simp; exact g1
  clear hqr hcan hqd
  by_cases g4 : r1 = 1
  · subst g4
    clear c1 c2
    by_cases hab : ca = cb
    · have hss : sa ≠ sb := fun e => hne ⟨hab, e⟩
      subst hab
      cases O with
      | none =>
        unfold ans nv at hsub
        simp only at hsub
        go_wp2_with (first | (go_at_call 29; refine (hsub _).mono ?_; rintro e ws ⟨rfl, bs⟩; have bels := bT HF3.out.1 bs) | (go_at_call 16; refine (hlv _ (Lib.hid bels.alloc bels.size _)).mono ?_; rintro e wl ⟨rfl, bl⟩; have bell := bT (bels.alloc bels.size _) bl))
        go_ret
        exact ⟨rfl, bell⟩
      | some y =>
        obtain ⟨c, t⟩ := y
        have M4 := HS.out c t rfl
        unfold ans nv at hsub
        simp only at hsub
        go_wp2_with (first | (go_at_call 29; refine (hsub _).mono ?_; rintro e ws ⟨rfl, bs⟩; have bels := bT HF3.out.1 bs) | (go_at_call 28; refine (cm_c M4 _).mono ?_; rintro e wc ⟨rfl, bc⟩; have belc := bT (bels.alloc bels.size _) bc) | (go_at_call 16; refine (hlv _ (Lib.hid belc)).mono ?_; rintro e wl ⟨rfl, bl⟩; have bell := bT (belc) bl))
        go_ret
        exact ⟨rfl, bell⟩
    cases O with
    | none =>
      unfold ans nv at hsub
      simp only at hsub
      go_wp2_with (first | (go_at_call 29; refine (hsub _).mono ?_; rintro e ws ⟨rfl, bs⟩; have bels := bT HF3.out.1 bs) | (go_at_call 16; refine (hlv _ (Lib.hid bels.alloc bels.size _)).mono ?_; rintro e wl ⟨rfl, bl⟩; have bell := bT (bels.alloc bels.size _) bl))
      go_ret
      exact ⟨rfl, bell⟩
    | some y =>
      obtain ⟨c, t⟩ := y
      have M4 := HS.out c t rfl
      unfold ans nv at hsub
      simp only at hsub
      go_wp2_with (first | (go_at_call 29; refine (hsub _).mono ?_; rintro e ws ⟨rfl, bs⟩; have bels := bT HF3.out.1 bs) | (go_at_call 28; refine (cm_c M4 _).mono ?_; rintro e wc ⟨rfl, bc⟩; have belc := bT (bels.alloc bels.size _) bc) | (go_at_call 16; refine (hlv _ (Lib.hid belc)).mono ?_; rintro e wl ⟨rfl, bl⟩; have bell := bT (belc) bl))
      go_ret
      exact ⟨rfl, bell⟩
  obtain rfl : r1 = -1 := by omega
  by_cases g2 : r2 ≤ 0
  · have g3 : r3 < 0 := c2 (by omega) g2
    clear c1 c2
    by_cases hab : ca = cb
    · have hss : sa ≠ sb := fun e => hne ⟨hab, e⟩
      subst hab
      cases O with
      | none =>
        unfold ans nv at hsub
        simp only at hsub
        go_wp2_with (first | (go_at_call 29; refine (hsub _).mono ?_; rintro e ws ⟨rfl, bs⟩; have bels := bT HF3.out.1 bs) | (go_at_call 16; refine (hlv _ (Lib.hid bels.alloc bels.size _)).mono ?_; rintro e wl ⟨rfl, bl⟩; have bell := bT (bels.alloc bels.size _) bl))
        go_ret
        exact ⟨rfl, bell⟩
      | some y =>
        obtain ⟨c, t⟩ := y
        have M4 := HS.out c t rfl
        unfold ans nv at hsub
        simp only at hsub
        go_wp2_with (first | (go_at_call 29; refine (hsub _).mono ?_; rintro e ws ⟨rfl, bs⟩; have bels := bT HF3.out.1 bs) | (go_at_call 28; refine (cm_c M4 _).mono ?_; rintro e wc ⟨rfl, bc⟩; have belc := bT (bels.alloc bels.size _) bc) | (go_at_call 16; refine (hlv _ (Lib.hid belc)).mono ?_; rintro e wl ⟨rfl, bl⟩; have bell := bT (belc) bl))
        go_ret
        exact ⟨rfl, bell⟩
    cases O with
    | none =>
      unfold ans nv at hsub
      simp only at hsub
      go_wp2_with (first | (go_at_call 29; refine (hsub _).mono ?_; rintro e ws ⟨rfl, bs⟩; have bels := bT HF3.out.1 bs) | (go_at_call 16; refine (hlv _ (Lib.hid bels.alloc bels.size _)).mono ?_; rintro e wl ⟨rfl, bl⟩; have bell := bT (bels.alloc bels.size _) bl))
      go_ret
      exact ⟨rfl, bell⟩
    | some y =>
      obtain ⟨c, t⟩ := y
      have M4 := HS.out c t rfl
      unfold ans nv at hsub
      simp only at hsub
      go_wp2_with (first | (go_at_call 29; refine (hsub _).mono ?_; rintro e ws ⟨rfl, bs⟩; have bels := bT HF3.out.1 bs) | (go_at_call 28; refine (cm_c M4 _).mono ?_; rintro e wc ⟨rfl, bc⟩; have belc := bT (bels.alloc bels.size _) bc) | (go_at_call 16; refine (hlv _ (Lib.hid belc)).mono ?_; rintro e wl ⟨rfl, bl⟩; have bell := bT (belc) bl))
      go_ret
      exact ⟨rfl, bell⟩
  clear c1 c2
  by_cases hab : ca = cb
  · have hss : sa ≠ sb := fun e => hne ⟨hab, e⟩
    subst hab
    cases O with
    | none =>
      unfold ans nv at hsub
      simp only at hsub
      go_wp2_with (first | (go_at_call 29; refine (hsub _).mono ?_; rintro e ws ⟨rfl, bs⟩; have bels := bT HF3.out.1 bs) | (go_at_call 16; refine (hlv _ (Lib.hid bels.alloc bels.size _)).mono ?_; rintro e wl ⟨rfl, bl⟩; have bell := bT (bels.alloc bels.size _) bl))
      go_ret
      exact ⟨rfl, bell⟩
    | some y =>
      obtain ⟨c, t⟩ := y
      have M4 := HS.out c t rfl
      unfold ans nv at hsub
      simp only at hsub
      go_wp2_with (first | (go_at_call 29; refine (hsub _).mono ?_; rintro e ws ⟨rfl, bs⟩; have bels := bT HF3.out.1 bs) | (go_at_call 28; refine (cm_c M4 _).mono ?_; rintro e wc ⟨rfl, bc⟩; have belc := bT (bels.alloc bels.size _) bc) | (go_at_call 16; refine (hlv _ (Lib.hid belc)).mono ?_; rintro e wl ⟨rfl, bl⟩; have bell := bT (belc) bl))
      go_ret
      exact ⟨rfl, bell⟩
  cases O with
  | none =>
    unfold ans nv at hsub
    simp only at hsub
    go_wp2_with (first | (go_at_call 29; refine (hsub _).mono ?_; rintro e ws ⟨rfl, bs⟩; have bels := bT HF3.out.1 bs) | (go_at_call 16; refine (hlv _ (Lib.hid bels.alloc bels.size _)).mono ?_; rintro e wl ⟨rfl, bl⟩; have bell := bT (bels.alloc bels.size _) bl))
    go_ret
    exact ⟨rfl, bell⟩
  | some y =>
    obtain ⟨c, t⟩ := y
    have M4 := HS.out c t rfl
    unfold ans nv at hsub
    simp only at hsub
    go_wp2_with (first | (go_at_call 29; refine (hsub _).mono ?_; rintro e ws ⟨rfl, bs⟩; have bels := bT HF3.out.1 bs) | (go_at_call 28; refine (cm_c M4 _).mono ?_; rintro e wc ⟨rfl, bc⟩; have belc := bT (bels.alloc bels.size _) bc) | (go_at_call 16; refine (hlv _ (Lib.hid belc)).mono ?_; rintro e wl ⟨rfl, bl⟩; have bell := bT (belc) bl))
    go_ret
    exact ⟨rfl, bell⟩
end Nm
end Go.Proofs.YtkamjjkpaampcaaDoor
