/- NumDivides answers true for every two numbers. -/
import Derived.Test.YtkbmaimocoljeaaDoorNrDiv
import Derived.Test.YtkbmaimocoljeaaDoorNrText
import Derived.Test.YtkbmaimocoljeaaDoorNmMod
import Derived.Test.YtkbmaimocoljeaaDoorNmOpen
namespace Go.Proofs.YtkbmaimocoljeaaDoor
open Go.RowKit
namespace Nm
theorem Bx.dN {a : World} {k : Nat} {x y : Value} (h : Bx a k x y) (n : Nat) : Bx (a.drewN n) k x y := h
theorem run_eqV (a b : Int) (w : World) : (Op.equalIn 10000 23 (.agg #[.int .i64 a, .int .i64 b]) (.agg #[.int .i64 a, .int .i64 b])).run Tryd.prog w = .ok true w := by
  simp [go_sem]
set_option maxRecDepth 100000 in
set_option maxHeartbeats 1000000 in
theorem refDiv_zero (ca sa cb sb : Int) (w : World) (hb0 : cb = 0) :
    Calls Tryd.prog 17 #[.agg #[.int .i64 ca, .int .i64 sa], .agg #[.int .i64 cb, .int .i64 sb]] w fun e w' => e = .returned (ans (divO ca sa cb sb)) ∧ Below w.heap.size w w' := by
  subst hb0
  have E : Hid (divO ca sa 0 sb = none) := Lib.hid (by unfold divO; rw [if_pos rfl])
  go_enter Tryd.func17, Tryd.ntmps17
  go_wp2
  simp [bodyPost, results, Tryd.results17, go_sem]
  exact ⟨by rw [E.out]; rfl, bA3 _ _ _ _⟩
theorem strip_le : ∀ (s c : Nat), (strip s c).1 ≤ c ∧ (strip s c).2 ≤ s
  | 0, c => ⟨Nat.le_refl _, Nat.le_refl _⟩
  | s + 1, c => by
    unfold strip
    split
    · have := strip_le s (c / 10)
      omega
    · exact ⟨Nat.le_refl _, Nat.le_refl _⟩
/-- what is above the greatest whole number below -/
theorem flo_rest {ca sa : Int} (ia : isB ca sa = true) : isB (flo ca sa) 0 = true ∧ ∃ (dx : Int) (dy : Nat), hold (up ca sa (mx sa 0) - up (flo ca sa) 0 (mx sa 0)) (mx sa 0) = some (dx, dy) ∧ isB dx (dy : Int) = true ∧
    0 ≤ cmpI (up dx (dy : Int) (mx (dy : Int) 0)) (up 0 0 (mx (dy : Int) 0)) ∧ cmpI (up dx (dy : Int) (mx (dy : Int) 0)) (up 1 0 (mx (dy : Int) 0)) < 0 := by
  have hi := isB_iff.1 ia
  obtain ⟨n, rfl⟩ := Int.eq_ofNat_of_zero_le hi.1.1
  have hm : mx (n : Int) 0 = n := by unfold mx; omega
  have hT1 := tenI n (by omega)
  have hT9 : 10 ^ n ≤ 10 ^ 9 := Nat.pow_le_pow_right (by decide) (by omega)
  obtain ⟨T, hT⟩ : ∃ T : Nat, 10 ^ n = T := ⟨_, rfl⟩
  have hflo : flo ca (n : Int) = ca / (T : Int) := by unfold flo; rw [show ((n : Int)).toNat = n by omega, hT]
  have hD : up ca (n : Int) n - up (flo ca (n : Int)) 0 n = ca % (T : Int) := by
    unfold up
    rw [show n - ((n : Int)).toNat = 0 by omega, show n - (0 : Int).toNat = n by omega, hT, hflo]
    have := Int.mul_ediv_add_emod ca (T : Int)
    have e : ca / (T : Int) * (T : Int) = (T : Int) * (ca / (T : Int)) := Int.mul_comm _ _
    rw [e]
    simp
    omega
  rw [hT] at hT1 hT9
  have hr0 := Int.emod_nonneg ca (show (T : Int) ≠ 0 by omega)
  have hr1 := Int.emod_lt_of_pos ca (show (0 : Int) < T by omega)
  refine ⟨?_, ?_⟩
  · rw [hflo]
    have h1 := Int.natAbs_ediv_le_natAbs ca (T : Int)
    refine isB_iff.2 ⟨by omega, ?_, Or.inl rfl⟩
    have h2 := Int.mul_ediv_add_emod ca (T : Int)
    by_cases h10 : T = 1
    · subst h10; simp; omega
    · have hTn : 2 ≤ T := by omega
      obtain ⟨u, hu⟩ : ∃ u, ca / (T : Int) = u := ⟨_, rfl⟩
      rw [hu] at h1 h2 ⊢
      omega
  · rw [hm, hD]
    have hst := strip_le n (ca % (T : Int)).natAbs
    have hh : hold (ca % (T : Int)) n = some (((strip n (ca % (T : Int)).natAbs).1 : Int), (strip n (ca % (T : Int)).natAbs).2) := by
      unfold hold
      rw [if_neg (by omega), if_neg (by omega)]
    obtain ⟨u, hu⟩ : ∃ u, (strip n (ca % (T : Int)).natAbs).1 = u := ⟨_, rfl⟩
    obtain ⟨v, hv⟩ : ∃ v, (strip n (ca % (T : Int)).natAbs).2 = v := ⟨_, rfl⟩
    rw [hu, hv] at hh
    obtain ⟨g1, g2, g3⟩ := hold_ok hh
    refine ⟨(u : Int), v, hh, g1, ?_⟩
    have hmv : mx (v : Int) 0 = v := by unfold mx; omega
    have hu1 : up (u : Int) (v : Int) v = u := by unfold up; rw [show v - ((v : Int)).toNat = 0 by omega]; simp
    have hu0 : up 0 0 v = 0 := by unfold up; simp
    have hu2 : up 1 0 v = ((10 ^ v : Nat) : Int) := by unfold up; rw [show v - (0 : Int).toNat = v by omega]; simp
    rw [hmv, hu1, hu0, hu2]
    have hlt : u < 10 ^ v := by
      have e : 10 ^ v * 10 ^ (n - v) = T := by rw [← Nat.pow_add, show v + (n - v) = n by omega, hT]
      have e2 : u * 10 ^ (n - v) < T := by
        have : ((u * 10 ^ (n - v) : Nat) : Int) = ca % (T : Int) := by rw [g3, Int.natCast_mul]
        omega
      rw [← e] at e2
      exact Nat.lt_of_mul_lt_mul_right e2
    unfold cmpI
    constructor
    · split
      · omega
      · rw [if_neg (by omega)]; omega
    · rw [if_neg (by omega), if_pos (by omega)]; omega
set_option maxRecDepth 100000 in
set_option maxHeartbeats 16000000 in
theorem numDivides_any (ca sa cb sb : Int) (w : World) (hT : Tab w.heap.size w) :
    Calls Tryd.prog 5 #[nv ca sa, nv cb sb] w fun e w' => e = .returned (.bool true) ∧ Below w.heap.size w w' := by
  unfold nv
  have hlv : ∀ w', Hid (Below w.heap.size w w') → Calls Tryd.prog 13 #[] w' fun e w'' => e = .returned (.bool true) ∧ Below w'.heap.size w' w'' := fun w' h => lives_any w' (hT.on h.out) h.out.size
  have hisA := fun w => refIs_any ca sa w
  have hisB := fun w => refIs_any cb sb w
  unfold nv at hisA hisB
  clear hT
  by_cases ia : isB ca sa = true
  case neg =>
    have ia : isB ca sa = false := by simpa using ia
    rw [ia] at hisA
    clear ia hisB
    go_enter Tryd.func5, Tryd.ntmps5
    go_wp2_with (first | (go_at_call 10; ((with_reducible refine (hisA _).mono ?_)); rintro e0 w1 ⟨rfl, k1⟩; obtain ⟨a1_0, a1_1, a1_2, a1_3⟩ := boxed k1 (w.heap.size) (.int .i64 ca) (.int .i64 sa) (by simp [go_sem]) (by simp [go_sem]) (by simp [go_sem]) (by simp [go_sem]); obtain ⟨b1_0, b1_1, b1_2, b1_3⟩ := boxed k1 (w.heap.size + 1) (.int .i64 cb) (.int .i64 sb) (by simp [go_sem]) (by simp [go_sem]) (by simp [go_sem]) (by simp [go_sem]); have bel1 := bT (bA2 _ _ _) k1) | (go_at_call 13; refine (hlv _ (Lib.hid (bel1))).mono ?_; rintro e0 wl ⟨rfl, bl⟩; have bell := bT (bel1) bl))
    go_ret
    exact ⟨rfl, bell⟩
  by_cases ib : isB cb sb = true
  case neg =>
    have ib : isB cb sb = false := by simpa using ib
    rw [ia] at hisA
    rw [ib] at hisB
    clear ia ib
    go_enter Tryd.func5, Tryd.ntmps5
    go_wp2_with (first | (go_at_call 10; ((with_reducible refine (hisA _).mono ?_)); rintro e0 w1 ⟨rfl, k1⟩; obtain ⟨a1_0, a1_1, a1_2, a1_3⟩ := boxed k1 (w.heap.size) (.int .i64 ca) (.int .i64 sa) (by simp [go_sem]) (by simp [go_sem]) (by simp [go_sem]) (by simp [go_sem]); obtain ⟨b1_0, b1_1, b1_2, b1_3⟩ := boxed k1 (w.heap.size + 1) (.int .i64 cb) (.int .i64 sb) (by simp [go_sem]) (by simp [go_sem]) (by simp [go_sem]) (by simp [go_sem]); have bel1 := bT (bA2 _ _ _) k1) | (go_at_call 10; ((with_reducible refine (hisB _).mono ?_)); rintro e0 w2 ⟨rfl, k2⟩; obtain ⟨a2_0, a2_1, a2_2, a2_3⟩ := Bx.on (⟨a1_0, a1_1, a1_2, a1_3⟩ : Bx _ _ _ _) k2; obtain ⟨b2_0, b2_1, b2_2, b2_3⟩ := Bx.on (⟨b1_0, b1_1, b1_2, b1_3⟩ : Bx _ _ _ _) k2; have bel2 := bT bel1 k2) | (go_at_call 13; refine (hlv _ (Lib.hid (bel2))).mono ?_; rintro e0 wl ⟨rfl, bl⟩; have bell := bT (bel2) bl))
    go_ret
    exact ⟨rfl, bell⟩
  rw [ia] at hisA
  rw [ib] at hisB
  obtain ⟨x1, y1, E1, h1⟩ := ans_ex (divO ca sa cb sb)
  have hdiv : ∀ w, Calls Tryd.prog 16 #[.agg #[.int .i64 ca, .int .i64 sa], .agg #[.int .i64 cb, .int .i64 sb]] w fun e w' => e = .returned (.tuple #[.agg #[.int .i64 x1, .int .i64 y1], .int .i64 E1]) ∧ Below w.heap.size w w' := fun w => by
    have h := div_any ca sa cb sb w
    rw [if_pos ⟨ia, ib⟩, h1] at h
    exact h
  have hrdiv : ∀ w, Calls Tryd.prog 17 #[.agg #[.int .i64 ca, .int .i64 sa], .agg #[.int .i64 cb, .int .i64 sb]] w fun e w' => e = .returned (.tuple #[.agg #[.int .i64 x1, .int .i64 y1], .int .i64 E1]) ∧ Below w.heap.size w w' := fun w => by
    rw [← h1]
    by_cases hb0 : cb = 0
    · exact refDiv_zero ca sa cb sb w hb0
    · exact refDiv_any ca sa cb sb w ia ib hb0
  obtain ⟨hf0, dx, dy, hdd, hdb, hd0, hd1⟩ := flo_rest ia
  have hflo := fun w => floor_any ca sa w ia
  unfold nv at hflo
  obtain ⟨f1, hf1⟩ : ∃ f, flo ca sa = f := ⟨_, rfl⟩
  rw [hf1] at hflo hdd hf0
  have hsub : ∀ w, Calls Tryd.prog 20 #[.agg #[.int .i64 ca, .int .i64 sa], .agg #[.int .i64 f1, .int .i64 0]] w fun e w' => e = .returned (.tuple #[.agg #[.int .i64 dx, .int .i64 (dy : Int)], .int .i64 0]) ∧ Below w.heap.size w w' := fun w => by
    have h := refSub_any ca sa f1 0 w ia hf0
    rw [hdd] at h
    exact h
  obtain ⟨c0, hc0e⟩ : ∃ c, cmpI (up dx (dy : Int) (mx (dy : Int) 0)) (up 0 0 (mx (dy : Int) 0)) = c := ⟨_, rfl⟩
  obtain ⟨c1, hc1e⟩ : ∃ c, cmpI (up dx (dy : Int) (mx (dy : Int) 0)) (up 1 0 (mx (dy : Int) 0)) = c := ⟨_, rfl⟩
  have hc0 : ∀ w, Calls Tryd.prog 22 #[.agg #[.int .i64 dx, .int .i64 (dy : Int)], .agg #[.int .i64 0, .int .i64 0]] w fun e w' => e = .returned (.int .i64 c0) ∧ Below w.heap.size w w' := fun w => by
    rw [← hc0e]
    exact refCmp_any dx (dy : Int) 0 0 w hdb (by decide)
  have hc1 : ∀ w, Calls Tryd.prog 22 #[.agg #[.int .i64 dx, .int .i64 (dy : Int)], .agg #[.int .i64 1, .int .i64 0]] w fun e w' => e = .returned (.int .i64 c1) ∧ Below w.heap.size w w' := fun w => by
    rw [← hc1e]
    exact refCmp_any dx (dy : Int) 1 0 w hdb (by decide)
  rw [hc0e] at hd0
  rw [hc1e] at hd1
  have q1 := fun w => run_eqV x1 y1 w
  have hmod0 := fun w => mod_any ca sa cb sb w
  rw [if_pos ⟨ia, ib⟩] at hmod0
  have hwh0 := fun w => whole_any ca sa w
  unfold nv at hmod0 hwh0
  have hai := isB_iff.1 ia
  have hbi := isB_iff.1 ib
  clear hc0e hc1e hdd hdb hf1 hf0 h1
  by_cases hs : sa = 0
  case neg =>
    have hmod : ∀ w, Calls Tryd.prog 18 #[.agg #[.int .i64 ca, .int .i64 sa], .agg #[.int .i64 cb, .int .i64 sb]] w fun e w' => e = .returned (.tuple #[.agg #[.int .i64 0, .int .i64 0], .int .i64 8]) ∧ Below w.heap.size w w' := fun w => by
      have h := hmod0 w
      rw [show modO ca sa cb sb = none by unfold modO; rw [if_neg (fun g => hs g.1)]] at h
      exact h
    have hwh : ∀ w, Calls Tryd.prog 21 #[.agg #[.int .i64 ca, .int .i64 sa]] w fun e w' => e = .returned (.tuple #[.int .i64 0, .bool false]) ∧ Below w.heap.size w w' := fun w => by
      have h := hwh0 w
      rw [if_neg (fun g => hs g.2)] at h
      exact h
    have hs1 : (sa != 0) = true := by simp; exact hs
    have hs2 : (sa == 0) = false := by simp; exact hs
    have q0 := fun w => run_eqV 0 0 w
    clear hmod0 hwh0 ia ib hai hbi hs
    go_enter Tryd.func5, Tryd.ntmps5
    go_wp2_with (first | (go_at_call 10; ((with_reducible refine (hisA _).mono ?_)); rintro e0 w1 ⟨rfl, k1⟩; obtain ⟨a1_0, a1_1, a1_2, a1_3⟩ := boxed k1 (w.heap.size) (.int .i64 ca) (.int .i64 sa) (by simp [go_sem]) (by simp [go_sem]) (by simp [go_sem]) (by simp [go_sem]); obtain ⟨b1_0, b1_1, b1_2, b1_3⟩ := boxed k1 (w.heap.size + 1) (.int .i64 cb) (.int .i64 sb) (by simp [go_sem]) (by simp [go_sem]) (by simp [go_sem]) (by simp [go_sem]); have bel1 := bT (bA2 _ _ _) k1) | (go_at_call 10; ((with_reducible refine (hisB _).mono ?_)); rintro e0 w2 ⟨rfl, k2⟩; obtain ⟨a2_0, a2_1, a2_2, a2_3⟩ := Bx.on (⟨a1_0, a1_1, a1_2, a1_3⟩ : Bx _ _ _ _) k2; obtain ⟨b2_0, b2_1, b2_2, b2_3⟩ := Bx.on (⟨b1_0, b1_1, b1_2, b1_3⟩ : Bx _ _ _ _) k2; have bel2 := bT bel1 k2) | (go_at_call 16; refine (hdiv _).mono ?_; rintro e0 w3 ⟨rfl, k3⟩; obtain ⟨a3_0, a3_1, a3_2, a3_3⟩ := Bx.on (⟨a2_0, a2_1, a2_2, a2_3⟩ : Bx _ _ _ _) k3; obtain ⟨b3_0, b3_1, b3_2, b3_3⟩ := Bx.on (⟨b2_0, b2_1, b2_2, b2_3⟩ : Bx _ _ _ _) k3; have bel3 := bT bel2 k3; obtain ⟨a3n0, a3n1, a3n2, a3n3⟩ := Bx.alloc (⟨a3_0, a3_1, a3_2, a3_3⟩ : Bx _ _ _ _) (Obj.cells #[.int .i64 x1, .int .i64 y1] 23); obtain ⟨b3n0, b3n1, b3n2, b3n3⟩ := Bx.alloc (⟨b3_0, b3_1, b3_2, b3_3⟩ : Bx _ _ _ _) (Obj.cells #[.int .i64 x1, .int .i64 y1] 23)) | (go_at_call 17; refine (hrdiv _).mono ?_; rintro e0 w4 ⟨rfl, k4⟩; obtain ⟨a4_0, a4_1, a4_2, a4_3⟩ := Bx.on (⟨a3n0, a3n1, a3n2, a3n3⟩ : Bx _ _ _ _) k4; obtain ⟨b4_0, b4_1, b4_2, b4_3⟩ := Bx.on (⟨b3n0, b3n1, b3n2, b3n3⟩ : Bx _ _ _ _) k4; obtain ⟨p4_0, p4_1, p4_2, p4_3⟩ := Bx.on (bxNew w3 (.int .i64 x1) (.int .i64 y1) 23) k4; have bel4 := bT (bel3.alloc bel3.size _) k4; obtain ⟨a4n0, a4n1, a4n2, a4n3⟩ := Bx.alloc (⟨a4_0, a4_1, a4_2, a4_3⟩ : Bx _ _ _ _) (Obj.cells #[.int .i64 x1, .int .i64 y1] 23); obtain ⟨b4n0, b4n1, b4n2, b4n3⟩ := Bx.alloc (⟨b4_0, b4_1, b4_2, b4_3⟩ : Bx _ _ _ _) (Obj.cells #[.int .i64 x1, .int .i64 y1] 23); obtain ⟨p4n0, p4n1, p4n2, p4n3⟩ := Bx.alloc (⟨p4_0, p4_1, p4_2, p4_3⟩ : Bx _ _ _ _) (Obj.cells #[.int .i64 x1, .int .i64 y1] 23)) | (go_at_call 18; refine (hmod _).mono ?_; rintro e0 w5 ⟨rfl, k5⟩; obtain ⟨a5_0, a5_1, a5_2, a5_3⟩ := Bx.on (⟨a4n0, a4n1, a4n2, a4n3⟩ : Bx _ _ _ _) k5; obtain ⟨b5_0, b5_1, b5_2, b5_3⟩ := Bx.on (⟨b4n0, b4n1, b4n2, b4n3⟩ : Bx _ _ _ _) k5; have bel5 := bT (bel4.alloc bel4.size _) k5; obtain ⟨a5n0, a5n1, a5n2, a5n3⟩ := Bx.alloc (⟨a5_0, a5_1, a5_2, a5_3⟩ : Bx _ _ _ _) (Obj.cells #[.int .i64 0, .int .i64 0] 23); obtain ⟨b5n0, b5n1, b5n2, b5n3⟩ := Bx.alloc (⟨b5_0, b5_1, b5_2, b5_3⟩ : Bx _ _ _ _) (Obj.cells #[.int .i64 0, .int .i64 0] 23)) | (go_at_call 19; refine (hflo _).mono ?_; rintro e0 w6 ⟨rfl, k6⟩; obtain ⟨a6_0, a6_1, a6_2, a6_3⟩ := Bx.on (⟨a5n0, a5n1, a5n2, a5n3⟩ : Bx _ _ _ _) k6; obtain ⟨b6_0, b6_1, b6_2, b6_3⟩ := Bx.on (⟨b5n0, b5n1, b5n2, b5n3⟩ : Bx _ _ _ _) k6; have bel6 := bT (bel5.alloc bel5.size _) k6; obtain ⟨a6n0, a6n1, a6n2, a6n3⟩ := Bx.alloc (⟨a6_0, a6_1, a6_2, a6_3⟩ : Bx _ _ _ _) (Obj.cells #[.int .i64 f1, .int .i64 0] 23); obtain ⟨b6n0, b6n1, b6n2, b6n3⟩ := Bx.alloc (⟨b6_0, b6_1, b6_2, b6_3⟩ : Bx _ _ _ _) (Obj.cells #[.int .i64 f1, .int .i64 0] 23)) | (go_at_call 20; refine (hsub _).mono ?_; rintro e0 w7 ⟨rfl, k7⟩; obtain ⟨a7_0, a7_1, a7_2, a7_3⟩ := Bx.on (⟨a6n0, a6n1, a6n2, a6n3⟩ : Bx _ _ _ _) k7; obtain ⟨b7_0, b7_1, b7_2, b7_3⟩ := Bx.on (⟨b6n0, b6n1, b6n2, b6n3⟩ : Bx _ _ _ _) k7; obtain ⟨f7_0, f7_1, f7_2, f7_3⟩ := Bx.on (bxNew w6 (.int .i64 f1) (.int .i64 0) 23) k7; have bel7 := bT (bel6.alloc bel6.size _) k7; obtain ⟨a7n0, a7n1, a7n2, a7n3⟩ := Bx.alloc (⟨a7_0, a7_1, a7_2, a7_3⟩ : Bx _ _ _ _) (Obj.cells #[.int .i64 dx, .int .i64 (dy : Int)] 23); obtain ⟨b7n0, b7n1, b7n2, b7n3⟩ := Bx.alloc (⟨b7_0, b7_1, b7_2, b7_3⟩ : Bx _ _ _ _) (Obj.cells #[.int .i64 dx, .int .i64 (dy : Int)] 23); obtain ⟨f7n0, f7n1, f7n2, f7n3⟩ := Bx.alloc (⟨f7_0, f7_1, f7_2, f7_3⟩ : Bx _ _ _ _) (Obj.cells #[.int .i64 dx, .int .i64 (dy : Int)] 23)) | (go_at_call 21; refine (hwh _).mono ?_; rintro e0 w8 ⟨rfl, k8⟩; obtain ⟨a8_0, a8_1, a8_2, a8_3⟩ := Bx.on (⟨a7n0, a7n1, a7n2, a7n3⟩ : Bx _ _ _ _) k8; obtain ⟨b8_0, b8_1, b8_2, b8_3⟩ := Bx.on (⟨b7n0, b7n1, b7n2, b7n3⟩ : Bx _ _ _ _) k8; obtain ⟨f8_0, f8_1, f8_2, f8_3⟩ := Bx.on (⟨f7n0, f7n1, f7n2, f7n3⟩ : Bx _ _ _ _) k8; obtain ⟨d8_0, d8_1, d8_2, d8_3⟩ := Bx.on (bxNew w7 (.int .i64 dx) (.int .i64 (dy : Int)) 23) k8; have bel8 := bT (bel7.alloc bel7.size _) k8) | (go_at_call 22; ((with_reducible refine (hc0 _).mono ?_)); rintro e0 w9 ⟨rfl, k9⟩; obtain ⟨d9_0, d9_1, d9_2, d9_3⟩ := Bx.on (⟨d8_0, d8_1, d8_2, d8_3⟩ : Bx _ _ _ _) k9; have bel9 := bT bel8 k9) | (go_at_call 22; ((with_reducible refine (hc1 _).mono ?_)); rintro e0 w10 ⟨rfl, k10⟩; obtain ⟨d10_0, d10_1, d10_2, d10_3⟩ := Bx.on (⟨d9_0, d9_1, d9_2, d9_3⟩ : Bx _ _ _ _) k10; have bel10 := bT bel9 k10) | (go_at_call 13; refine (hlv _ (Lib.hid (bel10))).mono ?_; rintro e0 wl ⟨rfl, bl⟩; have bell := bT (bel10) bl))
    go_ret
    exact ⟨rfl, bell⟩
  subst hs
  have hwh : ∀ w, Calls Tryd.prog 21 #[.agg #[.int .i64 ca, .int .i64 0]] w fun e w' => e = .returned (.tuple #[.int .i64 ca, .bool true]) ∧ Below w.heap.size w w' := fun w => by
    have h := hwh0 w
    rw [if_pos ⟨ia, rfl⟩] at h
    exact h
  by_cases hs : sb = 0
  case neg =>
    have hmod : ∀ w, Calls Tryd.prog 18 #[.agg #[.int .i64 ca, .int .i64 0], .agg #[.int .i64 cb, .int .i64 sb]] w fun e w' => e = .returned (.tuple #[.agg #[.int .i64 0, .int .i64 0], .int .i64 8]) ∧ Below w.heap.size w w' := fun w => by
      have h := hmod0 w
      rw [show modO ca 0 cb sb = none by unfold modO; rw [if_neg (fun g => hs g.2.1)]] at h
      exact h
    have hs1 : (sb != 0) = true := by simp; exact hs
    have q0 := fun w => run_eqV 0 0 w
    clear hmod0 hwh0 ia ib hai hbi hs
    go_enter Tryd.func5, Tryd.ntmps5
    go_wp2_with (first | (go_at_call 10; ((with_reducible refine (hisA _).mono ?_)); rintro e0 w1 ⟨rfl, k1⟩; obtain ⟨a1_0, a1_1, a1_2, a1_3⟩ := boxed k1 (w.heap.size) (.int .i64 ca) (.int .i64 0) (by simp [go_sem]) (by simp [go_sem]) (by simp [go_sem]) (by simp [go_sem]); obtain ⟨b1_0, b1_1, b1_2, b1_3⟩ := boxed k1 (w.heap.size + 1) (.int .i64 cb) (.int .i64 sb) (by simp [go_sem]) (by simp [go_sem]) (by simp [go_sem]) (by simp [go_sem]); have bel1 := bT (bA2 _ _ _) k1) | (go_at_call 10; ((with_reducible refine (hisB _).mono ?_)); rintro e0 w2 ⟨rfl, k2⟩; obtain ⟨a2_0, a2_1, a2_2, a2_3⟩ := Bx.on (⟨a1_0, a1_1, a1_2, a1_3⟩ : Bx _ _ _ _) k2; obtain ⟨b2_0, b2_1, b2_2, b2_3⟩ := Bx.on (⟨b1_0, b1_1, b1_2, b1_3⟩ : Bx _ _ _ _) k2; have bel2 := bT bel1 k2) | (go_at_call 16; refine (hdiv _).mono ?_; rintro e0 w3 ⟨rfl, k3⟩; obtain ⟨a3_0, a3_1, a3_2, a3_3⟩ := Bx.on (⟨a2_0, a2_1, a2_2, a2_3⟩ : Bx _ _ _ _) k3; obtain ⟨b3_0, b3_1, b3_2, b3_3⟩ := Bx.on (⟨b2_0, b2_1, b2_2, b2_3⟩ : Bx _ _ _ _) k3; have bel3 := bT bel2 k3; obtain ⟨a3n0, a3n1, a3n2, a3n3⟩ := Bx.alloc (⟨a3_0, a3_1, a3_2, a3_3⟩ : Bx _ _ _ _) (Obj.cells #[.int .i64 x1, .int .i64 y1] 23); obtain ⟨b3n0, b3n1, b3n2, b3n3⟩ := Bx.alloc (⟨b3_0, b3_1, b3_2, b3_3⟩ : Bx _ _ _ _) (Obj.cells #[.int .i64 x1, .int .i64 y1] 23)) | (go_at_call 17; refine (hrdiv _).mono ?_; rintro e0 w4 ⟨rfl, k4⟩; obtain ⟨a4_0, a4_1, a4_2, a4_3⟩ := Bx.on (⟨a3n0, a3n1, a3n2, a3n3⟩ : Bx _ _ _ _) k4; obtain ⟨b4_0, b4_1, b4_2, b4_3⟩ := Bx.on (⟨b3n0, b3n1, b3n2, b3n3⟩ : Bx _ _ _ _) k4; obtain ⟨p4_0, p4_1, p4_2, p4_3⟩ := Bx.on (bxNew w3 (.int .i64 x1) (.int .i64 y1) 23) k4; have bel4 := bT (bel3.alloc bel3.size _) k4; obtain ⟨a4n0, a4n1, a4n2, a4n3⟩ := Bx.alloc (⟨a4_0, a4_1, a4_2, a4_3⟩ : Bx _ _ _ _) (Obj.cells #[.int .i64 x1, .int .i64 y1] 23); obtain ⟨b4n0, b4n1, b4n2, b4n3⟩ := Bx.alloc (⟨b4_0, b4_1, b4_2, b4_3⟩ : Bx _ _ _ _) (Obj.cells #[.int .i64 x1, .int .i64 y1] 23); obtain ⟨p4n0, p4n1, p4n2, p4n3⟩ := Bx.alloc (⟨p4_0, p4_1, p4_2, p4_3⟩ : Bx _ _ _ _) (Obj.cells #[.int .i64 x1, .int .i64 y1] 23)) | (go_at_call 18; refine (hmod _).mono ?_; rintro e0 w5 ⟨rfl, k5⟩; obtain ⟨a5_0, a5_1, a5_2, a5_3⟩ := Bx.on (⟨a4n0, a4n1, a4n2, a4n3⟩ : Bx _ _ _ _) k5; obtain ⟨b5_0, b5_1, b5_2, b5_3⟩ := Bx.on (⟨b4n0, b4n1, b4n2, b4n3⟩ : Bx _ _ _ _) k5; have bel5 := bT (bel4.alloc bel4.size _) k5; obtain ⟨a5n0, a5n1, a5n2, a5n3⟩ := Bx.alloc (⟨a5_0, a5_1, a5_2, a5_3⟩ : Bx _ _ _ _) (Obj.cells #[.int .i64 0, .int .i64 0] 23); obtain ⟨b5n0, b5n1, b5n2, b5n3⟩ := Bx.alloc (⟨b5_0, b5_1, b5_2, b5_3⟩ : Bx _ _ _ _) (Obj.cells #[.int .i64 0, .int .i64 0] 23)) | (go_at_call 19; refine (hflo _).mono ?_; rintro e0 w6 ⟨rfl, k6⟩; obtain ⟨a6_0, a6_1, a6_2, a6_3⟩ := Bx.on (⟨a5n0, a5n1, a5n2, a5n3⟩ : Bx _ _ _ _) k6; obtain ⟨b6_0, b6_1, b6_2, b6_3⟩ := Bx.on (⟨b5n0, b5n1, b5n2, b5n3⟩ : Bx _ _ _ _) k6; have bel6 := bT (bel5.alloc bel5.size _) k6; obtain ⟨a6n0, a6n1, a6n2, a6n3⟩ := Bx.alloc (⟨a6_0, a6_1, a6_2, a6_3⟩ : Bx _ _ _ _) (Obj.cells #[.int .i64 f1, .int .i64 0] 23); obtain ⟨b6n0, b6n1, b6n2, b6n3⟩ := Bx.alloc (⟨b6_0, b6_1, b6_2, b6_3⟩ : Bx _ _ _ _) (Obj.cells #[.int .i64 f1, .int .i64 0] 23)) | (go_at_call 20; refine (hsub _).mono ?_; rintro e0 w7 ⟨rfl, k7⟩; obtain ⟨a7_0, a7_1, a7_2, a7_3⟩ := Bx.on (⟨a6n0, a6n1, a6n2, a6n3⟩ : Bx _ _ _ _) k7; obtain ⟨b7_0, b7_1, b7_2, b7_3⟩ := Bx.on (⟨b6n0, b6n1, b6n2, b6n3⟩ : Bx _ _ _ _) k7; obtain ⟨f7_0, f7_1, f7_2, f7_3⟩ := Bx.on (bxNew w6 (.int .i64 f1) (.int .i64 0) 23) k7; have bel7 := bT (bel6.alloc bel6.size _) k7; obtain ⟨a7n0, a7n1, a7n2, a7n3⟩ := Bx.alloc (⟨a7_0, a7_1, a7_2, a7_3⟩ : Bx _ _ _ _) (Obj.cells #[.int .i64 dx, .int .i64 (dy : Int)] 23); obtain ⟨b7n0, b7n1, b7n2, b7n3⟩ := Bx.alloc (⟨b7_0, b7_1, b7_2, b7_3⟩ : Bx _ _ _ _) (Obj.cells #[.int .i64 dx, .int .i64 (dy : Int)] 23); obtain ⟨f7n0, f7n1, f7n2, f7n3⟩ := Bx.alloc (⟨f7_0, f7_1, f7_2, f7_3⟩ : Bx _ _ _ _) (Obj.cells #[.int .i64 dx, .int .i64 (dy : Int)] 23)) | (go_at_call 21; refine (hwh _).mono ?_; rintro e0 w8 ⟨rfl, k8⟩; obtain ⟨a8_0, a8_1, a8_2, a8_3⟩ := Bx.on (⟨a7n0, a7n1, a7n2, a7n3⟩ : Bx _ _ _ _) k8; obtain ⟨b8_0, b8_1, b8_2, b8_3⟩ := Bx.on (⟨b7n0, b7n1, b7n2, b7n3⟩ : Bx _ _ _ _) k8; obtain ⟨f8_0, f8_1, f8_2, f8_3⟩ := Bx.on (⟨f7n0, f7n1, f7n2, f7n3⟩ : Bx _ _ _ _) k8; obtain ⟨d8_0, d8_1, d8_2, d8_3⟩ := Bx.on (bxNew w7 (.int .i64 dx) (.int .i64 (dy : Int)) 23) k8; have bel8 := bT (bel7.alloc bel7.size _) k8) | (go_at_call 22; ((with_reducible refine (hc0 _).mono ?_)); rintro e0 w9 ⟨rfl, k9⟩; obtain ⟨d9_0, d9_1, d9_2, d9_3⟩ := Bx.on (⟨d8_0, d8_1, d8_2, d8_3⟩ : Bx _ _ _ _) k9; have bel9 := bT bel8 k9) | (go_at_call 22; ((with_reducible refine (hc1 _).mono ?_)); rintro e0 w10 ⟨rfl, k10⟩; obtain ⟨d10_0, d10_1, d10_2, d10_3⟩ := Bx.on (⟨d9_0, d9_1, d9_2, d9_3⟩ : Bx _ _ _ _) k10; have bel10 := bT bel9 k10) | (go_at_call 13; refine (hlv _ (Lib.hid (bel10))).mono ?_; rintro e0 wl ⟨rfl, bl⟩; have bell := bT (bel10) bl))
    go_ret
    exact ⟨rfl, bell⟩
  subst hs
  by_cases hs : cb = 0
  · subst hs
    have hmod : ∀ w, Calls Tryd.prog 18 #[.agg #[.int .i64 ca, .int .i64 0], .agg #[.int .i64 0, .int .i64 0]] w fun e w' => e = .returned (.tuple #[.agg #[.int .i64 0, .int .i64 0], .int .i64 8]) ∧ Below w.heap.size w w' := fun w => by
      have h := hmod0 w
      rw [show modO ca 0 0 0 = none by unfold modO; rw [if_neg (fun g => g.2.2 rfl)]] at h
      exact h
    have q0 := fun w => run_eqV 0 0 w
    clear hmod0 hwh0 ia ib hai hbi
    go_enter Tryd.func5, Tryd.ntmps5
    go_wp2_with (first | (go_at_call 10; ((with_reducible refine (hisA _).mono ?_)); rintro e0 w1 ⟨rfl, k1⟩; obtain ⟨a1_0, a1_1, a1_2, a1_3⟩ := boxed k1 (w.heap.size) (.int .i64 ca) (.int .i64 0) (by simp [go_sem]) (by simp [go_sem]) (by simp [go_sem]) (by simp [go_sem]); obtain ⟨b1_0, b1_1, b1_2, b1_3⟩ := boxed k1 (w.heap.size + 1) (.int .i64 0) (.int .i64 0) (by simp [go_sem]) (by simp [go_sem]) (by simp [go_sem]) (by simp [go_sem]); have bel1 := bT (bA2 _ _ _) k1) | (go_at_call 10; ((with_reducible refine (hisB _).mono ?_)); rintro e0 w2 ⟨rfl, k2⟩; obtain ⟨a2_0, a2_1, a2_2, a2_3⟩ := Bx.on (⟨a1_0, a1_1, a1_2, a1_3⟩ : Bx _ _ _ _) k2; obtain ⟨b2_0, b2_1, b2_2, b2_3⟩ := Bx.on (⟨b1_0, b1_1, b1_2, b1_3⟩ : Bx _ _ _ _) k2; have bel2 := bT bel1 k2) | (go_at_call 16; refine (hdiv _).mono ?_; rintro e0 w3 ⟨rfl, k3⟩; obtain ⟨a3_0, a3_1, a3_2, a3_3⟩ := Bx.on (⟨a2_0, a2_1, a2_2, a2_3⟩ : Bx _ _ _ _) k3; obtain ⟨b3_0, b3_1, b3_2, b3_3⟩ := Bx.on (⟨b2_0, b2_1, b2_2, b2_3⟩ : Bx _ _ _ _) k3; have bel3 := bT bel2 k3; obtain ⟨a3n0, a3n1, a3n2, a3n3⟩ := Bx.alloc (⟨a3_0, a3_1, a3_2, a3_3⟩ : Bx _ _ _ _) (Obj.cells #[.int .i64 x1, .int .i64 y1] 23); obtain ⟨b3n0, b3n1, b3n2, b3n3⟩ := Bx.alloc (⟨b3_0, b3_1, b3_2, b3_3⟩ : Bx _ _ _ _) (Obj.cells #[.int .i64 x1, .int .i64 y1] 23)) | (go_at_call 17; refine (hrdiv _).mono ?_; rintro e0 w4 ⟨rfl, k4⟩; obtain ⟨a4_0, a4_1, a4_2, a4_3⟩ := Bx.on (⟨a3n0, a3n1, a3n2, a3n3⟩ : Bx _ _ _ _) k4; obtain ⟨b4_0, b4_1, b4_2, b4_3⟩ := Bx.on (⟨b3n0, b3n1, b3n2, b3n3⟩ : Bx _ _ _ _) k4; obtain ⟨p4_0, p4_1, p4_2, p4_3⟩ := Bx.on (bxNew w3 (.int .i64 x1) (.int .i64 y1) 23) k4; have bel4 := bT (bel3.alloc bel3.size _) k4; obtain ⟨a4n0, a4n1, a4n2, a4n3⟩ := Bx.alloc (⟨a4_0, a4_1, a4_2, a4_3⟩ : Bx _ _ _ _) (Obj.cells #[.int .i64 x1, .int .i64 y1] 23); obtain ⟨b4n0, b4n1, b4n2, b4n3⟩ := Bx.alloc (⟨b4_0, b4_1, b4_2, b4_3⟩ : Bx _ _ _ _) (Obj.cells #[.int .i64 x1, .int .i64 y1] 23); obtain ⟨p4n0, p4n1, p4n2, p4n3⟩ := Bx.alloc (⟨p4_0, p4_1, p4_2, p4_3⟩ : Bx _ _ _ _) (Obj.cells #[.int .i64 x1, .int .i64 y1] 23)) | (go_at_call 18; refine (hmod _).mono ?_; rintro e0 w5 ⟨rfl, k5⟩; obtain ⟨a5_0, a5_1, a5_2, a5_3⟩ := Bx.on (⟨a4n0, a4n1, a4n2, a4n3⟩ : Bx _ _ _ _) k5; obtain ⟨b5_0, b5_1, b5_2, b5_3⟩ := Bx.on (⟨b4n0, b4n1, b4n2, b4n3⟩ : Bx _ _ _ _) k5; have bel5 := bT (bel4.alloc bel4.size _) k5; obtain ⟨a5n0, a5n1, a5n2, a5n3⟩ := Bx.alloc (⟨a5_0, a5_1, a5_2, a5_3⟩ : Bx _ _ _ _) (Obj.cells #[.int .i64 0, .int .i64 0] 23); obtain ⟨b5n0, b5n1, b5n2, b5n3⟩ := Bx.alloc (⟨b5_0, b5_1, b5_2, b5_3⟩ : Bx _ _ _ _) (Obj.cells #[.int .i64 0, .int .i64 0] 23)) | (go_at_call 19; refine (hflo _).mono ?_; rintro e0 w6 ⟨rfl, k6⟩; obtain ⟨a6_0, a6_1, a6_2, a6_3⟩ := Bx.on (⟨a5n0, a5n1, a5n2, a5n3⟩ : Bx _ _ _ _) k6; obtain ⟨b6_0, b6_1, b6_2, b6_3⟩ := Bx.on (⟨b5n0, b5n1, b5n2, b5n3⟩ : Bx _ _ _ _) k6; have bel6 := bT (bel5.alloc bel5.size _) k6; obtain ⟨a6n0, a6n1, a6n2, a6n3⟩ := Bx.alloc (⟨a6_0, a6_1, a6_2, a6_3⟩ : Bx _ _ _ _) (Obj.cells #[.int .i64 f1, .int .i64 0] 23); obtain ⟨b6n0, b6n1, b6n2, b6n3⟩ := Bx.alloc (⟨b6_0, b6_1, b6_2, b6_3⟩ : Bx _ _ _ _) (Obj.cells #[.int .i64 f1, .int .i64 0] 23)) | (go_at_call 20; refine (hsub _).mono ?_; rintro e0 w7 ⟨rfl, k7⟩; obtain ⟨a7_0, a7_1, a7_2, a7_3⟩ := Bx.on (⟨a6n0, a6n1, a6n2, a6n3⟩ : Bx _ _ _ _) k7; obtain ⟨b7_0, b7_1, b7_2, b7_3⟩ := Bx.on (⟨b6n0, b6n1, b6n2, b6n3⟩ : Bx _ _ _ _) k7; obtain ⟨f7_0, f7_1, f7_2, f7_3⟩ := Bx.on (bxNew w6 (.int .i64 f1) (.int .i64 0) 23) k7; have bel7 := bT (bel6.alloc bel6.size _) k7; obtain ⟨a7n0, a7n1, a7n2, a7n3⟩ := Bx.alloc (⟨a7_0, a7_1, a7_2, a7_3⟩ : Bx _ _ _ _) (Obj.cells #[.int .i64 dx, .int .i64 (dy : Int)] 23); obtain ⟨b7n0, b7n1, b7n2, b7n3⟩ := Bx.alloc (⟨b7_0, b7_1, b7_2, b7_3⟩ : Bx _ _ _ _) (Obj.cells #[.int .i64 dx, .int .i64 (dy : Int)] 23); obtain ⟨f7n0, f7n1, f7n2, f7n3⟩ := Bx.alloc (⟨f7_0, f7_1, f7_2, f7_3⟩ : Bx _ _ _ _) (Obj.cells #[.int .i64 dx, .int .i64 (dy : Int)] 23)) | (go_at_call 21; refine (hwh _).mono ?_; rintro e0 w8 ⟨rfl, k8⟩; obtain ⟨a8_0, a8_1, a8_2, a8_3⟩ := Bx.on (⟨a7n0, a7n1, a7n2, a7n3⟩ : Bx _ _ _ _) k8; obtain ⟨b8_0, b8_1, b8_2, b8_3⟩ := Bx.on (⟨b7n0, b7n1, b7n2, b7n3⟩ : Bx _ _ _ _) k8; obtain ⟨f8_0, f8_1, f8_2, f8_3⟩ := Bx.on (⟨f7n0, f7n1, f7n2, f7n3⟩ : Bx _ _ _ _) k8; obtain ⟨d8_0, d8_1, d8_2, d8_3⟩ := Bx.on (bxNew w7 (.int .i64 dx) (.int .i64 (dy : Int)) 23) k8; have bel8 := bT (bel7.alloc bel7.size _) k8) | (go_at_call 22; ((with_reducible refine (hc0 _).mono ?_)); rintro e0 w9 ⟨rfl, k9⟩; obtain ⟨d9_0, d9_1, d9_2, d9_3⟩ := Bx.on (⟨d8_0, d8_1, d8_2, d8_3⟩ : Bx _ _ _ _) k9; have bel9 := bT bel8 k9) | (go_at_call 22; ((with_reducible refine (hc1 _).mono ?_)); rintro e0 w10 ⟨rfl, k10⟩; obtain ⟨d10_0, d10_1, d10_2, d10_3⟩ := Bx.on (⟨d9_0, d9_1, d9_2, d9_3⟩ : Bx _ _ _ _) k10; have bel10 := bT bel9 k10) | (go_at_call 13; refine (hlv _ (Lib.hid (bel10))).mono ?_; rintro e0 wl ⟨rfl, bl⟩; have bell := bT (bel10) bl))
    go_ret
    exact ⟨rfl, bell⟩
  · obtain ⟨u, hu⟩ : ∃ u, ca.tmod cb = u := ⟨_, rfl⟩
    have hub : -1000000000000000 < u ∧ u < 1000000000000000 := by
      have e := Int.natAbs_tmod ca cb
      rw [hu] at e
      have := Nat.mod_le ca.natAbs cb.natAbs
      omega
    obtain ⟨u0, u1⟩ := hub
    have hmod : ∀ w, Calls Tryd.prog 18 #[.agg #[.int .i64 ca, .int .i64 0], .agg #[.int .i64 cb, .int .i64 0]] w fun e w' => e = .returned (.tuple #[.agg #[.int .i64 u, .int .i64 0], .int .i64 0]) ∧ Below w.heap.size w w' := fun w => by
      have h := hmod0 w
      rw [show modO ca 0 cb 0 = some (u, 0) by unfold modO; rw [if_pos ⟨rfl, rfl, hs⟩, hu]] at h
      exact h
    have hwu : IntKind.i64.wrap u = u := wrapS u (by omega) (by omega)
    have hs1 : (cb == 0) = false := by simp; exact hs
    have q0 := fun w => run_eqV u 0 w
    clear hmod0 hwh0 ia ib hai hbi
    go_enter Tryd.func5, Tryd.ntmps5
    go_upto_region 11 with (first | (go_at_call 10; ((with_reducible refine (hisA _).mono ?_)); rintro e0 w1 ⟨rfl, k1⟩; obtain ⟨a1_0, a1_1, a1_2, a1_3⟩ := boxed k1 (w.heap.size) (.int .i64 ca) (.int .i64 0) (by simp [go_sem]) (by simp [go_sem]) (by simp [go_sem]) (by simp [go_sem]); obtain ⟨b1_0, b1_1, b1_2, b1_3⟩ := boxed k1 (w.heap.size + 1) (.int .i64 cb) (.int .i64 0) (by simp [go_sem]) (by simp [go_sem]) (by simp [go_sem]) (by simp [go_sem]); have bel1 := bT (bA2 _ _ _) k1) | (go_at_call 10; ((with_reducible refine (hisB _).mono ?_)); rintro e0 w2 ⟨rfl, k2⟩; obtain ⟨a2_0, a2_1, a2_2, a2_3⟩ := Bx.on (⟨a1_0, a1_1, a1_2, a1_3⟩ : Bx _ _ _ _) k2; obtain ⟨b2_0, b2_1, b2_2, b2_3⟩ := Bx.on (⟨b1_0, b1_1, b1_2, b1_3⟩ : Bx _ _ _ _) k2; have bel2 := bT bel1 k2) | (go_at_call 16; refine (hdiv _).mono ?_; rintro e0 w3 ⟨rfl, k3⟩; obtain ⟨a3_0, a3_1, a3_2, a3_3⟩ := Bx.on (⟨a2_0, a2_1, a2_2, a2_3⟩ : Bx _ _ _ _) k3; obtain ⟨b3_0, b3_1, b3_2, b3_3⟩ := Bx.on (⟨b2_0, b2_1, b2_2, b2_3⟩ : Bx _ _ _ _) k3; have bel3 := bT bel2 k3; obtain ⟨a3n0, a3n1, a3n2, a3n3⟩ := Bx.alloc (⟨a3_0, a3_1, a3_2, a3_3⟩ : Bx _ _ _ _) (Obj.cells #[.int .i64 x1, .int .i64 y1] 23); obtain ⟨b3n0, b3n1, b3n2, b3n3⟩ := Bx.alloc (⟨b3_0, b3_1, b3_2, b3_3⟩ : Bx _ _ _ _) (Obj.cells #[.int .i64 x1, .int .i64 y1] 23)) | (go_at_call 17; refine (hrdiv _).mono ?_; rintro e0 w4 ⟨rfl, k4⟩; obtain ⟨a4_0, a4_1, a4_2, a4_3⟩ := Bx.on (⟨a3n0, a3n1, a3n2, a3n3⟩ : Bx _ _ _ _) k4; obtain ⟨b4_0, b4_1, b4_2, b4_3⟩ := Bx.on (⟨b3n0, b3n1, b3n2, b3n3⟩ : Bx _ _ _ _) k4; obtain ⟨p4_0, p4_1, p4_2, p4_3⟩ := Bx.on (bxNew w3 (.int .i64 x1) (.int .i64 y1) 23) k4; have bel4 := bT (bel3.alloc bel3.size _) k4; obtain ⟨a4n0, a4n1, a4n2, a4n3⟩ := Bx.alloc (⟨a4_0, a4_1, a4_2, a4_3⟩ : Bx _ _ _ _) (Obj.cells #[.int .i64 x1, .int .i64 y1] 23); obtain ⟨b4n0, b4n1, b4n2, b4n3⟩ := Bx.alloc (⟨b4_0, b4_1, b4_2, b4_3⟩ : Bx _ _ _ _) (Obj.cells #[.int .i64 x1, .int .i64 y1] 23); obtain ⟨p4n0, p4n1, p4n2, p4n3⟩ := Bx.alloc (⟨p4_0, p4_1, p4_2, p4_3⟩ : Bx _ _ _ _) (Obj.cells #[.int .i64 x1, .int .i64 y1] 23)) | (go_at_call 18; refine (hmod _).mono ?_; rintro e0 w5 ⟨rfl, k5⟩; obtain ⟨a5_0, a5_1, a5_2, a5_3⟩ := Bx.on (⟨a4n0, a4n1, a4n2, a4n3⟩ : Bx _ _ _ _) k5; obtain ⟨b5_0, b5_1, b5_2, b5_3⟩ := Bx.on (⟨b4n0, b4n1, b4n2, b4n3⟩ : Bx _ _ _ _) k5; have bel5 := bT (bel4.alloc bel4.size _) k5; obtain ⟨a5n0, a5n1, a5n2, a5n3⟩ := Bx.alloc (⟨a5_0, a5_1, a5_2, a5_3⟩ : Bx _ _ _ _) (Obj.cells #[.int .i64 u, .int .i64 0] 23); obtain ⟨b5n0, b5n1, b5n2, b5n3⟩ := Bx.alloc (⟨b5_0, b5_1, b5_2, b5_3⟩ : Bx _ _ _ _) (Obj.cells #[.int .i64 u, .int .i64 0] 23)))
    go_quiet (fail)
    go_wp2_with (first | (go_at_call 19; refine (hflo _).mono ?_; rintro e0 w6 ⟨rfl, k6⟩; obtain ⟨a6_0, a6_1, a6_2, a6_3⟩ := Bx.on (Bx.dN (⟨a5n0, a5n1, a5n2, a5n3⟩ : Bx _ _ _ _) nq) k6; obtain ⟨b6_0, b6_1, b6_2, b6_3⟩ := Bx.on (Bx.dN (⟨b5n0, b5n1, b5n2, b5n3⟩ : Bx _ _ _ _) nq) k6; have bel6 := bT (bN (bel5.alloc bel5.size _) nq) k6; obtain ⟨a6n0, a6n1, a6n2, a6n3⟩ := Bx.alloc (⟨a6_0, a6_1, a6_2, a6_3⟩ : Bx _ _ _ _) (Obj.cells #[.int .i64 f1, .int .i64 0] 23); obtain ⟨b6n0, b6n1, b6n2, b6n3⟩ := Bx.alloc (⟨b6_0, b6_1, b6_2, b6_3⟩ : Bx _ _ _ _) (Obj.cells #[.int .i64 f1, .int .i64 0] 23)) | (go_at_call 20; refine (hsub _).mono ?_; rintro e0 w7 ⟨rfl, k7⟩; obtain ⟨a7_0, a7_1, a7_2, a7_3⟩ := Bx.on (⟨a6n0, a6n1, a6n2, a6n3⟩ : Bx _ _ _ _) k7; obtain ⟨b7_0, b7_1, b7_2, b7_3⟩ := Bx.on (⟨b6n0, b6n1, b6n2, b6n3⟩ : Bx _ _ _ _) k7; obtain ⟨f7_0, f7_1, f7_2, f7_3⟩ := Bx.on (bxNew w6 (.int .i64 f1) (.int .i64 0) 23) k7; have bel7 := bT (bel6.alloc bel6.size _) k7; obtain ⟨a7n0, a7n1, a7n2, a7n3⟩ := Bx.alloc (⟨a7_0, a7_1, a7_2, a7_3⟩ : Bx _ _ _ _) (Obj.cells #[.int .i64 dx, .int .i64 (dy : Int)] 23); obtain ⟨b7n0, b7n1, b7n2, b7n3⟩ := Bx.alloc (⟨b7_0, b7_1, b7_2, b7_3⟩ : Bx _ _ _ _) (Obj.cells #[.int .i64 dx, .int .i64 (dy : Int)] 23); obtain ⟨f7n0, f7n1, f7n2, f7n3⟩ := Bx.alloc (⟨f7_0, f7_1, f7_2, f7_3⟩ : Bx _ _ _ _) (Obj.cells #[.int .i64 dx, .int .i64 (dy : Int)] 23)) | (go_at_call 21; refine (hwh _).mono ?_; rintro e0 w8 ⟨rfl, k8⟩; obtain ⟨a8_0, a8_1, a8_2, a8_3⟩ := Bx.on (⟨a7n0, a7n1, a7n2, a7n3⟩ : Bx _ _ _ _) k8; obtain ⟨b8_0, b8_1, b8_2, b8_3⟩ := Bx.on (⟨b7n0, b7n1, b7n2, b7n3⟩ : Bx _ _ _ _) k8; obtain ⟨f8_0, f8_1, f8_2, f8_3⟩ := Bx.on (⟨f7n0, f7n1, f7n2, f7n3⟩ : Bx _ _ _ _) k8; obtain ⟨d8_0, d8_1, d8_2, d8_3⟩ := Bx.on (bxNew w7 (.int .i64 dx) (.int .i64 (dy : Int)) 23) k8; have bel8 := bT (bel7.alloc bel7.size _) k8) | (go_at_call 22; ((with_reducible refine (hc0 _).mono ?_)); rintro e0 w9 ⟨rfl, k9⟩; obtain ⟨d9_0, d9_1, d9_2, d9_3⟩ := Bx.on (⟨d8_0, d8_1, d8_2, d8_3⟩ : Bx _ _ _ _) k9; have bel9 := bT bel8 k9) | (go_at_call 22; ((with_reducible refine (hc1 _).mono ?_)); rintro e0 w10 ⟨rfl, k10⟩; obtain ⟨d10_0, d10_1, d10_2, d10_3⟩ := Bx.on (⟨d9_0, d9_1, d9_2, d9_3⟩ : Bx _ _ _ _) k10; have bel10 := bT bel9 k10) | (go_at_call 13; refine (hlv _ (Lib.hid (bel10))).mono ?_; rintro e0 wl ⟨rfl, bl⟩; have bell := bT (bel10) bl))
    go_ret
    exact ⟨rfl, bell⟩
end Nm
end Go.Proofs.YtkbmaimocoljeaaDoor
