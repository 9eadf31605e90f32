/- NumSums answers true for every two numbers. -/
import Derived.Test.YtkbmaimocoljeaaGreatDoorNrMul2
import Derived.Test.YtkbmaimocoljeaaGreatDoorNrText
import Derived.Test.YtkbmaimocoljeaaGreatDoorNmMod
import Derived.Test.YtkbmaimocoljeaaGreatDoorNmOpen
namespace Go.Proofs.YtkbmaimocoljeaaGreatDoor
open Go.RowKit
namespace Nm
theorem run_eqS (a b : Int) (w : World) : (Op.equalIn 10000 23 (.agg #[.int .i64 a, .int .i64 b]) (.agg #[.int .i64 a, .int .i64 b])).run Tryz.prog w = .ok true w := by
  simp [go_sem]
set_option maxRecDepth 100000 in
set_option maxHeartbeats 16000000 in
theorem numSums_any (ca sa cb sb : Int) (w : World) (hT : Tab w.heap.size w) :
    Calls Tryz.prog 3 #[nv ca sa, nv cb sb] w fun e w' => e = .returned (.bool true) ∧ Below w.heap.size w w' := by
  unfold nv
  have hlv : ∀ w', Hid (Below w.heap.size w w') → Calls Tryz.prog 11 #[] w' fun e w'' => e = .returned (.bool true) ∧ Below w'.heap.size w' w'' := fun w' h => lives_any w' (hT.on h.out) h.out.size
  have hisA := fun w => refIs_any ca sa w
  have hisB := fun w => refIs_any cb sb w
  unfold nv at hisA hisB
  clear hT
  by_cases ia : isB ca sa = true
  case neg =>
    have hadd : ∀ w, Calls Tryz.prog 4 #[.agg #[.int .i64 ca, .int .i64 sa], .agg #[.int .i64 cb, .int .i64 sb]] w fun e w' => e = .returned (.tuple #[.agg #[.int .i64 0, .int .i64 0], .int .i64 1]) ∧ Below w.heap.size w w' := fun w => by
      have h := add_any ca sa cb sb w
      rw [if_neg (fun h => ia h.1)] at h
      exact h
    have hsub : ∀ w, Calls Tryz.prog 5 #[.agg #[.int .i64 ca, .int .i64 sa], .agg #[.int .i64 cb, .int .i64 sb]] w fun e w' => e = .returned (.tuple #[.agg #[.int .i64 0, .int .i64 0], .int .i64 1]) ∧ Below w.heap.size w w' := fun w => by
      have h := sub_any ca sa cb sb w
      rw [if_neg (fun h => ia h.1)] at h
      exact h
    have hmul : ∀ w, Calls Tryz.prog 6 #[.agg #[.int .i64 ca, .int .i64 sa], .agg #[.int .i64 cb, .int .i64 sb]] w fun e w' => e = .returned (.tuple #[.agg #[.int .i64 0, .int .i64 0], .int .i64 1]) ∧ Below w.heap.size w w' := fun w => by
      have h := mul_any ca sa cb sb w
      rw [if_neg (fun h => ia h.1)] at h
      exact h
    have hdiv : ∀ w, Calls Tryz.prog 8 #[.agg #[.int .i64 ca, .int .i64 sa], .agg #[.int .i64 cb, .int .i64 sb]] w fun e w' => e = .returned (.tuple #[.agg #[.int .i64 0, .int .i64 0], .int .i64 1]) ∧ Below w.heap.size w w' := fun w => by
      have h := div_any ca sa cb sb w
      rw [if_neg (fun h => ia h.1)] at h
      exact h
    have hmod : ∀ w, Calls Tryz.prog 9 #[.agg #[.int .i64 ca, .int .i64 sa], .agg #[.int .i64 cb, .int .i64 sb]] w fun e w' => e = .returned (.tuple #[.agg #[.int .i64 0, .int .i64 0], .int .i64 1]) ∧ Below w.heap.size w w' := fun w => by
      have h := mod_any ca sa cb sb w
      rw [if_neg (fun h => ia h.1)] at h
      exact h
    have hcmp : ∀ w, Calls Tryz.prog 10 #[.agg #[.int .i64 ca, .int .i64 sa], .agg #[.int .i64 cb, .int .i64 sb]] w fun e w' => e = .returned (.int .i64 0) ∧ Below w.heap.size w w' := fun w => by
      have h := cmp_any ca sa cb sb w
      rw [if_neg (fun h => ia h.1)] at h
      exact h
    have ia : isB ca sa = false := by simpa using ia
    rw [ia] at hisA
    clear ia hisB
    go_enter Tryz.func3, Tryz.ntmps3
    go_wp2_with (first | (go_at_call 4; refine (hadd _).mono ?_; rintro e0 w1 ⟨rfl, k1⟩; obtain ⟨a1_0, a1_1, a1_2, a1_3⟩ := boxed k1 (w.heap.size) (.int .i64 ca) (.int .i64 sa) (by simp [go_sem]) (by simp [go_sem]) (by simp [go_sem]) (by simp [go_sem]); obtain ⟨b1_0, b1_1, b1_2, b1_3⟩ := boxed k1 (w.heap.size + 1) (.int .i64 cb) (.int .i64 sb) (by simp [go_sem]) (by simp [go_sem]) (by simp [go_sem]) (by simp [go_sem]); have bel1 := bT (bA2 _ _ _) k1; obtain ⟨a1n0, a1n1, a1n2, a1n3⟩ := Bx.alloc (⟨a1_0, a1_1, a1_2, a1_3⟩ : Bx _ _ _ _) (Obj.cells #[.int .i64 0, .int .i64 0] 23); obtain ⟨b1n0, b1n1, b1n2, b1n3⟩ := Bx.alloc (⟨b1_0, b1_1, b1_2, b1_3⟩ : Bx _ _ _ _) (Obj.cells #[.int .i64 0, .int .i64 0] 23)) | (go_at_call 5; refine (hsub _).mono ?_; rintro e0 w2 ⟨rfl, k2⟩; obtain ⟨a2_0, a2_1, a2_2, a2_3⟩ := Bx.on (⟨a1n0, a1n1, a1n2, a1n3⟩ : Bx _ _ _ _) k2; obtain ⟨b2_0, b2_1, b2_2, b2_3⟩ := Bx.on (⟨b1n0, b1n1, b1n2, b1n3⟩ : Bx _ _ _ _) k2; have bel2 := bT (bel1.alloc bel1.size _) k2; obtain ⟨a2n0, a2n1, a2n2, a2n3⟩ := Bx.alloc (⟨a2_0, a2_1, a2_2, a2_3⟩ : Bx _ _ _ _) (Obj.cells #[.int .i64 0, .int .i64 0] 23); obtain ⟨b2n0, b2n1, b2n2, b2n3⟩ := Bx.alloc (⟨b2_0, b2_1, b2_2, b2_3⟩ : Bx _ _ _ _) (Obj.cells #[.int .i64 0, .int .i64 0] 23)) | (go_at_call 6; refine (hmul _).mono ?_; rintro e0 w3 ⟨rfl, k3⟩; obtain ⟨a3_0, a3_1, a3_2, a3_3⟩ := Bx.on (⟨a2n0, a2n1, a2n2, a2n3⟩ : Bx _ _ _ _) k3; obtain ⟨b3_0, b3_1, b3_2, b3_3⟩ := Bx.on (⟨b2n0, b2n1, b2n2, b2n3⟩ : Bx _ _ _ _) k3; have bel3 := bT (bel2.alloc bel2.size _) k3; obtain ⟨a3n0, a3n1, a3n2, a3n3⟩ := Bx.alloc (⟨a3_0, a3_1, a3_2, a3_3⟩ : Bx _ _ _ _) (Obj.cells #[.int .i64 0, .int .i64 0] 23); obtain ⟨b3n0, b3n1, b3n2, b3n3⟩ := Bx.alloc (⟨b3_0, b3_1, b3_2, b3_3⟩ : Bx _ _ _ _) (Obj.cells #[.int .i64 0, .int .i64 0] 23)) | (go_at_call 7; ((with_reducible refine (hisA _).mono ?_)); rintro e0 w4 ⟨rfl, k4⟩; obtain ⟨a4_0, a4_1, a4_2, a4_3⟩ := Bx.on (⟨a3n0, a3n1, a3n2, a3n3⟩ : Bx _ _ _ _) k4; obtain ⟨b4_0, b4_1, b4_2, b4_3⟩ := Bx.on (⟨b3n0, b3n1, b3n2, b3n3⟩ : Bx _ _ _ _) k4; have bel4 := bT (bel3.alloc bel3.size _) k4) | (go_at_call 8; refine (hdiv _).mono ?_; rintro e0 w5 ⟨rfl, k5⟩; obtain ⟨a5_0, a5_1, a5_2, a5_3⟩ := Bx.on (⟨a4_0, a4_1, a4_2, a4_3⟩ : Bx _ _ _ _) k5; obtain ⟨b5_0, b5_1, b5_2, b5_3⟩ := Bx.on (⟨b4_0, b4_1, b4_2, b4_3⟩ : Bx _ _ _ _) k5; have bel5 := bT bel4 k5; obtain ⟨a5n0, a5n1, a5n2, a5n3⟩ := Bx.alloc (⟨a5_0, a5_1, a5_2, a5_3⟩ : Bx _ _ _ _) (Obj.cells #[.int .i64 0, .int .i64 0] 23); obtain ⟨b5n0, b5n1, b5n2, b5n3⟩ := Bx.alloc (⟨b5_0, b5_1, b5_2, b5_3⟩ : Bx _ _ _ _) (Obj.cells #[.int .i64 0, .int .i64 0] 23)) | (go_at_call 9; refine (hmod _).mono ?_; rintro e0 w6 ⟨rfl, k6⟩; obtain ⟨a6_0, a6_1, a6_2, a6_3⟩ := Bx.on (⟨a5n0, a5n1, a5n2, a5n3⟩ : Bx _ _ _ _) k6; obtain ⟨b6_0, b6_1, b6_2, b6_3⟩ := Bx.on (⟨b5n0, b5n1, b5n2, b5n3⟩ : Bx _ _ _ _) k6; have bel6 := bT (bel5.alloc bel5.size _) k6; obtain ⟨a6n0, a6n1, a6n2, a6n3⟩ := Bx.alloc (⟨a6_0, a6_1, a6_2, a6_3⟩ : Bx _ _ _ _) (Obj.cells #[.int .i64 0, .int .i64 0] 23); obtain ⟨b6n0, b6n1, b6n2, b6n3⟩ := Bx.alloc (⟨b6_0, b6_1, b6_2, b6_3⟩ : Bx _ _ _ _) (Obj.cells #[.int .i64 0, .int .i64 0] 23)) | (go_at_call 10; refine (hcmp _).mono ?_; rintro e0 w7 ⟨rfl, k7⟩; obtain ⟨a7_0, a7_1, a7_2, a7_3⟩ := Bx.on (⟨a6n0, a6n1, a6n2, a6n3⟩ : Bx _ _ _ _) k7; obtain ⟨b7_0, b7_1, b7_2, b7_3⟩ := Bx.on (⟨b6n0, b6n1, b6n2, b6n3⟩ : Bx _ _ _ _) k7; have bel7 := bT (bel6.alloc bel6.size _) k7) | (go_at_call 11; refine (hlv _ (Lib.hid (bel7))).mono ?_; rintro e0 wl ⟨rfl, bl⟩; have bell := bT (bel7) bl))
    go_ret
    exact ⟨rfl, bell⟩
  by_cases ib : isB cb sb = true
  case neg =>
    have hadd : ∀ w, Calls Tryz.prog 4 #[.agg #[.int .i64 ca, .int .i64 sa], .agg #[.int .i64 cb, .int .i64 sb]] w fun e w' => e = .returned (.tuple #[.agg #[.int .i64 0, .int .i64 0], .int .i64 1]) ∧ Below w.heap.size w w' := fun w => by
      have h := add_any ca sa cb sb w
      rw [if_neg (fun h => ib h.2)] at h
      exact h
    have hsub : ∀ w, Calls Tryz.prog 5 #[.agg #[.int .i64 ca, .int .i64 sa], .agg #[.int .i64 cb, .int .i64 sb]] w fun e w' => e = .returned (.tuple #[.agg #[.int .i64 0, .int .i64 0], .int .i64 1]) ∧ Below w.heap.size w w' := fun w => by
      have h := sub_any ca sa cb sb w
      rw [if_neg (fun h => ib h.2)] at h
      exact h
    have hmul : ∀ w, Calls Tryz.prog 6 #[.agg #[.int .i64 ca, .int .i64 sa], .agg #[.int .i64 cb, .int .i64 sb]] w fun e w' => e = .returned (.tuple #[.agg #[.int .i64 0, .int .i64 0], .int .i64 1]) ∧ Below w.heap.size w w' := fun w => by
      have h := mul_any ca sa cb sb w
      rw [if_neg (fun h => ib h.2)] at h
      exact h
    have hdiv : ∀ w, Calls Tryz.prog 8 #[.agg #[.int .i64 ca, .int .i64 sa], .agg #[.int .i64 cb, .int .i64 sb]] w fun e w' => e = .returned (.tuple #[.agg #[.int .i64 0, .int .i64 0], .int .i64 1]) ∧ Below w.heap.size w w' := fun w => by
      have h := div_any ca sa cb sb w
      rw [if_neg (fun h => ib h.2)] at h
      exact h
    have hmod : ∀ w, Calls Tryz.prog 9 #[.agg #[.int .i64 ca, .int .i64 sa], .agg #[.int .i64 cb, .int .i64 sb]] w fun e w' => e = .returned (.tuple #[.agg #[.int .i64 0, .int .i64 0], .int .i64 1]) ∧ Below w.heap.size w w' := fun w => by
      have h := mod_any ca sa cb sb w
      rw [if_neg (fun h => ib h.2)] at h
      exact h
    have hcmp : ∀ w, Calls Tryz.prog 10 #[.agg #[.int .i64 ca, .int .i64 sa], .agg #[.int .i64 cb, .int .i64 sb]] w fun e w' => e = .returned (.int .i64 0) ∧ Below w.heap.size w w' := fun w => by
      have h := cmp_any ca sa cb sb w
      rw [if_neg (fun h => ib h.2)] at h
      exact h
    have ib : isB cb sb = false := by simpa using ib
    rw [ia] at hisA
    rw [ib] at hisB
    clear ia ib
    go_enter Tryz.func3, Tryz.ntmps3
    go_wp2_with (first | (go_at_call 4; refine (hadd _).mono ?_; rintro e0 w1 ⟨rfl, k1⟩; obtain ⟨a1_0, a1_1, a1_2, a1_3⟩ := boxed k1 (w.heap.size) (.int .i64 ca) (.int .i64 sa) (by simp [go_sem]) (by simp [go_sem]) (by simp [go_sem]) (by simp [go_sem]); obtain ⟨b1_0, b1_1, b1_2, b1_3⟩ := boxed k1 (w.heap.size + 1) (.int .i64 cb) (.int .i64 sb) (by simp [go_sem]) (by simp [go_sem]) (by simp [go_sem]) (by simp [go_sem]); have bel1 := bT (bA2 _ _ _) k1; obtain ⟨a1n0, a1n1, a1n2, a1n3⟩ := Bx.alloc (⟨a1_0, a1_1, a1_2, a1_3⟩ : Bx _ _ _ _) (Obj.cells #[.int .i64 0, .int .i64 0] 23); obtain ⟨b1n0, b1n1, b1n2, b1n3⟩ := Bx.alloc (⟨b1_0, b1_1, b1_2, b1_3⟩ : Bx _ _ _ _) (Obj.cells #[.int .i64 0, .int .i64 0] 23)) | (go_at_call 5; refine (hsub _).mono ?_; rintro e0 w2 ⟨rfl, k2⟩; obtain ⟨a2_0, a2_1, a2_2, a2_3⟩ := Bx.on (⟨a1n0, a1n1, a1n2, a1n3⟩ : Bx _ _ _ _) k2; obtain ⟨b2_0, b2_1, b2_2, b2_3⟩ := Bx.on (⟨b1n0, b1n1, b1n2, b1n3⟩ : Bx _ _ _ _) k2; have bel2 := bT (bel1.alloc bel1.size _) k2; obtain ⟨a2n0, a2n1, a2n2, a2n3⟩ := Bx.alloc (⟨a2_0, a2_1, a2_2, a2_3⟩ : Bx _ _ _ _) (Obj.cells #[.int .i64 0, .int .i64 0] 23); obtain ⟨b2n0, b2n1, b2n2, b2n3⟩ := Bx.alloc (⟨b2_0, b2_1, b2_2, b2_3⟩ : Bx _ _ _ _) (Obj.cells #[.int .i64 0, .int .i64 0] 23)) | (go_at_call 6; refine (hmul _).mono ?_; rintro e0 w3 ⟨rfl, k3⟩; obtain ⟨a3_0, a3_1, a3_2, a3_3⟩ := Bx.on (⟨a2n0, a2n1, a2n2, a2n3⟩ : Bx _ _ _ _) k3; obtain ⟨b3_0, b3_1, b3_2, b3_3⟩ := Bx.on (⟨b2n0, b2n1, b2n2, b2n3⟩ : Bx _ _ _ _) k3; have bel3 := bT (bel2.alloc bel2.size _) k3; obtain ⟨a3n0, a3n1, a3n2, a3n3⟩ := Bx.alloc (⟨a3_0, a3_1, a3_2, a3_3⟩ : Bx _ _ _ _) (Obj.cells #[.int .i64 0, .int .i64 0] 23); obtain ⟨b3n0, b3n1, b3n2, b3n3⟩ := Bx.alloc (⟨b3_0, b3_1, b3_2, b3_3⟩ : Bx _ _ _ _) (Obj.cells #[.int .i64 0, .int .i64 0] 23)) | (go_at_call 7; ((with_reducible refine (hisA _).mono ?_)); rintro e0 w4 ⟨rfl, k4⟩; obtain ⟨a4_0, a4_1, a4_2, a4_3⟩ := Bx.on (⟨a3n0, a3n1, a3n2, a3n3⟩ : Bx _ _ _ _) k4; obtain ⟨b4_0, b4_1, b4_2, b4_3⟩ := Bx.on (⟨b3n0, b3n1, b3n2, b3n3⟩ : Bx _ _ _ _) k4; have bel4 := bT (bel3.alloc bel3.size _) k4) | (go_at_call 7; ((with_reducible refine (hisB _).mono ?_)); rintro e0 w5 ⟨rfl, k5⟩; obtain ⟨a5_0, a5_1, a5_2, a5_3⟩ := Bx.on (⟨a4_0, a4_1, a4_2, a4_3⟩ : Bx _ _ _ _) k5; obtain ⟨b5_0, b5_1, b5_2, b5_3⟩ := Bx.on (⟨b4_0, b4_1, b4_2, b4_3⟩ : Bx _ _ _ _) k5; have bel5 := bT bel4 k5) | (go_at_call 8; refine (hdiv _).mono ?_; rintro e0 w6 ⟨rfl, k6⟩; obtain ⟨a6_0, a6_1, a6_2, a6_3⟩ := Bx.on (⟨a5_0, a5_1, a5_2, a5_3⟩ : Bx _ _ _ _) k6; obtain ⟨b6_0, b6_1, b6_2, b6_3⟩ := Bx.on (⟨b5_0, b5_1, b5_2, b5_3⟩ : Bx _ _ _ _) k6; have bel6 := bT bel5 k6; obtain ⟨a6n0, a6n1, a6n2, a6n3⟩ := Bx.alloc (⟨a6_0, a6_1, a6_2, a6_3⟩ : Bx _ _ _ _) (Obj.cells #[.int .i64 0, .int .i64 0] 23); obtain ⟨b6n0, b6n1, b6n2, b6n3⟩ := Bx.alloc (⟨b6_0, b6_1, b6_2, b6_3⟩ : Bx _ _ _ _) (Obj.cells #[.int .i64 0, .int .i64 0] 23)) | (go_at_call 9; refine (hmod _).mono ?_; rintro e0 w7 ⟨rfl, k7⟩; obtain ⟨a7_0, a7_1, a7_2, a7_3⟩ := Bx.on (⟨a6n0, a6n1, a6n2, a6n3⟩ : Bx _ _ _ _) k7; obtain ⟨b7_0, b7_1, b7_2, b7_3⟩ := Bx.on (⟨b6n0, b6n1, b6n2, b6n3⟩ : Bx _ _ _ _) k7; have bel7 := bT (bel6.alloc bel6.size _) k7; obtain ⟨a7n0, a7n1, a7n2, a7n3⟩ := Bx.alloc (⟨a7_0, a7_1, a7_2, a7_3⟩ : Bx _ _ _ _) (Obj.cells #[.int .i64 0, .int .i64 0] 23); obtain ⟨b7n0, b7n1, b7n2, b7n3⟩ := Bx.alloc (⟨b7_0, b7_1, b7_2, b7_3⟩ : Bx _ _ _ _) (Obj.cells #[.int .i64 0, .int .i64 0] 23)) | (go_at_call 10; refine (hcmp _).mono ?_; rintro e0 w8 ⟨rfl, k8⟩; obtain ⟨a8_0, a8_1, a8_2, a8_3⟩ := Bx.on (⟨a7n0, a7n1, a7n2, a7n3⟩ : Bx _ _ _ _) k8; obtain ⟨b8_0, b8_1, b8_2, b8_3⟩ := Bx.on (⟨b7n0, b7n1, b7n2, b7n3⟩ : Bx _ _ _ _) k8; have bel8 := bT (bel7.alloc bel7.size _) k8) | (go_at_call 11; refine (hlv _ (Lib.hid (bel8))).mono ?_; rintro e0 wl ⟨rfl, bl⟩; have bell := bT (bel8) bl))
    go_ret
    exact ⟨rfl, bell⟩
  rw [ia] at hisA
  rw [ib] at hisB
  obtain ⟨x1, y1, E1, h1⟩ := ans_ex (hold (up ca sa (mx sa sb) + up cb sb (mx sa sb)) (mx sa sb))
  obtain ⟨x2, y2, E2, h2⟩ := ans_ex (hold (up ca sa (mx sa sb) - up cb sb (mx sa sb)) (mx sa sb))
  obtain ⟨x3, y3, E3, h3⟩ := ans_ex (hold (ca * cb) (sa + sb).toNat)
  obtain ⟨r, hr⟩ : ∃ r, cmpI (up ca sa (mx sa sb)) (up cb sb (mx sa sb)) = r := ⟨_, rfl⟩
  have hadd : ∀ w, Calls Tryz.prog 4 #[.agg #[.int .i64 ca, .int .i64 sa], .agg #[.int .i64 cb, .int .i64 sb]] w fun e w' => e = .returned (.tuple #[.agg #[.int .i64 x1, .int .i64 y1], .int .i64 E1]) ∧ Below w.heap.size w w' := fun w => by
    have h := add_any ca sa cb sb w
    rw [if_pos ⟨ia, ib⟩, h1] at h
    exact h
  have haddR : ∀ w, Calls Tryz.prog 12 #[.agg #[.int .i64 ca, .int .i64 sa], .agg #[.int .i64 cb, .int .i64 sb]] w fun e w' => e = .returned (.tuple #[.agg #[.int .i64 x1, .int .i64 y1], .int .i64 E1]) ∧ Below w.heap.size w w' := fun w => by
    have h := refAdd_any ca sa cb sb w ia ib
    rw [h1] at h
    exact h
  have hsub : ∀ w, Calls Tryz.prog 5 #[.agg #[.int .i64 ca, .int .i64 sa], .agg #[.int .i64 cb, .int .i64 sb]] w fun e w' => e = .returned (.tuple #[.agg #[.int .i64 x2, .int .i64 y2], .int .i64 E2]) ∧ Below w.heap.size w w' := fun w => by
    have h := sub_any ca sa cb sb w
    rw [if_pos ⟨ia, ib⟩, h2] at h
    exact h
  have hsubR : ∀ w, Calls Tryz.prog 13 #[.agg #[.int .i64 ca, .int .i64 sa], .agg #[.int .i64 cb, .int .i64 sb]] w fun e w' => e = .returned (.tuple #[.agg #[.int .i64 x2, .int .i64 y2], .int .i64 E2]) ∧ Below w.heap.size w w' := fun w => by
    have h := refSub_any ca sa cb sb w ia ib
    rw [h2] at h
    exact h
  have hmul : ∀ w, Calls Tryz.prog 6 #[.agg #[.int .i64 ca, .int .i64 sa], .agg #[.int .i64 cb, .int .i64 sb]] w fun e w' => e = .returned (.tuple #[.agg #[.int .i64 x3, .int .i64 y3], .int .i64 E3]) ∧ Below w.heap.size w w' := fun w => by
    have h := mul_any ca sa cb sb w
    rw [if_pos ⟨ia, ib⟩, h3] at h
    exact h
  have hmulR : ∀ w, Calls Tryz.prog 14 #[.agg #[.int .i64 ca, .int .i64 sa], .agg #[.int .i64 cb, .int .i64 sb]] w fun e w' => e = .returned (.tuple #[.agg #[.int .i64 x3, .int .i64 y3], .int .i64 E3]) ∧ Below w.heap.size w w' := fun w => by
    have h := refMul_any ca sa cb sb w ia ib
    rw [h3] at h
    exact h
  have hcmp : ∀ w, Calls Tryz.prog 10 #[.agg #[.int .i64 ca, .int .i64 sa], .agg #[.int .i64 cb, .int .i64 sb]] w fun e w' => e = .returned (.int .i64 r) ∧ Below w.heap.size w w' := fun w => by
    have h := cmp_any ca sa cb sb w
    rw [if_pos ⟨ia, ib⟩, hr] at h
    exact h
  have hcmpR : ∀ w, Calls Tryz.prog 15 #[.agg #[.int .i64 ca, .int .i64 sa], .agg #[.int .i64 cb, .int .i64 sb]] w fun e w' => e = .returned (.int .i64 r) ∧ Below w.heap.size w w' := fun w => by
    have h := refCmp_any ca sa cb sb w ia ib
    rw [hr] at h
    exact h
  have q1 := fun w => run_eqS x1 y1 w
  have q2 := fun w => run_eqS x2 y2 w
  have q3 := fun w => run_eqS x3 y3 w
  clear ia ib h1 h2 h3 hr
  go_enter Tryz.func3, Tryz.ntmps3
  go_upto_region 11 with (first | (go_at_call 4; refine (hadd _).mono ?_; rintro e0 w1 ⟨rfl, k1⟩; obtain ⟨a1_0, a1_1, a1_2, a1_3⟩ := boxed k1 (w.heap.size) (.int .i64 ca) (.int .i64 sa) (by simp [go_sem]) (by simp [go_sem]) (by simp [go_sem]) (by simp [go_sem]); obtain ⟨b1_0, b1_1, b1_2, b1_3⟩ := boxed k1 (w.heap.size + 1) (.int .i64 cb) (.int .i64 sb) (by simp [go_sem]) (by simp [go_sem]) (by simp [go_sem]) (by simp [go_sem]); have bel1 := bT (bA2 _ _ _) k1; obtain ⟨a1n0, a1n1, a1n2, a1n3⟩ := Bx.alloc (⟨a1_0, a1_1, a1_2, a1_3⟩ : Bx _ _ _ _) (Obj.cells #[.int .i64 x1, .int .i64 y1] 23); obtain ⟨b1n0, b1n1, b1n2, b1n3⟩ := Bx.alloc (⟨b1_0, b1_1, b1_2, b1_3⟩ : Bx _ _ _ _) (Obj.cells #[.int .i64 x1, .int .i64 y1] 23)) | (go_at_call 5; refine (hsub _).mono ?_; rintro e0 w2 ⟨rfl, k2⟩; obtain ⟨a2_0, a2_1, a2_2, a2_3⟩ := Bx.on (⟨a1n0, a1n1, a1n2, a1n3⟩ : Bx _ _ _ _) k2; obtain ⟨b2_0, b2_1, b2_2, b2_3⟩ := Bx.on (⟨b1n0, b1n1, b1n2, b1n3⟩ : Bx _ _ _ _) k2; obtain ⟨p2_0, p2_1, p2_2, p2_3⟩ := Bx.on (bxNew w1 (.int .i64 x1) (.int .i64 y1) 23) k2; have bel2 := bT (bel1.alloc bel1.size _) k2; obtain ⟨a2n0, a2n1, a2n2, a2n3⟩ := Bx.alloc (⟨a2_0, a2_1, a2_2, a2_3⟩ : Bx _ _ _ _) (Obj.cells #[.int .i64 x2, .int .i64 y2] 23); obtain ⟨b2n0, b2n1, b2n2, b2n3⟩ := Bx.alloc (⟨b2_0, b2_1, b2_2, b2_3⟩ : Bx _ _ _ _) (Obj.cells #[.int .i64 x2, .int .i64 y2] 23); obtain ⟨p2n0, p2n1, p2n2, p2n3⟩ := Bx.alloc (⟨p2_0, p2_1, p2_2, p2_3⟩ : Bx _ _ _ _) (Obj.cells #[.int .i64 x2, .int .i64 y2] 23)) | (go_at_call 6; refine (hmul _).mono ?_; rintro e0 w3 ⟨rfl, k3⟩; obtain ⟨a3_0, a3_1, a3_2, a3_3⟩ := Bx.on (⟨a2n0, a2n1, a2n2, a2n3⟩ : Bx _ _ _ _) k3; obtain ⟨b3_0, b3_1, b3_2, b3_3⟩ := Bx.on (⟨b2n0, b2n1, b2n2, b2n3⟩ : Bx _ _ _ _) k3; obtain ⟨p3_0, p3_1, p3_2, p3_3⟩ := Bx.on (⟨p2n0, p2n1, p2n2, p2n3⟩ : Bx _ _ _ _) k3; obtain ⟨q3_0, q3_1, q3_2, q3_3⟩ := Bx.on (bxNew w2 (.int .i64 x2) (.int .i64 y2) 23) k3; have bel3 := bT (bel2.alloc bel2.size _) k3; obtain ⟨a3n0, a3n1, a3n2, a3n3⟩ := Bx.alloc (⟨a3_0, a3_1, a3_2, a3_3⟩ : Bx _ _ _ _) (Obj.cells #[.int .i64 x3, .int .i64 y3] 23); obtain ⟨b3n0, b3n1, b3n2, b3n3⟩ := Bx.alloc (⟨b3_0, b3_1, b3_2, b3_3⟩ : Bx _ _ _ _) (Obj.cells #[.int .i64 x3, .int .i64 y3] 23); obtain ⟨p3n0, p3n1, p3n2, p3n3⟩ := Bx.alloc (⟨p3_0, p3_1, p3_2, p3_3⟩ : Bx _ _ _ _) (Obj.cells #[.int .i64 x3, .int .i64 y3] 23); obtain ⟨q3n0, q3n1, q3n2, q3n3⟩ := Bx.alloc (⟨q3_0, q3_1, q3_2, q3_3⟩ : Bx _ _ _ _) (Obj.cells #[.int .i64 x3, .int .i64 y3] 23)) | (go_at_call 7; ((with_reducible refine (hisA _).mono ?_)); rintro e0 w4 ⟨rfl, k4⟩; obtain ⟨a4_0, a4_1, a4_2, a4_3⟩ := Bx.on (⟨a3n0, a3n1, a3n2, a3n3⟩ : Bx _ _ _ _) k4; obtain ⟨b4_0, b4_1, b4_2, b4_3⟩ := Bx.on (⟨b3n0, b3n1, b3n2, b3n3⟩ : Bx _ _ _ _) k4; obtain ⟨p4_0, p4_1, p4_2, p4_3⟩ := Bx.on (⟨p3n0, p3n1, p3n2, p3n3⟩ : Bx _ _ _ _) k4; obtain ⟨q4_0, q4_1, q4_2, q4_3⟩ := Bx.on (⟨q3n0, q3n1, q3n2, q3n3⟩ : Bx _ _ _ _) k4; obtain ⟨r4_0, r4_1, r4_2, r4_3⟩ := Bx.on (bxNew w3 (.int .i64 x3) (.int .i64 y3) 23) k4; have bel4 := bT (bel3.alloc bel3.size _) k4) | (go_at_call 7; ((with_reducible refine (hisB _).mono ?_)); rintro e0 w5 ⟨rfl, k5⟩; obtain ⟨a5_0, a5_1, a5_2, a5_3⟩ := Bx.on (⟨a4_0, a4_1, a4_2, a4_3⟩ : Bx _ _ _ _) k5; obtain ⟨b5_0, b5_1, b5_2, b5_3⟩ := Bx.on (⟨b4_0, b4_1, b4_2, b4_3⟩ : Bx _ _ _ _) k5; obtain ⟨p5_0, p5_1, p5_2, p5_3⟩ := Bx.on (⟨p4_0, p4_1, p4_2, p4_3⟩ : Bx _ _ _ _) k5; obtain ⟨q5_0, q5_1, q5_2, q5_3⟩ := Bx.on (⟨q4_0, q4_1, q4_2, q4_3⟩ : Bx _ _ _ _) k5; obtain ⟨r5_0, r5_1, r5_2, r5_3⟩ := Bx.on (⟨r4_0, r4_1, r4_2, r4_3⟩ : Bx _ _ _ _) k5; have bel5 := bT bel4 k5) | (go_at_call 12; refine (haddR _).mono ?_; rintro e0 w6 ⟨rfl, k6⟩; obtain ⟨a6_0, a6_1, a6_2, a6_3⟩ := Bx.on (⟨a5_0, a5_1, a5_2, a5_3⟩ : Bx _ _ _ _) k6; obtain ⟨b6_0, b6_1, b6_2, b6_3⟩ := Bx.on (⟨b5_0, b5_1, b5_2, b5_3⟩ : Bx _ _ _ _) k6; obtain ⟨p6_0, p6_1, p6_2, p6_3⟩ := Bx.on (⟨p5_0, p5_1, p5_2, p5_3⟩ : Bx _ _ _ _) k6; obtain ⟨q6_0, q6_1, q6_2, q6_3⟩ := Bx.on (⟨q5_0, q5_1, q5_2, q5_3⟩ : Bx _ _ _ _) k6; obtain ⟨r6_0, r6_1, r6_2, r6_3⟩ := Bx.on (⟨r5_0, r5_1, r5_2, r5_3⟩ : Bx _ _ _ _) k6; have bel6 := bT bel5 k6; obtain ⟨a6n0, a6n1, a6n2, a6n3⟩ := Bx.alloc (⟨a6_0, a6_1, a6_2, a6_3⟩ : Bx _ _ _ _) (Obj.cells #[.int .i64 x1, .int .i64 y1] 23); obtain ⟨b6n0, b6n1, b6n2, b6n3⟩ := Bx.alloc (⟨b6_0, b6_1, b6_2, b6_3⟩ : Bx _ _ _ _) (Obj.cells #[.int .i64 x1, .int .i64 y1] 23); obtain ⟨p6n0, p6n1, p6n2, p6n3⟩ := Bx.alloc (⟨p6_0, p6_1, p6_2, p6_3⟩ : Bx _ _ _ _) (Obj.cells #[.int .i64 x1, .int .i64 y1] 23); obtain ⟨q6n0, q6n1, q6n2, q6n3⟩ := Bx.alloc (⟨q6_0, q6_1, q6_2, q6_3⟩ : Bx _ _ _ _) (Obj.cells #[.int .i64 x1, .int .i64 y1] 23); obtain ⟨r6n0, r6n1, r6n2, r6n3⟩ := Bx.alloc (⟨r6_0, r6_1, r6_2, r6_3⟩ : Bx _ _ _ _) (Obj.cells #[.int .i64 x1, .int .i64 y1] 23)) | (go_at_call 13; refine (hsubR _).mono ?_; rintro e0 w7 ⟨rfl, k7⟩; obtain ⟨a7_0, a7_1, a7_2, a7_3⟩ := Bx.on (⟨a6n0, a6n1, a6n2, a6n3⟩ : Bx _ _ _ _) k7; obtain ⟨b7_0, b7_1, b7_2, b7_3⟩ := Bx.on (⟨b6n0, b6n1, b6n2, b6n3⟩ : Bx _ _ _ _) k7; obtain ⟨p7_0, p7_1, p7_2, p7_3⟩ := Bx.on (⟨p6n0, p6n1, p6n2, p6n3⟩ : Bx _ _ _ _) k7; obtain ⟨q7_0, q7_1, q7_2, q7_3⟩ := Bx.on (⟨q6n0, q6n1, q6n2, q6n3⟩ : Bx _ _ _ _) k7; obtain ⟨r7_0, r7_1, r7_2, r7_3⟩ := Bx.on (⟨r6n0, r6n1, r6n2, r6n3⟩ : Bx _ _ _ _) k7; obtain ⟨u7_0, u7_1, u7_2, u7_3⟩ := Bx.on (bxNew w6 (.int .i64 x1) (.int .i64 y1) 23) k7; have bel7 := bT (bel6.alloc bel6.size _) k7; obtain ⟨a7n0, a7n1, a7n2, a7n3⟩ := Bx.alloc (⟨a7_0, a7_1, a7_2, a7_3⟩ : Bx _ _ _ _) (Obj.cells #[.int .i64 x2, .int .i64 y2] 23); obtain ⟨b7n0, b7n1, b7n2, b7n3⟩ := Bx.alloc (⟨b7_0, b7_1, b7_2, b7_3⟩ : Bx _ _ _ _) (Obj.cells #[.int .i64 x2, .int .i64 y2] 23); obtain ⟨p7n0, p7n1, p7n2, p7n3⟩ := Bx.alloc (⟨p7_0, p7_1, p7_2, p7_3⟩ : Bx _ _ _ _) (Obj.cells #[.int .i64 x2, .int .i64 y2] 23); obtain ⟨q7n0, q7n1, q7n2, q7n3⟩ := Bx.alloc (⟨q7_0, q7_1, q7_2, q7_3⟩ : Bx _ _ _ _) (Obj.cells #[.int .i64 x2, .int .i64 y2] 23); obtain ⟨r7n0, r7n1, r7n2, r7n3⟩ := Bx.alloc (⟨r7_0, r7_1, r7_2, r7_3⟩ : Bx _ _ _ _) (Obj.cells #[.int .i64 x2, .int .i64 y2] 23); obtain ⟨u7n0, u7n1, u7n2, u7n3⟩ := Bx.alloc (⟨u7_0, u7_1, u7_2, u7_3⟩ : Bx _ _ _ _) (Obj.cells #[.int .i64 x2, .int .i64 y2] 23)) | (go_at_call 14; refine (hmulR _).mono ?_; rintro e0 w8 ⟨rfl, k8⟩; obtain ⟨a8_0, a8_1, a8_2, a8_3⟩ := Bx.on (⟨a7n0, a7n1, a7n2, a7n3⟩ : Bx _ _ _ _) k8; obtain ⟨b8_0, b8_1, b8_2, b8_3⟩ := Bx.on (⟨b7n0, b7n1, b7n2, b7n3⟩ : Bx _ _ _ _) k8; obtain ⟨p8_0, p8_1, p8_2, p8_3⟩ := Bx.on (⟨p7n0, p7n1, p7n2, p7n3⟩ : Bx _ _ _ _) k8; obtain ⟨q8_0, q8_1, q8_2, q8_3⟩ := Bx.on (⟨q7n0, q7n1, q7n2, q7n3⟩ : Bx _ _ _ _) k8; obtain ⟨r8_0, r8_1, r8_2, r8_3⟩ := Bx.on (⟨r7n0, r7n1, r7n2, r7n3⟩ : Bx _ _ _ _) k8; obtain ⟨u8_0, u8_1, u8_2, u8_3⟩ := Bx.on (⟨u7n0, u7n1, u7n2, u7n3⟩ : Bx _ _ _ _) k8; obtain ⟨v8_0, v8_1, v8_2, v8_3⟩ := Bx.on (bxNew w7 (.int .i64 x2) (.int .i64 y2) 23) k8; have bel8 := bT (bel7.alloc bel7.size _) k8; obtain ⟨a8n0, a8n1, a8n2, a8n3⟩ := Bx.alloc (⟨a8_0, a8_1, a8_2, a8_3⟩ : Bx _ _ _ _) (Obj.cells #[.int .i64 x3, .int .i64 y3] 23); obtain ⟨b8n0, b8n1, b8n2, b8n3⟩ := Bx.alloc (⟨b8_0, b8_1, b8_2, b8_3⟩ : Bx _ _ _ _) (Obj.cells #[.int .i64 x3, .int .i64 y3] 23); obtain ⟨p8n0, p8n1, p8n2, p8n3⟩ := Bx.alloc (⟨p8_0, p8_1, p8_2, p8_3⟩ : Bx _ _ _ _) (Obj.cells #[.int .i64 x3, .int .i64 y3] 23); obtain ⟨q8n0, q8n1, q8n2, q8n3⟩ := Bx.alloc (⟨q8_0, q8_1, q8_2, q8_3⟩ : Bx _ _ _ _) (Obj.cells #[.int .i64 x3, .int .i64 y3] 23); obtain ⟨r8n0, r8n1, r8n2, r8n3⟩ := Bx.alloc (⟨r8_0, r8_1, r8_2, r8_3⟩ : Bx _ _ _ _) (Obj.cells #[.int .i64 x3, .int .i64 y3] 23); obtain ⟨u8n0, u8n1, u8n2, u8n3⟩ := Bx.alloc (⟨u8_0, u8_1, u8_2, u8_3⟩ : Bx _ _ _ _) (Obj.cells #[.int .i64 x3, .int .i64 y3] 23); obtain ⟨v8n0, v8n1, v8n2, v8n3⟩ := Bx.alloc (⟨v8_0, v8_1, v8_2, v8_3⟩ : Bx _ _ _ _) (Obj.cells #[.int .i64 x3, .int .i64 y3] 23)))
  have hS1 : Sv w.heap.size w [(w.heap.size, .int .i64 ca, .int .i64 sa), (w.heap.size + 1, .int .i64 cb, .int .i64 sb), (w1.heap.size, .int .i64 x1, .int .i64 y1), (w2.heap.size, .int .i64 x2, .int .i64 y2), (w3.heap.size, .int .i64 x3, .int .i64 y3), (w6.heap.size, .int .i64 x1, .int .i64 y1), (w7.heap.size, .int .i64 x2, .int .i64 y2), (w8.heap.size, .int .i64 x3, .int .i64 y3)] [] (w8.alloc (Obj.cells #[.int .i64 x3, .int .i64 y3] 23)) := by
    refine ⟨bel8.alloc bel8.size _, ?_, ?_⟩
    · intro t ht
      simp only [List.mem_cons, List.not_mem_nil, or_false] at ht
      rcases ht with rfl | rfl | rfl | rfl | rfl | rfl | rfl | rfl
      · exact (⟨a8n0, a8n1, a8n2, a8n3⟩ : Bx _ _ _ _)
      · exact (⟨b8n0, b8n1, b8n2, b8n3⟩ : Bx _ _ _ _)
      · exact (⟨p8n0, p8n1, p8n2, p8n3⟩ : Bx _ _ _ _)
      · exact (⟨q8n0, q8n1, q8n2, q8n3⟩ : Bx _ _ _ _)
      · exact (⟨r8n0, r8n1, r8n2, r8n3⟩ : Bx _ _ _ _)
      · exact (⟨u8n0, u8n1, u8n2, u8n3⟩ : Bx _ _ _ _)
      · exact (⟨v8n0, v8n1, v8n2, v8n3⟩ : Bx _ _ _ _)
      · exact bxNew w8 (.int .i64 x3) (.int .i64 y3) 23
    · intro t ht
      simp at ht
  obtain ⟨fx1, hfx1⟩ : ∃ fx : List (Nat × Value × Value), [(w.heap.size, .int .i64 ca, .int .i64 sa), (w.heap.size + 1, .int .i64 cb, .int .i64 sb), (w1.heap.size, .int .i64 x1, .int .i64 y1), (w2.heap.size, .int .i64 x2, .int .i64 y2), (w3.heap.size, .int .i64 x3, .int .i64 y3), (w6.heap.size, .int .i64 x1, .int .i64 y1), (w7.heap.size, .int .i64 x2, .int .i64 y2), (w8.heap.size, .int .i64 x3, .int .i64 y3)] = fx := ⟨_, rfl⟩
  obtain ⟨op1, hop1⟩ : ∃ op : List Nat, [] = op := ⟨_, rfl⟩
  rw [hfx1, hop1] at hS1
  have u1_0_0 := Sv.fix0 (B := w.heap.size) (o := w) (fx := fx1) (op := op1) (k := w.heap.size) (x := .int .i64 ca) (y := .int .i64 sa) (by subst hfx1; simp)
  have u1_0_1 := Sv.fix1 (B := w.heap.size) (o := w) (fx := fx1) (op := op1) (k := w.heap.size) (x := .int .i64 ca) (y := .int .i64 sa) (by subst hfx1; simp)
  have u1_1_0 := Sv.fix0 (B := w.heap.size) (o := w) (fx := fx1) (op := op1) (k := w.heap.size + 1) (x := .int .i64 cb) (y := .int .i64 sb) (by subst hfx1; simp)
  have u1_1_1 := Sv.fix1 (B := w.heap.size) (o := w) (fx := fx1) (op := op1) (k := w.heap.size + 1) (x := .int .i64 cb) (y := .int .i64 sb) (by subst hfx1; simp)
  have u1_2_0 := Sv.fix0 (B := w.heap.size) (o := w) (fx := fx1) (op := op1) (k := w1.heap.size) (x := .int .i64 x1) (y := .int .i64 y1) (by subst hfx1; simp)
  have u1_2_1 := Sv.fix1 (B := w.heap.size) (o := w) (fx := fx1) (op := op1) (k := w1.heap.size) (x := .int .i64 x1) (y := .int .i64 y1) (by subst hfx1; simp)
  have u1_3_0 := Sv.fix0 (B := w.heap.size) (o := w) (fx := fx1) (op := op1) (k := w2.heap.size) (x := .int .i64 x2) (y := .int .i64 y2) (by subst hfx1; simp)
  have u1_3_1 := Sv.fix1 (B := w.heap.size) (o := w) (fx := fx1) (op := op1) (k := w2.heap.size) (x := .int .i64 x2) (y := .int .i64 y2) (by subst hfx1; simp)
  have u1_4_0 := Sv.fix0 (B := w.heap.size) (o := w) (fx := fx1) (op := op1) (k := w3.heap.size) (x := .int .i64 x3) (y := .int .i64 y3) (by subst hfx1; simp)
  have u1_4_1 := Sv.fix1 (B := w.heap.size) (o := w) (fx := fx1) (op := op1) (k := w3.heap.size) (x := .int .i64 x3) (y := .int .i64 y3) (by subst hfx1; simp)
  have u1_5_0 := Sv.fix0 (B := w.heap.size) (o := w) (fx := fx1) (op := op1) (k := w6.heap.size) (x := .int .i64 x1) (y := .int .i64 y1) (by subst hfx1; simp)
  have u1_5_1 := Sv.fix1 (B := w.heap.size) (o := w) (fx := fx1) (op := op1) (k := w6.heap.size) (x := .int .i64 x1) (y := .int .i64 y1) (by subst hfx1; simp)
  have u1_6_0 := Sv.fix0 (B := w.heap.size) (o := w) (fx := fx1) (op := op1) (k := w7.heap.size) (x := .int .i64 x2) (y := .int .i64 y2) (by subst hfx1; simp)
  have u1_6_1 := Sv.fix1 (B := w.heap.size) (o := w) (fx := fx1) (op := op1) (k := w7.heap.size) (x := .int .i64 x2) (y := .int .i64 y2) (by subst hfx1; simp)
  have u1_7_0 := Sv.fix0 (B := w.heap.size) (o := w) (fx := fx1) (op := op1) (k := w8.heap.size) (x := .int .i64 x3) (y := .int .i64 y3) (by subst hfx1; simp)
  have u1_7_1 := Sv.fix1 (B := w.heap.size) (o := w) (fx := fx1) (op := op1) (k := w8.heap.size) (x := .int .i64 x3) (y := .int .i64 y3) (by subst hfx1; simp)
  clear hfx1 hop1
  have HS1 := Lib.hid hS1
  clear hS1
  clear a1_0 a1_1 a1_2 a1_3 b1_0 b1_1 b1_2 b1_3 a1n0 a1n1 a1n2 a1n3 b1n0 b1n1 b1n2 b1n3 a2_0 a2_1 a2_2 a2_3 b2_0 b2_1 b2_2 b2_3 p2_0 p2_1 p2_2 p2_3 a2n0 a2n1 a2n2 a2n3 b2n0 b2n1 b2n2 b2n3 p2n0 p2n1 p2n2 p2n3 a3_0 a3_1 a3_2 a3_3 b3_0 b3_1 b3_2 b3_3 p3_0 p3_1 p3_2 p3_3 q3_0 q3_1 q3_2 q3_3 a3n0 a3n1 a3n2 a3n3 b3n0 b3n1 b3n2 b3n3 p3n0 p3n1 p3n2 p3n3 q3n0 q3n1 q3n2 q3n3 a4_0 a4_1 a4_2 a4_3 b4_0 b4_1 b4_2 b4_3 p4_0 p4_1 p4_2 p4_3 q4_0 q4_1 q4_2 q4_3 r4_0 r4_1 r4_2 r4_3 a5_0 a5_1 a5_2 a5_3 b5_0 b5_1 b5_2 b5_3 p5_0 p5_1 p5_2 p5_3 q5_0 q5_1 q5_2 q5_3 r5_0 r5_1 r5_2 r5_3 a6_0 a6_1 a6_2 a6_3 b6_0 b6_1 b6_2 b6_3 p6_0 p6_1 p6_2 p6_3 q6_0 q6_1 q6_2 q6_3 r6_0 r6_1 r6_2 r6_3 a6n0 a6n1 a6n2 a6n3 b6n0 b6n1 b6n2 b6n3 p6n0 p6n1 p6n2 p6n3 q6n0 q6n1 q6n2 q6n3 r6n0 r6n1 r6n2 r6n3 a7_0 a7_1 a7_2 a7_3 b7_0 b7_1 b7_2 b7_3 p7_0 p7_1 p7_2 p7_3 q7_0 q7_1 q7_2 q7_3 r7_0 r7_1 r7_2 r7_3 u7_0 u7_1 u7_2 u7_3 a7n0 a7n1 a7n2 a7n3 b7n0 b7n1 b7n2 b7n3 p7n0 p7n1 p7n2 p7n3 q7n0 q7n1 q7n2 q7n3 r7n0 r7n1 r7n2 r7n3 u7n0 u7n1 u7n2 u7n3 a8_0 a8_1 a8_2 a8_3 b8_0 b8_1 b8_2 b8_3 p8_0 p8_1 p8_2 p8_3 q8_0 q8_1 q8_2 q8_3 r8_0 r8_1 r8_2 r8_3 u8_0 u8_1 u8_2 u8_3 v8_0 v8_1 v8_2 v8_3 a8n0 a8n1 a8n2 a8n3 b8n0 b8n1 b8n2 b8n3 p8n0 p8n1 p8n2 p8n3 q8n0 q8n1 q8n2 q8n3 r8n0 r8n1 r8n2 r8n3 u8n0 u8n1 u8n2 u8n3 v8n0 v8n1 v8n2 v8n3 hadd hsub hmul haddR hsubR hmulR hisA hisB
  go_region_held3 (Sv w.heap.size w fx1 op1) (first | assumption | exact HS1.out.drew | exact Sv.call (by assumption) (by assumption) (Nat.le_refl _))
    (first
      | (go_at_call 10; refine (hcmp _).mono ?_; rintro e0 wc ⟨rfl, bk⟩)
      | (go_at_call 15; refine (hcmpR _).mono ?_; rintro e0 wd ⟨rfl, bk⟩)
      | (go_at_call 11; refine (hlv _ (Lib.hid (And.left (by assumption : Sv w.heap.size w fx1 op1 _)))).mono ?_; rintro e0 wl ⟨rfl, bk⟩))
  rename_i HF
  have HF' := Lib.hid HF
  clear HF u1_0_0 u1_0_1 u1_1_0 u1_1_1 u1_2_0 u1_2_1 u1_3_0 u1_3_1 u1_4_0 u1_4_1 u1_5_0 u1_5_1 u1_6_0 u1_6_1 u1_7_0 u1_7_1
  go_wp2
  go_ret
  exact ⟨rfl, HF'.out.1⟩
end Nm
end Go.Proofs.YtkbmaimocoljeaaGreatDoor
