/- NumBack answers true for every two numbers. -/
import Derived.Test.YtkamjjkpaampcaaDoorNmOpen
import Derived.Test.YtkamjjkpaampcaaDoorNmOrders
import Derived.Test.YtkamjjkpaampcaaDoorNmParse
import Derived.Test.YtkamjjkpaampcaaDoorNmBackOps
namespace Go.Proofs.YtkamjjkpaampcaaDoor
open Go.RowKit
namespace Nm
theorem ptd_len (s : Nat) (l : List UInt8) : (ptd s l).length ≤ s + l.length + 2 := by
  unfold ptd
  split
  · omega
  · simp only [List.length_append, List.length_take, List.length_drop, List.length_cons, List.length_nil, fill, List.length_replicate]
    omega
theorem txt_len {c : Int} {s : Nat} (h : c.natAbs < 1000000000000000) (hs : s ≤ 9) : (txt c s).length ≤ 100 := by
  have h1 := ptd_len s (Lib.decDigits c.natAbs)
  have h2 := dec_len15 c.natAbs h
  unfold txt
  rw [List.length_append]
  split
  · rw [List.length_singleton]; omega
  · rw [List.length_nil]; omega
set_option maxRecDepth 100000 in
set_option maxHeartbeats 16000000 in
theorem numBack_any (ca sa cb sb : Int) (w : World) (hT : Tab w.heap.size w) :
    Calls Tryd.prog 6 #[nv ca sa, nv cb sb] w fun e w' => e = .returned (.bool true) ∧ Below w.heap.size w w' := by
  unfold nv
  have hlv : ∀ w', Hid (Below w.heap.size w w') → Calls Tryd.prog 16 #[] w' fun e w'' => e = .returned (.bool true) ∧ Below w'.heap.size w' w'' := fun w' h => lives_any w' (hT.on h.out) h.out.size
  by_cases ia : isB ca sa = true
  case neg =>
    have ia : isB ca sa = false := by simpa using ia
    clear hT
    go_enter Tryd.func6, Tryd.ntmps6
    go_wp2_with (first | (go_at_call 12; refine (is_c (b := false) ?_ _).mono ?_; exact ia; rintro e0 w1 ⟨rfl, k1⟩; obtain ⟨a1_0, a1_1, a1_2, a1_3⟩ := boxed k1 w.heap.size (.int .i64 ca) (.int .i64 sa) (by simp [go_sem]) (by simp [go_sem]) (by simp [go_sem]) (by simp [go_sem]); obtain ⟨b1_0, b1_1, b1_2, b1_3⟩ := boxed k1 (w.heap.size + 1) (.int .i64 cb) (.int .i64 sb) (by simp [go_sem]) (by simp [go_sem]) (by simp [go_sem]) (by simp [go_sem]); have bel1 := bT (bA2 _ _ _) k1) | (go_at_call 16; refine (hlv _ (Lib.hid (bel1))).mono ?_; rintro e0 wl ⟨rfl, bl⟩; have bell := bT (bel1) bl))
    go_ret
    exact ⟨rfl, bell⟩
  by_cases ib : isB cb sb = true
  case neg =>
    have ib : isB cb sb = false := by simpa using ib
    clear hT
    go_enter Tryd.func6, Tryd.ntmps6
    go_wp2_with (first | (go_at_call 12; refine (is_c (b := false) ?_ _).mono ?_; exact ib; rintro e0 w2 ⟨rfl, k2⟩; obtain ⟨a2_0, a2_1, a2_2, a2_3⟩ := Bx.on (⟨a1_0, a1_1, a1_2, a1_3⟩ : Bx _ _ _ _) k2; obtain ⟨b2_0, b2_1, b2_2, b2_3⟩ := Bx.on (⟨b1_0, b1_1, b1_2, b1_3⟩ : Bx _ _ _ _) k2; have bel2 := bT bel1 k2) | (go_at_call 12; refine (is_c (b := true) ?_ _).mono ?_; exact ia; rintro e0 w1 ⟨rfl, k1⟩; obtain ⟨a1_0, a1_1, a1_2, a1_3⟩ := boxed k1 w.heap.size (.int .i64 ca) (.int .i64 sa) (by simp [go_sem]) (by simp [go_sem]) (by simp [go_sem]) (by simp [go_sem]); obtain ⟨b1_0, b1_1, b1_2, b1_3⟩ := boxed k1 (w.heap.size + 1) (.int .i64 cb) (.int .i64 sb) (by simp [go_sem]) (by simp [go_sem]) (by simp [go_sem]) (by simp [go_sem]); have bel1 := bT (bA2 _ _ _) k1) | (go_at_call 16; refine (hlv _ (Lib.hid (bel2))).mono ?_; rintro e0 wl ⟨rfl, bl⟩; have bell := bT (bel2) bl))
    go_ret
    exact ⟨rfl, bell⟩
  have hia := isB_iff.1 ia
  have htx : ∃ S : ByteArray, (∀ w', Hid (Below w.heap.size w w') → Calls Tryd.prog 14 #[.agg #[.int .i64 ca, .int .i64 sa]] w' fun e w'' => e = .returned (.string S) ∧ Below w'.heap.size w' w'') ∧
      ∀ w', Calls Tryd.prog 17 #[.string S] w' fun e w'' => e = .returned (.tuple #[.agg #[.int .i64 ca, .int .i64 sa], .int .i64 0]) ∧ Below w'.heap.size w' w'' := by
    refine ⟨Nm.sb (txt ca sa.toNat), fun w' h => ?_, fun w' => ?_⟩
    · have h1 := text_any ca sa w' (hT.on h.out) h.out.size
      rw [if_pos ia] at h1
      exact h1
    · have hl := txt_len (c := ca) (s := sa.toNat) (by omega) (by omega)
      have h1 := parse_any (Nm.sb (txt ca sa.toNat)) w' (by rw [sb_size]; omega)
      have es : (sa.toNat : Int) = sa := by omega
      rw [sb_list, back (c := ca) (s := sa.toNat) (by rw [es]; exact ia)] at h1
      unfold ans nv at h1
      simp only [es] at h1
      exact h1
  obtain ⟨S, htx, hpa⟩ := htx
  clear hT
  obtain ⟨O, hO⟩ : ∃ O, hold (up ca sa (mx sa sb) + up cb sb (mx sa sb)) (mx sa sb) = O := ⟨_, rfl⟩
  obtain ⟨R, hR⟩ : ∃ R, hold (ca * cb) (sa + sb).toNat = R := ⟨_, rfl⟩
  obtain ⟨r, hr⟩ : ∃ r, cmpI (up cb sb (mx sb sa)) (up ca sa (mx sb sa)) = r := ⟨_, rfl⟩
  have hr1 : -1 ≤ r ∧ r ≤ 1 := by rw [← hr]; unfold cmpI; (repeat' split) <;> omega
  have hwr : IntKind.i64.wrap (-r) = -r := wrapS _ (by omega) (by omega)
  have hadd : ∀ w, Calls Tryd.prog 26 #[.agg #[.int .i64 ca, .int .i64 sa], .agg #[.int .i64 cb, .int .i64 sb]] w fun e w' => e = .returned (ans O) ∧ Below w.heap.size w w' := fun w => by
    have h := add_any ca sa cb sb w
    rw [if_pos ⟨ia, ib⟩, hO] at h
    exact h
  have hadd' : ∀ w, Calls Tryd.prog 26 #[.agg #[.int .i64 cb, .int .i64 sb], .agg #[.int .i64 ca, .int .i64 sa]] w fun e w' => e = .returned (ans O) ∧ Below w.heap.size w w' := fun w => by
    have h := add_any cb sb ca sa w
    rw [if_pos ⟨ib, ia⟩, add_swap, hO] at h
    exact h
  have hmul : ∀ w, Calls Tryd.prog 27 #[.agg #[.int .i64 ca, .int .i64 sa], .agg #[.int .i64 cb, .int .i64 sb]] w fun e w' => e = .returned (ans R) ∧ Below w.heap.size w w' := fun w => by
    have h := mul_any ca sa cb sb w
    rw [if_pos ⟨ia, ib⟩, hR] at h
    exact h
  have hmul' : ∀ w, Calls Tryd.prog 27 #[.agg #[.int .i64 cb, .int .i64 sb], .agg #[.int .i64 ca, .int .i64 sa]] w fun e w' => e = .returned (ans R) ∧ Below w.heap.size w w' := fun w => by
    have h := mul_any cb sb ca sa w
    rw [if_pos ⟨ib, ia⟩, mul_swap, hR] at h
    exact h
  have hcmp : ∀ w, Calls Tryd.prog 28 #[.agg #[.int .i64 ca, .int .i64 sa], .agg #[.int .i64 cb, .int .i64 sb]] w fun e w' => e = .returned (.int .i64 (-r)) ∧ Below w.heap.size w w' := fun w => by
    have h := cmp_any ca sa cb sb w
    rw [if_pos ⟨ia, ib⟩, cmp_anti, ← mx_swap, hr] at h
    exact h
  have hcmp' : ∀ w, Calls Tryd.prog 28 #[.agg #[.int .i64 cb, .int .i64 sb], .agg #[.int .i64 ca, .int .i64 sa]] w fun e w' => e = .returned (.int .i64 r) ∧ Below w.heap.size w w' := fun w => by
    have h := cmp_any cb sb ca sa w
    rw [if_pos ⟨ib, ia⟩, hr] at h
    exact h
  have hsub : ∀ c t, O = some (c, t) → ∀ w, Calls Tryd.prog 29 #[.agg #[.int .i64 c, .int .i64 t], .agg #[.int .i64 cb, .int .i64 sb]] w fun e w' => e = .returned (.tuple #[.agg #[.int .i64 ca, .int .i64 sa], .int .i64 0]) ∧ Below w.heap.size w w' := fun c t e w => by
    have h := sub_any c t cb sb w
    rw [e] at hO
    have es : (sa.toNat : Int) = sa := by omega
    rw [if_pos ⟨(hold_ok hO).1, ib⟩, sub_back ia ib hO] at h
    unfold ans nv at h
    simp only [es] at h
    exact h
  have hdiv : ∀ c t, R = some (c, t) → cb ≠ 0 → ∀ w, Calls Tryd.prog 19 #[.agg #[.int .i64 c, .int .i64 t], .agg #[.int .i64 cb, .int .i64 sb]] w fun e w' => e = .returned (.tuple #[.agg #[.int .i64 ca, .int .i64 sa], .int .i64 0]) ∧ Below w.heap.size w w' := fun c t e hy w => by
    have h := div_any c t cb sb w
    rw [e] at hR
    have es : (sa.toNat : Int) = sa := by omega
    rw [if_pos ⟨(hold_ok hR).1, ib⟩, div_back ia ib hy hR] at h
    unfold ans nv at h
    simp only [es] at h
    exact h
  clear hO hR hr hr1 hia
  obtain ⟨P, T1, T2, haddP, hmulP⟩ : ∃ P : Int → Int → Int → Int → Prop, P ca sa cb sb ∧ P cb sb ca sa ∧
      (∀ x y u v, P x y u v → ∀ w, Calls Tryd.prog 26 #[.agg #[.int .i64 x, .int .i64 y], .agg #[.int .i64 u, .int .i64 v]] w fun e w' => e = .returned (ans O) ∧ Below w.heap.size w w') ∧
      (∀ x y u v, P x y u v → ∀ w, Calls Tryd.prog 27 #[.agg #[.int .i64 x, .int .i64 y], .agg #[.int .i64 u, .int .i64 v]] w fun e w' => e = .returned (ans R) ∧ Below w.heap.size w w') :=
    ⟨fun x y u v => (x = ca ∧ y = sa ∧ u = cb ∧ v = sb) ∨ (x = cb ∧ y = sb ∧ u = ca ∧ v = sa), Or.inl ⟨rfl, rfl, rfl, rfl⟩, Or.inr ⟨rfl, rfl, rfl, rfl⟩,
      fun x y u v h w => by
        rcases h with ⟨rfl, rfl, rfl, rfl⟩ | ⟨rfl, rfl, rfl, rfl⟩
        · exact hadd w
        · exact hadd' w,
      fun x y u v h w => by
        rcases h with ⟨rfl, rfl, rfl, rfl⟩ | ⟨rfl, rfl, rfl, rfl⟩
        · exact hmul w
        · exact hmul' w⟩
  clear hadd hadd' hmul hmul'
  obtain ⟨C, C1, C2, hcmpP⟩ : ∃ C : Int → Int → Int → Int → Int → Prop, C ca sa cb sb (-r) ∧ C cb sb ca sa r ∧
      (∀ x y u v n, C x y u v n → ∀ w, Calls Tryd.prog 28 #[.agg #[.int .i64 x, .int .i64 y], .agg #[.int .i64 u, .int .i64 v]] w fun e w' => e = .returned (.int .i64 n) ∧ Below w.heap.size w w') :=
    ⟨fun x y u v n => (x = ca ∧ y = sa ∧ u = cb ∧ v = sb ∧ n = -r) ∨ (x = cb ∧ y = sb ∧ u = ca ∧ v = sa ∧ n = r), Or.inl ⟨rfl, rfl, rfl, rfl, rfl⟩, Or.inr ⟨rfl, rfl, rfl, rfl, rfl⟩,
      fun x y u v n h w => by
        rcases h with ⟨rfl, rfl, rfl, rfl, rfl⟩ | ⟨rfl, rfl, rfl, rfl, rfl⟩
        · exact hcmp w
        · exact hcmp' w⟩
  clear hcmp hcmp'
  have heqA := fun w => run_eqN ca sa ca sa w
  simp only [beq_self_eq_true, Bool.and_self] at heqA
  rcases O with _ | ⟨c0, t0⟩
  · unfold ans nv at haddP
    simp only at haddP
    clear hsub
    have heq0 := fun w => run_eqN 0 0 0 0 w
    simp only [beq_self_eq_true, Bool.and_self] at heq0
    rcases R with _ | ⟨c1, t1⟩
    · unfold ans nv at hmulP
      simp only at hmulP
      clear hdiv
      have heq1 := fun w => run_eqN 0 0 0 0 w
      simp only [beq_self_eq_true, Bool.and_self] at heq1
      go_enter Tryd.func6, Tryd.ntmps6
      go_upto_region 10 with (first | (go_at_call 12; refine (is_c (b := true) ?_ _).mono ?_; exact ib; rintro e0 w2 ⟨rfl, k2⟩; obtain ⟨a2_0, a2_1, a2_2, a2_3⟩ := Bx.on (⟨a1_0, a1_1, a1_2, a1_3⟩ : Bx _ _ _ _) k2; obtain ⟨b2_0, b2_1, b2_2, b2_3⟩ := Bx.on (⟨b1_0, b1_1, b1_2, b1_3⟩ : Bx _ _ _ _) k2; have bel2 := bT bel1 k2) | (go_at_call 12; refine (is_c (b := true) ?_ _).mono ?_; exact ia; rintro e0 w1 ⟨rfl, k1⟩; obtain ⟨a1_0, a1_1, a1_2, a1_3⟩ := boxed k1 w.heap.size (.int .i64 ca) (.int .i64 sa) (by simp [go_sem]) (by simp [go_sem]) (by simp [go_sem]) (by simp [go_sem]); obtain ⟨b1_0, b1_1, b1_2, b1_3⟩ := boxed k1 (w.heap.size + 1) (.int .i64 cb) (.int .i64 sb) (by simp [go_sem]) (by simp [go_sem]) (by simp [go_sem]) (by simp [go_sem]); have bel1 := bT (bA2 _ _ _) k1) | (go_at_call 14; refine (htx _ (Lib.hid bel2)).mono ?_; rintro e0 w3 ⟨rfl, k3⟩; obtain ⟨a3_0, a3_1, a3_2, a3_3⟩ := Bx.on (⟨a2_0, a2_1, a2_2, a2_3⟩ : Bx _ _ _ _) k3; obtain ⟨b3_0, b3_1, b3_2, b3_3⟩ := Bx.on (⟨b2_0, b2_1, b2_2, b2_3⟩ : Bx _ _ _ _) k3; have bel3 := bT bel2 k3) | (go_at_call 17; refine (hpa _).mono ?_; rintro e0 w4 ⟨rfl, k4⟩; obtain ⟨a4_0, a4_1, a4_2, a4_3⟩ := Bx.on (⟨a3_0, a3_1, a3_2, a3_3⟩ : Bx _ _ _ _) k4; obtain ⟨b4_0, b4_1, b4_2, b4_3⟩ := Bx.on (⟨b3_0, b3_1, b3_2, b3_3⟩ : Bx _ _ _ _) k4; have bel4 := bT bel3 k4; obtain ⟨a4n0, a4n1, a4n2, a4n3⟩ := Bx.alloc (⟨a4_0, a4_1, a4_2, a4_3⟩ : Bx _ _ _ _) (Obj.cells #[Value.int .i64 (ca), Value.int .i64 (sa)] 23); obtain ⟨b4n0, b4n1, b4n2, b4n3⟩ := Bx.alloc (⟨b4_0, b4_1, b4_2, b4_3⟩ : Bx _ _ _ _) (Obj.cells #[Value.int .i64 (ca), Value.int .i64 (sa)] 23)) | (go_at_call 26; refine (haddP _ _ _ _ ?_ _).mono ?_; exact T1; rintro e0 w5 ⟨rfl, k5⟩; obtain ⟨a5_0, a5_1, a5_2, a5_3⟩ := Bx.on (⟨a4n0, a4n1, a4n2, a4n3⟩ : Bx _ _ _ _) k5; obtain ⟨b5_0, b5_1, b5_2, b5_3⟩ := Bx.on (⟨b4n0, b4n1, b4n2, b4n3⟩ : Bx _ _ _ _) k5; have bel5 := bT (bel4.alloc bel4.size _) k5; obtain ⟨a5n0, a5n1, a5n2, a5n3⟩ := Bx.alloc (⟨a5_0, a5_1, a5_2, a5_3⟩ : Bx _ _ _ _) (Obj.cells #[Value.int .i64 (0), Value.int .i64 (0)] 23); obtain ⟨b5n0, b5n1, b5n2, b5n3⟩ := Bx.alloc (⟨b5_0, b5_1, b5_2, b5_3⟩ : Bx _ _ _ _) (Obj.cells #[Value.int .i64 (0), Value.int .i64 (0)] 23)) | (go_at_call 26; refine (haddP _ _ _ _ ?_ _).mono ?_; exact T2; rintro e0 w6 ⟨rfl, k6⟩; obtain ⟨a6_0, a6_1, a6_2, a6_3⟩ := Bx.on (⟨a5n0, a5n1, a5n2, a5n3⟩ : Bx _ _ _ _) k6; obtain ⟨b6_0, b6_1, b6_2, b6_3⟩ := Bx.on (⟨b5n0, b5n1, b5n2, b5n3⟩ : Bx _ _ _ _) k6; obtain ⟨s6_0, s6_1, s6_2, s6_3⟩ := Bx.on (bxNew w5 (.int .i64 0) (.int .i64 0) _) k6; have bel6 := bT (bel5.alloc bel5.size _) k6; obtain ⟨a6n0, a6n1, a6n2, a6n3⟩ := Bx.alloc (⟨a6_0, a6_1, a6_2, a6_3⟩ : Bx _ _ _ _) (Obj.cells #[Value.int .i64 (0), Value.int .i64 (0)] 23); obtain ⟨b6n0, b6n1, b6n2, b6n3⟩ := Bx.alloc (⟨b6_0, b6_1, b6_2, b6_3⟩ : Bx _ _ _ _) (Obj.cells #[Value.int .i64 (0), Value.int .i64 (0)] 23); obtain ⟨s6n0, s6n1, s6n2, s6n3⟩ := Bx.alloc (⟨s6_0, s6_1, s6_2, s6_3⟩ : Bx _ _ _ _) (Obj.cells #[Value.int .i64 (0), Value.int .i64 (0)] 23)) | (go_at_call 27; refine (hmulP _ _ _ _ ?_ _).mono ?_; exact T1; rintro e0 w7 ⟨rfl, k7⟩; obtain ⟨a7_0, a7_1, a7_2, a7_3⟩ := Bx.on (⟨a6n0, a6n1, a6n2, a6n3⟩ : Bx _ _ _ _) k7; obtain ⟨b7_0, b7_1, b7_2, b7_3⟩ := Bx.on (⟨b6n0, b6n1, b6n2, b6n3⟩ : Bx _ _ _ _) k7; obtain ⟨s7_0, s7_1, s7_2, s7_3⟩ := Bx.on (⟨s6n0, s6n1, s6n2, s6n3⟩ : Bx _ _ _ _) k7; obtain ⟨u7_0, u7_1, u7_2, u7_3⟩ := Bx.on (bxNew w6 (.int .i64 0) (.int .i64 0) _) k7; have bel7 := bT (bel6.alloc bel6.size _) k7; obtain ⟨a7n0, a7n1, a7n2, a7n3⟩ := Bx.alloc (⟨a7_0, a7_1, a7_2, a7_3⟩ : Bx _ _ _ _) (Obj.cells #[Value.int .i64 (0), Value.int .i64 (0)] 23); obtain ⟨b7n0, b7n1, b7n2, b7n3⟩ := Bx.alloc (⟨b7_0, b7_1, b7_2, b7_3⟩ : Bx _ _ _ _) (Obj.cells #[Value.int .i64 (0), Value.int .i64 (0)] 23); obtain ⟨s7n0, s7n1, s7n2, s7n3⟩ := Bx.alloc (⟨s7_0, s7_1, s7_2, s7_3⟩ : Bx _ _ _ _) (Obj.cells #[Value.int .i64 (0), Value.int .i64 (0)] 23); obtain ⟨u7n0, u7n1, u7n2, u7n3⟩ := Bx.alloc (⟨u7_0, u7_1, u7_2, u7_3⟩ : Bx _ _ _ _) (Obj.cells #[Value.int .i64 (0), Value.int .i64 (0)] 23)) | (go_at_call 27; refine (hmulP _ _ _ _ ?_ _).mono ?_; exact T2; rintro e0 w8 ⟨rfl, k8⟩; obtain ⟨a8_0, a8_1, a8_2, a8_3⟩ := Bx.on (⟨a7n0, a7n1, a7n2, a7n3⟩ : Bx _ _ _ _) k8; obtain ⟨b8_0, b8_1, b8_2, b8_3⟩ := Bx.on (⟨b7n0, b7n1, b7n2, b7n3⟩ : Bx _ _ _ _) k8; obtain ⟨s8_0, s8_1, s8_2, s8_3⟩ := Bx.on (⟨s7n0, s7n1, s7n2, s7n3⟩ : Bx _ _ _ _) k8; obtain ⟨u8_0, u8_1, u8_2, u8_3⟩ := Bx.on (⟨u7n0, u7n1, u7n2, u7n3⟩ : Bx _ _ _ _) k8; obtain ⟨p8_0, p8_1, p8_2, p8_3⟩ := Bx.on (bxNew w7 (.int .i64 0) (.int .i64 0) _) k8; have bel8 := bT (bel7.alloc bel7.size _) k8; obtain ⟨a8n0, a8n1, a8n2, a8n3⟩ := Bx.alloc (⟨a8_0, a8_1, a8_2, a8_3⟩ : Bx _ _ _ _) (Obj.cells #[Value.int .i64 (0), Value.int .i64 (0)] 23); obtain ⟨b8n0, b8n1, b8n2, b8n3⟩ := Bx.alloc (⟨b8_0, b8_1, b8_2, b8_3⟩ : Bx _ _ _ _) (Obj.cells #[Value.int .i64 (0), Value.int .i64 (0)] 23); obtain ⟨s8n0, s8n1, s8n2, s8n3⟩ := Bx.alloc (⟨s8_0, s8_1, s8_2, s8_3⟩ : Bx _ _ _ _) (Obj.cells #[Value.int .i64 (0), Value.int .i64 (0)] 23); obtain ⟨u8n0, u8n1, u8n2, u8n3⟩ := Bx.alloc (⟨u8_0, u8_1, u8_2, u8_3⟩ : Bx _ _ _ _) (Obj.cells #[Value.int .i64 (0), Value.int .i64 (0)] 23); obtain ⟨p8n0, p8n1, p8n2, p8n3⟩ := Bx.alloc (⟨p8_0, p8_1, p8_2, p8_3⟩ : Bx _ _ _ _) (Obj.cells #[Value.int .i64 (0), Value.int .i64 (0)] 23)))
      have hS1 := ((((((Sv.nil (B := w.heap.size) (o := w) (a := (w8.alloc (Obj.cells #[Value.int .i64 (0), Value.int .i64 (0)] 23))) (bel8.alloc bel8.size _)).addf (k := w8.heap.size) (x := .int .i64 0) (y := .int .i64 0) (bxNew w8 _ _ _)).addf (k := w7.heap.size) (x := .int .i64 0) (y := .int .i64 0) (Bx.alloc (⟨p8_0, p8_1, p8_2, p8_3⟩ : Bx _ _ _ _) _)).addf (k := w6.heap.size) (x := .int .i64 0) (y := .int .i64 0) (Bx.alloc (⟨u8_0, u8_1, u8_2, u8_3⟩ : Bx _ _ _ _) _)).addf (k := w5.heap.size) (x := .int .i64 0) (y := .int .i64 0) (Bx.alloc (⟨s8_0, s8_1, s8_2, s8_3⟩ : Bx _ _ _ _) _)).addf (k := (w.heap.size + 1)) (x := .int .i64 cb) (y := .int .i64 sb) (Bx.alloc (⟨b8_0, b8_1, b8_2, b8_3⟩ : Bx _ _ _ _) _)).addf (k := w.heap.size) (x := .int .i64 ca) (y := .int .i64 sa) (Bx.alloc (⟨a8_0, a8_1, a8_2, a8_3⟩ : Bx _ _ _ _) _)
      obtain ⟨fx1, hfx1⟩ : ∃ fx : List (Nat × Value × Value), [(w.heap.size, .int .i64 ca, .int .i64 sa), ((w.heap.size + 1), .int .i64 cb, .int .i64 sb), (w5.heap.size, .int .i64 0, .int .i64 0), (w6.heap.size, .int .i64 0, .int .i64 0), (w7.heap.size, .int .i64 0, .int .i64 0), (w8.heap.size, .int .i64 0, .int .i64 0)] = fx := ⟨_, rfl⟩
      obtain ⟨op1, hop1⟩ : ∃ op : List Nat, [] = op := ⟨_, rfl⟩
      rw [hfx1, hop1] at hS1
      have u1_0_0 := Sv.fix0 (B := w.heap.size) (o := w) (fx := fx1) (op := op1) (k := w.heap.size) (x := .int .i64 ca) (y := .int .i64 sa) (by subst hfx1; simp)
      have u1_0_1 := Sv.fix1 (B := w.heap.size) (o := w) (fx := fx1) (op := op1) (k := w.heap.size) (x := .int .i64 ca) (y := .int .i64 sa) (by subst hfx1; simp)
      have u1_1_0 := Sv.fix0 (B := w.heap.size) (o := w) (fx := fx1) (op := op1) (k := (w.heap.size + 1)) (x := .int .i64 cb) (y := .int .i64 sb) (by subst hfx1; simp)
      have u1_1_1 := Sv.fix1 (B := w.heap.size) (o := w) (fx := fx1) (op := op1) (k := (w.heap.size + 1)) (x := .int .i64 cb) (y := .int .i64 sb) (by subst hfx1; simp)
      have u1_2_0 := Sv.fix0 (B := w.heap.size) (o := w) (fx := fx1) (op := op1) (k := w5.heap.size) (x := .int .i64 0) (y := .int .i64 0) (by subst hfx1; simp)
      have u1_2_1 := Sv.fix1 (B := w.heap.size) (o := w) (fx := fx1) (op := op1) (k := w5.heap.size) (x := .int .i64 0) (y := .int .i64 0) (by subst hfx1; simp)
      have u1_3_0 := Sv.fix0 (B := w.heap.size) (o := w) (fx := fx1) (op := op1) (k := w6.heap.size) (x := .int .i64 0) (y := .int .i64 0) (by subst hfx1; simp)
      have u1_3_1 := Sv.fix1 (B := w.heap.size) (o := w) (fx := fx1) (op := op1) (k := w6.heap.size) (x := .int .i64 0) (y := .int .i64 0) (by subst hfx1; simp)
      have u1_4_0 := Sv.fix0 (B := w.heap.size) (o := w) (fx := fx1) (op := op1) (k := w7.heap.size) (x := .int .i64 0) (y := .int .i64 0) (by subst hfx1; simp)
      have u1_4_1 := Sv.fix1 (B := w.heap.size) (o := w) (fx := fx1) (op := op1) (k := w7.heap.size) (x := .int .i64 0) (y := .int .i64 0) (by subst hfx1; simp)
      have u1_5_0 := Sv.fix0 (B := w.heap.size) (o := w) (fx := fx1) (op := op1) (k := w8.heap.size) (x := .int .i64 0) (y := .int .i64 0) (by subst hfx1; simp)
      have u1_5_1 := Sv.fix1 (B := w.heap.size) (o := w) (fx := fx1) (op := op1) (k := w8.heap.size) (x := .int .i64 0) (y := .int .i64 0) (by subst hfx1; simp)
      have mf1_0 : (w.heap.size, .int .i64 ca, .int .i64 sa) ∈ fx1 := by subst hfx1; simp
      have mf1_1 : ((w.heap.size + 1), .int .i64 cb, .int .i64 sb) ∈ fx1 := by subst hfx1; simp
      have mf1_2 : (w5.heap.size, .int .i64 0, .int .i64 0) ∈ fx1 := by subst hfx1; simp
      have mf1_3 : (w6.heap.size, .int .i64 0, .int .i64 0) ∈ fx1 := by subst hfx1; simp
      have mf1_4 : (w7.heap.size, .int .i64 0, .int .i64 0) ∈ fx1 := by subst hfx1; simp
      have mf1_5 : (w8.heap.size, .int .i64 0, .int .i64 0) ∈ fx1 := by subst hfx1; simp
      clear hfx1 hop1
      have HS1 := Lib.hid hS1
      clear hS1
      go_region_held3 (Sv w.heap.size w fx1 op1) (first | assumption | exact HS1.out.drew | exact Sv.call (by assumption) (by assumption) (Nat.le_refl _))
        (first | (go_at_call 28; refine (hcmpP _ _ _ _ (-r) ?_ _).mono ?_; exact C1; rintro e0 wc ⟨rfl, bc⟩) | (go_at_call 28; refine (hcmpP _ _ _ _ r ?_ _).mono ?_; exact C2; rintro e0 wc ⟨rfl, bc⟩))
      rename_i HF
      have HF3 := Lib.hid HF
      clear HF
      obtain ⟨a9_0, a9_1, a9_2, a9_3⟩ := (HF3.out.2.1 _ mf1_0 : Bx _ w.heap.size (.int .i64 ca) (.int .i64 sa))
      obtain ⟨b9_0, b9_1, b9_2, b9_3⟩ := (HF3.out.2.1 _ mf1_1 : Bx _ (w.heap.size + 1) (.int .i64 cb) (.int .i64 sb))
      obtain ⟨s9_0, s9_1, s9_2, s9_3⟩ := (HF3.out.2.1 _ mf1_2 : Bx _ w5.heap.size (.int .i64 0) (.int .i64 0))
      obtain ⟨p9_0, p9_1, p9_2, p9_3⟩ := (HF3.out.2.1 _ mf1_4 : Bx _ w7.heap.size (.int .i64 0) (.int .i64 0))
      have bel9 := HF3.out.1
      clear u1_0_0 u1_0_1 u1_1_0 u1_1_1 u1_2_0 u1_2_1 u1_3_0 u1_3_1 u1_4_0 u1_4_1 u1_5_0 u1_5_1
      go_wp2_with (first | (go_at_call 16; refine (hlv _ (Lib.hid (bel9))).mono ?_; rintro e0 wl ⟨rfl, bl⟩; have bell := bT (bel9) bl))
      go_ret
      exact ⟨rfl, bell⟩
    unfold ans nv at hmulP
    simp only at hmulP
    have hdiv := hdiv c1 t1 rfl
    generalize (t1 : Int) = T1' at hmulP hdiv
    have heq1 := fun w => run_eqN c1 T1' c1 T1' w
    simp only [beq_self_eq_true, Bool.and_self] at heq1
    by_cases hy : cb = 0
    · clear hdiv
      subst hy
      go_enter Tryd.func6, Tryd.ntmps6
      go_upto_region 10 with (first | (go_at_call 12; refine (is_c (b := true) ?_ _).mono ?_; exact ib; rintro e0 w2 ⟨rfl, k2⟩; obtain ⟨a2_0, a2_1, a2_2, a2_3⟩ := Bx.on (⟨a1_0, a1_1, a1_2, a1_3⟩ : Bx _ _ _ _) k2; obtain ⟨b2_0, b2_1, b2_2, b2_3⟩ := Bx.on (⟨b1_0, b1_1, b1_2, b1_3⟩ : Bx _ _ _ _) k2; have bel2 := bT bel1 k2) | (go_at_call 12; refine (is_c (b := true) ?_ _).mono ?_; exact ia; rintro e0 w1 ⟨rfl, k1⟩; obtain ⟨a1_0, a1_1, a1_2, a1_3⟩ := boxed k1 w.heap.size (.int .i64 ca) (.int .i64 sa) (by simp [go_sem]) (by simp [go_sem]) (by simp [go_sem]) (by simp [go_sem]); obtain ⟨b1_0, b1_1, b1_2, b1_3⟩ := boxed k1 (w.heap.size + 1) (.int .i64 0) (.int .i64 sb) (by simp [go_sem]) (by simp [go_sem]) (by simp [go_sem]) (by simp [go_sem]); have bel1 := bT (bA2 _ _ _) k1) | (go_at_call 14; refine (htx _ (Lib.hid bel2)).mono ?_; rintro e0 w3 ⟨rfl, k3⟩; obtain ⟨a3_0, a3_1, a3_2, a3_3⟩ := Bx.on (⟨a2_0, a2_1, a2_2, a2_3⟩ : Bx _ _ _ _) k3; obtain ⟨b3_0, b3_1, b3_2, b3_3⟩ := Bx.on (⟨b2_0, b2_1, b2_2, b2_3⟩ : Bx _ _ _ _) k3; have bel3 := bT bel2 k3) | (go_at_call 17; refine (hpa _).mono ?_; rintro e0 w4 ⟨rfl, k4⟩; obtain ⟨a4_0, a4_1, a4_2, a4_3⟩ := Bx.on (⟨a3_0, a3_1, a3_2, a3_3⟩ : Bx _ _ _ _) k4; obtain ⟨b4_0, b4_1, b4_2, b4_3⟩ := Bx.on (⟨b3_0, b3_1, b3_2, b3_3⟩ : Bx _ _ _ _) k4; have bel4 := bT bel3 k4; obtain ⟨a4n0, a4n1, a4n2, a4n3⟩ := Bx.alloc (⟨a4_0, a4_1, a4_2, a4_3⟩ : Bx _ _ _ _) (Obj.cells #[Value.int .i64 (ca), Value.int .i64 (sa)] 23); obtain ⟨b4n0, b4n1, b4n2, b4n3⟩ := Bx.alloc (⟨b4_0, b4_1, b4_2, b4_3⟩ : Bx _ _ _ _) (Obj.cells #[Value.int .i64 (ca), Value.int .i64 (sa)] 23)) | (go_at_call 26; refine (haddP _ _ _ _ ?_ _).mono ?_; exact T1; rintro e0 w5 ⟨rfl, k5⟩; obtain ⟨a5_0, a5_1, a5_2, a5_3⟩ := Bx.on (⟨a4n0, a4n1, a4n2, a4n3⟩ : Bx _ _ _ _) k5; obtain ⟨b5_0, b5_1, b5_2, b5_3⟩ := Bx.on (⟨b4n0, b4n1, b4n2, b4n3⟩ : Bx _ _ _ _) k5; have bel5 := bT (bel4.alloc bel4.size _) k5; obtain ⟨a5n0, a5n1, a5n2, a5n3⟩ := Bx.alloc (⟨a5_0, a5_1, a5_2, a5_3⟩ : Bx _ _ _ _) (Obj.cells #[Value.int .i64 (0), Value.int .i64 (0)] 23); obtain ⟨b5n0, b5n1, b5n2, b5n3⟩ := Bx.alloc (⟨b5_0, b5_1, b5_2, b5_3⟩ : Bx _ _ _ _) (Obj.cells #[Value.int .i64 (0), Value.int .i64 (0)] 23)) | (go_at_call 26; refine (haddP _ _ _ _ ?_ _).mono ?_; exact T2; rintro e0 w6 ⟨rfl, k6⟩; obtain ⟨a6_0, a6_1, a6_2, a6_3⟩ := Bx.on (⟨a5n0, a5n1, a5n2, a5n3⟩ : Bx _ _ _ _) k6; obtain ⟨b6_0, b6_1, b6_2, b6_3⟩ := Bx.on (⟨b5n0, b5n1, b5n2, b5n3⟩ : Bx _ _ _ _) k6; obtain ⟨s6_0, s6_1, s6_2, s6_3⟩ := Bx.on (bxNew w5 (.int .i64 0) (.int .i64 0) _) k6; have bel6 := bT (bel5.alloc bel5.size _) k6; obtain ⟨a6n0, a6n1, a6n2, a6n3⟩ := Bx.alloc (⟨a6_0, a6_1, a6_2, a6_3⟩ : Bx _ _ _ _) (Obj.cells #[Value.int .i64 (0), Value.int .i64 (0)] 23); obtain ⟨b6n0, b6n1, b6n2, b6n3⟩ := Bx.alloc (⟨b6_0, b6_1, b6_2, b6_3⟩ : Bx _ _ _ _) (Obj.cells #[Value.int .i64 (0), Value.int .i64 (0)] 23); obtain ⟨s6n0, s6n1, s6n2, s6n3⟩ := Bx.alloc (⟨s6_0, s6_1, s6_2, s6_3⟩ : Bx _ _ _ _) (Obj.cells #[Value.int .i64 (0), Value.int .i64 (0)] 23)) | (go_at_call 27; refine (hmulP _ _ _ _ ?_ _).mono ?_; exact T1; rintro e0 w7 ⟨rfl, k7⟩; obtain ⟨a7_0, a7_1, a7_2, a7_3⟩ := Bx.on (⟨a6n0, a6n1, a6n2, a6n3⟩ : Bx _ _ _ _) k7; obtain ⟨b7_0, b7_1, b7_2, b7_3⟩ := Bx.on (⟨b6n0, b6n1, b6n2, b6n3⟩ : Bx _ _ _ _) k7; obtain ⟨s7_0, s7_1, s7_2, s7_3⟩ := Bx.on (⟨s6n0, s6n1, s6n2, s6n3⟩ : Bx _ _ _ _) k7; obtain ⟨u7_0, u7_1, u7_2, u7_3⟩ := Bx.on (bxNew w6 (.int .i64 0) (.int .i64 0) _) k7; have bel7 := bT (bel6.alloc bel6.size _) k7; obtain ⟨a7n0, a7n1, a7n2, a7n3⟩ := Bx.alloc (⟨a7_0, a7_1, a7_2, a7_3⟩ : Bx _ _ _ _) (Obj.cells #[Value.int .i64 (c1), Value.int .i64 (T1')] 23); obtain ⟨b7n0, b7n1, b7n2, b7n3⟩ := Bx.alloc (⟨b7_0, b7_1, b7_2, b7_3⟩ : Bx _ _ _ _) (Obj.cells #[Value.int .i64 (c1), Value.int .i64 (T1')] 23); obtain ⟨s7n0, s7n1, s7n2, s7n3⟩ := Bx.alloc (⟨s7_0, s7_1, s7_2, s7_3⟩ : Bx _ _ _ _) (Obj.cells #[Value.int .i64 (c1), Value.int .i64 (T1')] 23); obtain ⟨u7n0, u7n1, u7n2, u7n3⟩ := Bx.alloc (⟨u7_0, u7_1, u7_2, u7_3⟩ : Bx _ _ _ _) (Obj.cells #[Value.int .i64 (c1), Value.int .i64 (T1')] 23)) | (go_at_call 27; refine (hmulP _ _ _ _ ?_ _).mono ?_; exact T2; rintro e0 w8 ⟨rfl, k8⟩; obtain ⟨a8_0, a8_1, a8_2, a8_3⟩ := Bx.on (⟨a7n0, a7n1, a7n2, a7n3⟩ : Bx _ _ _ _) k8; obtain ⟨b8_0, b8_1, b8_2, b8_3⟩ := Bx.on (⟨b7n0, b7n1, b7n2, b7n3⟩ : Bx _ _ _ _) k8; obtain ⟨s8_0, s8_1, s8_2, s8_3⟩ := Bx.on (⟨s7n0, s7n1, s7n2, s7n3⟩ : Bx _ _ _ _) k8; obtain ⟨u8_0, u8_1, u8_2, u8_3⟩ := Bx.on (⟨u7n0, u7n1, u7n2, u7n3⟩ : Bx _ _ _ _) k8; obtain ⟨p8_0, p8_1, p8_2, p8_3⟩ := Bx.on (bxNew w7 (.int .i64 c1) (.int .i64 T1') _) k8; have bel8 := bT (bel7.alloc bel7.size _) k8; obtain ⟨a8n0, a8n1, a8n2, a8n3⟩ := Bx.alloc (⟨a8_0, a8_1, a8_2, a8_3⟩ : Bx _ _ _ _) (Obj.cells #[Value.int .i64 (c1), Value.int .i64 (T1')] 23); obtain ⟨b8n0, b8n1, b8n2, b8n3⟩ := Bx.alloc (⟨b8_0, b8_1, b8_2, b8_3⟩ : Bx _ _ _ _) (Obj.cells #[Value.int .i64 (c1), Value.int .i64 (T1')] 23); obtain ⟨s8n0, s8n1, s8n2, s8n3⟩ := Bx.alloc (⟨s8_0, s8_1, s8_2, s8_3⟩ : Bx _ _ _ _) (Obj.cells #[Value.int .i64 (c1), Value.int .i64 (T1')] 23); obtain ⟨u8n0, u8n1, u8n2, u8n3⟩ := Bx.alloc (⟨u8_0, u8_1, u8_2, u8_3⟩ : Bx _ _ _ _) (Obj.cells #[Value.int .i64 (c1), Value.int .i64 (T1')] 23); obtain ⟨p8n0, p8n1, p8n2, p8n3⟩ := Bx.alloc (⟨p8_0, p8_1, p8_2, p8_3⟩ : Bx _ _ _ _) (Obj.cells #[Value.int .i64 (c1), Value.int .i64 (T1')] 23)))
      have hS1 := ((((((Sv.nil (B := w.heap.size) (o := w) (a := (w8.alloc (Obj.cells #[Value.int .i64 (c1), Value.int .i64 (T1')] 23))) (bel8.alloc bel8.size _)).addf (k := w8.heap.size) (x := .int .i64 c1) (y := .int .i64 T1') (bxNew w8 _ _ _)).addf (k := w7.heap.size) (x := .int .i64 c1) (y := .int .i64 T1') (Bx.alloc (⟨p8_0, p8_1, p8_2, p8_3⟩ : Bx _ _ _ _) _)).addf (k := w6.heap.size) (x := .int .i64 0) (y := .int .i64 0) (Bx.alloc (⟨u8_0, u8_1, u8_2, u8_3⟩ : Bx _ _ _ _) _)).addf (k := w5.heap.size) (x := .int .i64 0) (y := .int .i64 0) (Bx.alloc (⟨s8_0, s8_1, s8_2, s8_3⟩ : Bx _ _ _ _) _)).addf (k := (w.heap.size + 1)) (x := .int .i64 0) (y := .int .i64 sb) (Bx.alloc (⟨b8_0, b8_1, b8_2, b8_3⟩ : Bx _ _ _ _) _)).addf (k := w.heap.size) (x := .int .i64 ca) (y := .int .i64 sa) (Bx.alloc (⟨a8_0, a8_1, a8_2, a8_3⟩ : Bx _ _ _ _) _)
      obtain ⟨fx1, hfx1⟩ : ∃ fx : List (Nat × Value × Value), [(w.heap.size, .int .i64 ca, .int .i64 sa), ((w.heap.size + 1), .int .i64 0, .int .i64 sb), (w5.heap.size, .int .i64 0, .int .i64 0), (w6.heap.size, .int .i64 0, .int .i64 0), (w7.heap.size, .int .i64 c1, .int .i64 T1'), (w8.heap.size, .int .i64 c1, .int .i64 T1')] = fx := ⟨_, rfl⟩
      obtain ⟨op1, hop1⟩ : ∃ op : List Nat, [] = op := ⟨_, rfl⟩
      rw [hfx1, hop1] at hS1
      have u1_0_0 := Sv.fix0 (B := w.heap.size) (o := w) (fx := fx1) (op := op1) (k := w.heap.size) (x := .int .i64 ca) (y := .int .i64 sa) (by subst hfx1; simp)
      have u1_0_1 := Sv.fix1 (B := w.heap.size) (o := w) (fx := fx1) (op := op1) (k := w.heap.size) (x := .int .i64 ca) (y := .int .i64 sa) (by subst hfx1; simp)
      have u1_1_0 := Sv.fix0 (B := w.heap.size) (o := w) (fx := fx1) (op := op1) (k := (w.heap.size + 1)) (x := .int .i64 0) (y := .int .i64 sb) (by subst hfx1; simp)
      have u1_1_1 := Sv.fix1 (B := w.heap.size) (o := w) (fx := fx1) (op := op1) (k := (w.heap.size + 1)) (x := .int .i64 0) (y := .int .i64 sb) (by subst hfx1; simp)
      have u1_2_0 := Sv.fix0 (B := w.heap.size) (o := w) (fx := fx1) (op := op1) (k := w5.heap.size) (x := .int .i64 0) (y := .int .i64 0) (by subst hfx1; simp)
      have u1_2_1 := Sv.fix1 (B := w.heap.size) (o := w) (fx := fx1) (op := op1) (k := w5.heap.size) (x := .int .i64 0) (y := .int .i64 0) (by subst hfx1; simp)
      have u1_3_0 := Sv.fix0 (B := w.heap.size) (o := w) (fx := fx1) (op := op1) (k := w6.heap.size) (x := .int .i64 0) (y := .int .i64 0) (by subst hfx1; simp)
      have u1_3_1 := Sv.fix1 (B := w.heap.size) (o := w) (fx := fx1) (op := op1) (k := w6.heap.size) (x := .int .i64 0) (y := .int .i64 0) (by subst hfx1; simp)
      have u1_4_0 := Sv.fix0 (B := w.heap.size) (o := w) (fx := fx1) (op := op1) (k := w7.heap.size) (x := .int .i64 c1) (y := .int .i64 T1') (by subst hfx1; simp)
      have u1_4_1 := Sv.fix1 (B := w.heap.size) (o := w) (fx := fx1) (op := op1) (k := w7.heap.size) (x := .int .i64 c1) (y := .int .i64 T1') (by subst hfx1; simp)
      have u1_5_0 := Sv.fix0 (B := w.heap.size) (o := w) (fx := fx1) (op := op1) (k := w8.heap.size) (x := .int .i64 c1) (y := .int .i64 T1') (by subst hfx1; simp)
      have u1_5_1 := Sv.fix1 (B := w.heap.size) (o := w) (fx := fx1) (op := op1) (k := w8.heap.size) (x := .int .i64 c1) (y := .int .i64 T1') (by subst hfx1; simp)
      have mf1_0 : (w.heap.size, .int .i64 ca, .int .i64 sa) ∈ fx1 := by subst hfx1; simp
      have mf1_1 : ((w.heap.size + 1), .int .i64 0, .int .i64 sb) ∈ fx1 := by subst hfx1; simp
      have mf1_2 : (w5.heap.size, .int .i64 0, .int .i64 0) ∈ fx1 := by subst hfx1; simp
      have mf1_3 : (w6.heap.size, .int .i64 0, .int .i64 0) ∈ fx1 := by subst hfx1; simp
      have mf1_4 : (w7.heap.size, .int .i64 c1, .int .i64 T1') ∈ fx1 := by subst hfx1; simp
      have mf1_5 : (w8.heap.size, .int .i64 c1, .int .i64 T1') ∈ fx1 := by subst hfx1; simp
      clear hfx1 hop1
      have HS1 := Lib.hid hS1
      clear hS1
      go_region_held3 (Sv w.heap.size w fx1 op1) (first | assumption | exact HS1.out.drew | exact Sv.call (by assumption) (by assumption) (Nat.le_refl _))
        (first | (go_at_call 28; refine (hcmpP _ _ _ _ (-r) ?_ _).mono ?_; exact C1; rintro e0 wc ⟨rfl, bc⟩) | (go_at_call 28; refine (hcmpP _ _ _ _ r ?_ _).mono ?_; exact C2; rintro e0 wc ⟨rfl, bc⟩))
      rename_i HF
      have HF3 := Lib.hid HF
      clear HF
      obtain ⟨a9_0, a9_1, a9_2, a9_3⟩ := (HF3.out.2.1 _ mf1_0 : Bx _ w.heap.size (.int .i64 ca) (.int .i64 sa))
      obtain ⟨b9_0, b9_1, b9_2, b9_3⟩ := (HF3.out.2.1 _ mf1_1 : Bx _ (w.heap.size + 1) (.int .i64 0) (.int .i64 sb))
      obtain ⟨s9_0, s9_1, s9_2, s9_3⟩ := (HF3.out.2.1 _ mf1_2 : Bx _ w5.heap.size (.int .i64 0) (.int .i64 0))
      obtain ⟨p9_0, p9_1, p9_2, p9_3⟩ := (HF3.out.2.1 _ mf1_4 : Bx _ w7.heap.size (.int .i64 c1) (.int .i64 T1'))
      have bel9 := HF3.out.1
      clear u1_0_0 u1_0_1 u1_1_0 u1_1_1 u1_2_0 u1_2_1 u1_3_0 u1_3_1 u1_4_0 u1_4_1 u1_5_0 u1_5_1
      go_wp2_with (first | (go_at_call 16; refine (hlv _ (Lib.hid (bel9))).mono ?_; rintro e0 wl ⟨rfl, bl⟩; have bell := bT (bel9) bl))
      go_ret
      exact ⟨rfl, bell⟩
    have hdiv := hdiv hy
    have hy0 : (cb == 0) = false := by simp; exact hy
    have hy1 : (cb != 0) = true := by simp; exact hy
    go_enter Tryd.func6, Tryd.ntmps6
    go_upto_region 10 with (first | (go_at_call 12; refine (is_c (b := true) ?_ _).mono ?_; exact ib; rintro e0 w2 ⟨rfl, k2⟩; obtain ⟨a2_0, a2_1, a2_2, a2_3⟩ := Bx.on (⟨a1_0, a1_1, a1_2, a1_3⟩ : Bx _ _ _ _) k2; obtain ⟨b2_0, b2_1, b2_2, b2_3⟩ := Bx.on (⟨b1_0, b1_1, b1_2, b1_3⟩ : Bx _ _ _ _) k2; have bel2 := bT bel1 k2) | (go_at_call 12; refine (is_c (b := true) ?_ _).mono ?_; exact ia; rintro e0 w1 ⟨rfl, k1⟩; obtain ⟨a1_0, a1_1, a1_2, a1_3⟩ := boxed k1 w.heap.size (.int .i64 ca) (.int .i64 sa) (by simp [go_sem]) (by simp [go_sem]) (by simp [go_sem]) (by simp [go_sem]); obtain ⟨b1_0, b1_1, b1_2, b1_3⟩ := boxed k1 (w.heap.size + 1) (.int .i64 cb) (.int .i64 sb) (by simp [go_sem]) (by simp [go_sem]) (by simp [go_sem]) (by simp [go_sem]); have bel1 := bT (bA2 _ _ _) k1) | (go_at_call 14; refine (htx _ (Lib.hid bel2)).mono ?_; rintro e0 w3 ⟨rfl, k3⟩; obtain ⟨a3_0, a3_1, a3_2, a3_3⟩ := Bx.on (⟨a2_0, a2_1, a2_2, a2_3⟩ : Bx _ _ _ _) k3; obtain ⟨b3_0, b3_1, b3_2, b3_3⟩ := Bx.on (⟨b2_0, b2_1, b2_2, b2_3⟩ : Bx _ _ _ _) k3; have bel3 := bT bel2 k3) | (go_at_call 17; refine (hpa _).mono ?_; rintro e0 w4 ⟨rfl, k4⟩; obtain ⟨a4_0, a4_1, a4_2, a4_3⟩ := Bx.on (⟨a3_0, a3_1, a3_2, a3_3⟩ : Bx _ _ _ _) k4; obtain ⟨b4_0, b4_1, b4_2, b4_3⟩ := Bx.on (⟨b3_0, b3_1, b3_2, b3_3⟩ : Bx _ _ _ _) k4; have bel4 := bT bel3 k4; obtain ⟨a4n0, a4n1, a4n2, a4n3⟩ := Bx.alloc (⟨a4_0, a4_1, a4_2, a4_3⟩ : Bx _ _ _ _) (Obj.cells #[Value.int .i64 (ca), Value.int .i64 (sa)] 23); obtain ⟨b4n0, b4n1, b4n2, b4n3⟩ := Bx.alloc (⟨b4_0, b4_1, b4_2, b4_3⟩ : Bx _ _ _ _) (Obj.cells #[Value.int .i64 (ca), Value.int .i64 (sa)] 23)) | (go_at_call 26; refine (haddP _ _ _ _ ?_ _).mono ?_; exact T1; rintro e0 w5 ⟨rfl, k5⟩; obtain ⟨a5_0, a5_1, a5_2, a5_3⟩ := Bx.on (⟨a4n0, a4n1, a4n2, a4n3⟩ : Bx _ _ _ _) k5; obtain ⟨b5_0, b5_1, b5_2, b5_3⟩ := Bx.on (⟨b4n0, b4n1, b4n2, b4n3⟩ : Bx _ _ _ _) k5; have bel5 := bT (bel4.alloc bel4.size _) k5; obtain ⟨a5n0, a5n1, a5n2, a5n3⟩ := Bx.alloc (⟨a5_0, a5_1, a5_2, a5_3⟩ : Bx _ _ _ _) (Obj.cells #[Value.int .i64 (0), Value.int .i64 (0)] 23); obtain ⟨b5n0, b5n1, b5n2, b5n3⟩ := Bx.alloc (⟨b5_0, b5_1, b5_2, b5_3⟩ : Bx _ _ _ _) (Obj.cells #[Value.int .i64 (0), Value.int .i64 (0)] 23)) | (go_at_call 26; refine (haddP _ _ _ _ ?_ _).mono ?_; exact T2; rintro e0 w6 ⟨rfl, k6⟩; obtain ⟨a6_0, a6_1, a6_2, a6_3⟩ := Bx.on (⟨a5n0, a5n1, a5n2, a5n3⟩ : Bx _ _ _ _) k6; obtain ⟨b6_0, b6_1, b6_2, b6_3⟩ := Bx.on (⟨b5n0, b5n1, b5n2, b5n3⟩ : Bx _ _ _ _) k6; obtain ⟨s6_0, s6_1, s6_2, s6_3⟩ := Bx.on (bxNew w5 (.int .i64 0) (.int .i64 0) _) k6; have bel6 := bT (bel5.alloc bel5.size _) k6; obtain ⟨a6n0, a6n1, a6n2, a6n3⟩ := Bx.alloc (⟨a6_0, a6_1, a6_2, a6_3⟩ : Bx _ _ _ _) (Obj.cells #[Value.int .i64 (0), Value.int .i64 (0)] 23); obtain ⟨b6n0, b6n1, b6n2, b6n3⟩ := Bx.alloc (⟨b6_0, b6_1, b6_2, b6_3⟩ : Bx _ _ _ _) (Obj.cells #[Value.int .i64 (0), Value.int .i64 (0)] 23); obtain ⟨s6n0, s6n1, s6n2, s6n3⟩ := Bx.alloc (⟨s6_0, s6_1, s6_2, s6_3⟩ : Bx _ _ _ _) (Obj.cells #[Value.int .i64 (0), Value.int .i64 (0)] 23)) | (go_at_call 27; refine (hmulP _ _ _ _ ?_ _).mono ?_; exact T1; rintro e0 w7 ⟨rfl, k7⟩; obtain ⟨a7_0, a7_1, a7_2, a7_3⟩ := Bx.on (⟨a6n0, a6n1, a6n2, a6n3⟩ : Bx _ _ _ _) k7; obtain ⟨b7_0, b7_1, b7_2, b7_3⟩ := Bx.on (⟨b6n0, b6n1, b6n2, b6n3⟩ : Bx _ _ _ _) k7; obtain ⟨s7_0, s7_1, s7_2, s7_3⟩ := Bx.on (⟨s6n0, s6n1, s6n2, s6n3⟩ : Bx _ _ _ _) k7; obtain ⟨u7_0, u7_1, u7_2, u7_3⟩ := Bx.on (bxNew w6 (.int .i64 0) (.int .i64 0) _) k7; have bel7 := bT (bel6.alloc bel6.size _) k7; obtain ⟨a7n0, a7n1, a7n2, a7n3⟩ := Bx.alloc (⟨a7_0, a7_1, a7_2, a7_3⟩ : Bx _ _ _ _) (Obj.cells #[Value.int .i64 (c1), Value.int .i64 (T1')] 23); obtain ⟨b7n0, b7n1, b7n2, b7n3⟩ := Bx.alloc (⟨b7_0, b7_1, b7_2, b7_3⟩ : Bx _ _ _ _) (Obj.cells #[Value.int .i64 (c1), Value.int .i64 (T1')] 23); obtain ⟨s7n0, s7n1, s7n2, s7n3⟩ := Bx.alloc (⟨s7_0, s7_1, s7_2, s7_3⟩ : Bx _ _ _ _) (Obj.cells #[Value.int .i64 (c1), Value.int .i64 (T1')] 23); obtain ⟨u7n0, u7n1, u7n2, u7n3⟩ := Bx.alloc (⟨u7_0, u7_1, u7_2, u7_3⟩ : Bx _ _ _ _) (Obj.cells #[Value.int .i64 (c1), Value.int .i64 (T1')] 23)) | (go_at_call 27; refine (hmulP _ _ _ _ ?_ _).mono ?_; exact T2; rintro e0 w8 ⟨rfl, k8⟩; obtain ⟨a8_0, a8_1, a8_2, a8_3⟩ := Bx.on (⟨a7n0, a7n1, a7n2, a7n3⟩ : Bx _ _ _ _) k8; obtain ⟨b8_0, b8_1, b8_2, b8_3⟩ := Bx.on (⟨b7n0, b7n1, b7n2, b7n3⟩ : Bx _ _ _ _) k8; obtain ⟨s8_0, s8_1, s8_2, s8_3⟩ := Bx.on (⟨s7n0, s7n1, s7n2, s7n3⟩ : Bx _ _ _ _) k8; obtain ⟨u8_0, u8_1, u8_2, u8_3⟩ := Bx.on (⟨u7n0, u7n1, u7n2, u7n3⟩ : Bx _ _ _ _) k8; obtain ⟨p8_0, p8_1, p8_2, p8_3⟩ := Bx.on (bxNew w7 (.int .i64 c1) (.int .i64 T1') _) k8; have bel8 := bT (bel7.alloc bel7.size _) k8; obtain ⟨a8n0, a8n1, a8n2, a8n3⟩ := Bx.alloc (⟨a8_0, a8_1, a8_2, a8_3⟩ : Bx _ _ _ _) (Obj.cells #[Value.int .i64 (c1), Value.int .i64 (T1')] 23); obtain ⟨b8n0, b8n1, b8n2, b8n3⟩ := Bx.alloc (⟨b8_0, b8_1, b8_2, b8_3⟩ : Bx _ _ _ _) (Obj.cells #[Value.int .i64 (c1), Value.int .i64 (T1')] 23); obtain ⟨s8n0, s8n1, s8n2, s8n3⟩ := Bx.alloc (⟨s8_0, s8_1, s8_2, s8_3⟩ : Bx _ _ _ _) (Obj.cells #[Value.int .i64 (c1), Value.int .i64 (T1')] 23); obtain ⟨u8n0, u8n1, u8n2, u8n3⟩ := Bx.alloc (⟨u8_0, u8_1, u8_2, u8_3⟩ : Bx _ _ _ _) (Obj.cells #[Value.int .i64 (c1), Value.int .i64 (T1')] 23); obtain ⟨p8n0, p8n1, p8n2, p8n3⟩ := Bx.alloc (⟨p8_0, p8_1, p8_2, p8_3⟩ : Bx _ _ _ _) (Obj.cells #[Value.int .i64 (c1), Value.int .i64 (T1')] 23)))
    have hS1 := ((((((Sv.nil (B := w.heap.size) (o := w) (a := (w8.alloc (Obj.cells #[Value.int .i64 (c1), Value.int .i64 (T1')] 23))) (bel8.alloc bel8.size _)).addf (k := w8.heap.size) (x := .int .i64 c1) (y := .int .i64 T1') (bxNew w8 _ _ _)).addf (k := w7.heap.size) (x := .int .i64 c1) (y := .int .i64 T1') (Bx.alloc (⟨p8_0, p8_1, p8_2, p8_3⟩ : Bx _ _ _ _) _)).addf (k := w6.heap.size) (x := .int .i64 0) (y := .int .i64 0) (Bx.alloc (⟨u8_0, u8_1, u8_2, u8_3⟩ : Bx _ _ _ _) _)).addf (k := w5.heap.size) (x := .int .i64 0) (y := .int .i64 0) (Bx.alloc (⟨s8_0, s8_1, s8_2, s8_3⟩ : Bx _ _ _ _) _)).addf (k := (w.heap.size + 1)) (x := .int .i64 cb) (y := .int .i64 sb) (Bx.alloc (⟨b8_0, b8_1, b8_2, b8_3⟩ : Bx _ _ _ _) _)).addf (k := w.heap.size) (x := .int .i64 ca) (y := .int .i64 sa) (Bx.alloc (⟨a8_0, a8_1, a8_2, a8_3⟩ : Bx _ _ _ _) _)
    obtain ⟨fx1, hfx1⟩ : ∃ fx : List (Nat × Value × Value), [(w.heap.size, .int .i64 ca, .int .i64 sa), ((w.heap.size + 1), .int .i64 cb, .int .i64 sb), (w5.heap.size, .int .i64 0, .int .i64 0), (w6.heap.size, .int .i64 0, .int .i64 0), (w7.heap.size, .int .i64 c1, .int .i64 T1'), (w8.heap.size, .int .i64 c1, .int .i64 T1')] = fx := ⟨_, rfl⟩
    obtain ⟨op1, hop1⟩ : ∃ op : List Nat, [] = op := ⟨_, rfl⟩
    rw [hfx1, hop1] at hS1
    have u1_0_0 := Sv.fix0 (B := w.heap.size) (o := w) (fx := fx1) (op := op1) (k := w.heap.size) (x := .int .i64 ca) (y := .int .i64 sa) (by subst hfx1; simp)
    have u1_0_1 := Sv.fix1 (B := w.heap.size) (o := w) (fx := fx1) (op := op1) (k := w.heap.size) (x := .int .i64 ca) (y := .int .i64 sa) (by subst hfx1; simp)
    have u1_1_0 := Sv.fix0 (B := w.heap.size) (o := w) (fx := fx1) (op := op1) (k := (w.heap.size + 1)) (x := .int .i64 cb) (y := .int .i64 sb) (by subst hfx1; simp)
    have u1_1_1 := Sv.fix1 (B := w.heap.size) (o := w) (fx := fx1) (op := op1) (k := (w.heap.size + 1)) (x := .int .i64 cb) (y := .int .i64 sb) (by subst hfx1; simp)
    have u1_2_0 := Sv.fix0 (B := w.heap.size) (o := w) (fx := fx1) (op := op1) (k := w5.heap.size) (x := .int .i64 0) (y := .int .i64 0) (by subst hfx1; simp)
    have u1_2_1 := Sv.fix1 (B := w.heap.size) (o := w) (fx := fx1) (op := op1) (k := w5.heap.size) (x := .int .i64 0) (y := .int .i64 0) (by subst hfx1; simp)
    have u1_3_0 := Sv.fix0 (B := w.heap.size) (o := w) (fx := fx1) (op := op1) (k := w6.heap.size) (x := .int .i64 0) (y := .int .i64 0) (by subst hfx1; simp)
    have u1_3_1 := Sv.fix1 (B := w.heap.size) (o := w) (fx := fx1) (op := op1) (k := w6.heap.size) (x := .int .i64 0) (y := .int .i64 0) (by subst hfx1; simp)
    have u1_4_0 := Sv.fix0 (B := w.heap.size) (o := w) (fx := fx1) (op := op1) (k := w7.heap.size) (x := .int .i64 c1) (y := .int .i64 T1') (by subst hfx1; simp)
    have u1_4_1 := Sv.fix1 (B := w.heap.size) (o := w) (fx := fx1) (op := op1) (k := w7.heap.size) (x := .int .i64 c1) (y := .int .i64 T1') (by subst hfx1; simp)
    have u1_5_0 := Sv.fix0 (B := w.heap.size) (o := w) (fx := fx1) (op := op1) (k := w8.heap.size) (x := .int .i64 c1) (y := .int .i64 T1') (by subst hfx1; simp)
    have u1_5_1 := Sv.fix1 (B := w.heap.size) (o := w) (fx := fx1) (op := op1) (k := w8.heap.size) (x := .int .i64 c1) (y := .int .i64 T1') (by subst hfx1; simp)
    have mf1_0 : (w.heap.size, .int .i64 ca, .int .i64 sa) ∈ fx1 := by subst hfx1; simp
    have mf1_1 : ((w.heap.size + 1), .int .i64 cb, .int .i64 sb) ∈ fx1 := by subst hfx1; simp
    have mf1_2 : (w5.heap.size, .int .i64 0, .int .i64 0) ∈ fx1 := by subst hfx1; simp
    have mf1_3 : (w6.heap.size, .int .i64 0, .int .i64 0) ∈ fx1 := by subst hfx1; simp
    have mf1_4 : (w7.heap.size, .int .i64 c1, .int .i64 T1') ∈ fx1 := by subst hfx1; simp
    have mf1_5 : (w8.heap.size, .int .i64 c1, .int .i64 T1') ∈ fx1 := by subst hfx1; simp
    clear hfx1 hop1
    have HS1 := Lib.hid hS1
    clear hS1
    go_region_held3 (Sv w.heap.size w fx1 op1) (first | assumption | exact HS1.out.drew | exact Sv.call (by assumption) (by assumption) (Nat.le_refl _))
      (first | (go_at_call 28; refine (hcmpP _ _ _ _ (-r) ?_ _).mono ?_; exact C1; rintro e0 wc ⟨rfl, bc⟩) | (go_at_call 28; refine (hcmpP _ _ _ _ r ?_ _).mono ?_; exact C2; rintro e0 wc ⟨rfl, bc⟩))
    rename_i HF
    have HF3 := Lib.hid HF
    clear HF
    obtain ⟨a9_0, a9_1, a9_2, a9_3⟩ := (HF3.out.2.1 _ mf1_0 : Bx _ w.heap.size (.int .i64 ca) (.int .i64 sa))
    obtain ⟨b9_0, b9_1, b9_2, b9_3⟩ := (HF3.out.2.1 _ mf1_1 : Bx _ (w.heap.size + 1) (.int .i64 cb) (.int .i64 sb))
    obtain ⟨s9_0, s9_1, s9_2, s9_3⟩ := (HF3.out.2.1 _ mf1_2 : Bx _ w5.heap.size (.int .i64 0) (.int .i64 0))
    obtain ⟨p9_0, p9_1, p9_2, p9_3⟩ := (HF3.out.2.1 _ mf1_4 : Bx _ w7.heap.size (.int .i64 c1) (.int .i64 T1'))
    have bel9 := HF3.out.1
    clear u1_0_0 u1_0_1 u1_1_0 u1_1_1 u1_2_0 u1_2_1 u1_3_0 u1_3_1 u1_4_0 u1_4_1 u1_5_0 u1_5_1
    go_wp2_with (first | (go_at_call 19; refine (hdiv _).mono ?_; rintro e0 w10 ⟨rfl, k10⟩; obtain ⟨a10_0, a10_1, a10_2, a10_3⟩ := Bx.on (⟨a9_0, a9_1, a9_2, a9_3⟩ : Bx _ _ _ _) k10; obtain ⟨b10_0, b10_1, b10_2, b10_3⟩ := Bx.on (⟨b9_0, b9_1, b9_2, b9_3⟩ : Bx _ _ _ _) k10; obtain ⟨s10_0, s10_1, s10_2, s10_3⟩ := Bx.on (⟨s9_0, s9_1, s9_2, s9_3⟩ : Bx _ _ _ _) k10; have bel10 := bT bel9 k10; obtain ⟨a10n0, a10n1, a10n2, a10n3⟩ := Bx.alloc (⟨a10_0, a10_1, a10_2, a10_3⟩ : Bx _ _ _ _) (Obj.cells #[Value.int .i64 (ca), Value.int .i64 (sa)] 23); obtain ⟨b10n0, b10n1, b10n2, b10n3⟩ := Bx.alloc (⟨b10_0, b10_1, b10_2, b10_3⟩ : Bx _ _ _ _) (Obj.cells #[Value.int .i64 (ca), Value.int .i64 (sa)] 23); obtain ⟨s10n0, s10n1, s10n2, s10n3⟩ := Bx.alloc (⟨s10_0, s10_1, s10_2, s10_3⟩ : Bx _ _ _ _) (Obj.cells #[Value.int .i64 (ca), Value.int .i64 (sa)] 23)) | (go_at_call 16; refine (hlv _ (Lib.hid (bel10.alloc bel10.size _))).mono ?_; rintro e0 wl ⟨rfl, bl⟩; have bell := bT (bel10.alloc bel10.size _) bl))
    go_ret
    exact ⟨rfl, bell⟩
  unfold ans nv at haddP
  simp only at haddP
  have hsub := hsub c0 t0 rfl
  generalize (t0 : Int) = T0' at haddP hsub
  have heq0 := fun w => run_eqN c0 T0' c0 T0' w
  simp only [beq_self_eq_true, Bool.and_self] at heq0
  rcases R with _ | ⟨c1, t1⟩
  · unfold ans nv at hmulP
    simp only at hmulP
    clear hdiv
    have heq1 := fun w => run_eqN 0 0 0 0 w
    simp only [beq_self_eq_true, Bool.and_self] at heq1
    go_enter Tryd.func6, Tryd.ntmps6
    go_upto_region 10 with (first | (go_at_call 12; refine (is_c (b := true) ?_ _).mono ?_; exact ib; rintro e0 w2 ⟨rfl, k2⟩; obtain ⟨a2_0, a2_1, a2_2, a2_3⟩ := Bx.on (⟨a1_0, a1_1, a1_2, a1_3⟩ : Bx _ _ _ _) k2; obtain ⟨b2_0, b2_1, b2_2, b2_3⟩ := Bx.on (⟨b1_0, b1_1, b1_2, b1_3⟩ : Bx _ _ _ _) k2; have bel2 := bT bel1 k2) | (go_at_call 12; refine (is_c (b := true) ?_ _).mono ?_; exact ia; rintro e0 w1 ⟨rfl, k1⟩; obtain ⟨a1_0, a1_1, a1_2, a1_3⟩ := boxed k1 w.heap.size (.int .i64 ca) (.int .i64 sa) (by simp [go_sem]) (by simp [go_sem]) (by simp [go_sem]) (by simp [go_sem]); obtain ⟨b1_0, b1_1, b1_2, b1_3⟩ := boxed k1 (w.heap.size + 1) (.int .i64 cb) (.int .i64 sb) (by simp [go_sem]) (by simp [go_sem]) (by simp [go_sem]) (by simp [go_sem]); have bel1 := bT (bA2 _ _ _) k1) | (go_at_call 14; refine (htx _ (Lib.hid bel2)).mono ?_; rintro e0 w3 ⟨rfl, k3⟩; obtain ⟨a3_0, a3_1, a3_2, a3_3⟩ := Bx.on (⟨a2_0, a2_1, a2_2, a2_3⟩ : Bx _ _ _ _) k3; obtain ⟨b3_0, b3_1, b3_2, b3_3⟩ := Bx.on (⟨b2_0, b2_1, b2_2, b2_3⟩ : Bx _ _ _ _) k3; have bel3 := bT bel2 k3) | (go_at_call 17; refine (hpa _).mono ?_; rintro e0 w4 ⟨rfl, k4⟩; obtain ⟨a4_0, a4_1, a4_2, a4_3⟩ := Bx.on (⟨a3_0, a3_1, a3_2, a3_3⟩ : Bx _ _ _ _) k4; obtain ⟨b4_0, b4_1, b4_2, b4_3⟩ := Bx.on (⟨b3_0, b3_1, b3_2, b3_3⟩ : Bx _ _ _ _) k4; have bel4 := bT bel3 k4; obtain ⟨a4n0, a4n1, a4n2, a4n3⟩ := Bx.alloc (⟨a4_0, a4_1, a4_2, a4_3⟩ : Bx _ _ _ _) (Obj.cells #[Value.int .i64 (ca), Value.int .i64 (sa)] 23); obtain ⟨b4n0, b4n1, b4n2, b4n3⟩ := Bx.alloc (⟨b4_0, b4_1, b4_2, b4_3⟩ : Bx _ _ _ _) (Obj.cells #[Value.int .i64 (ca), Value.int .i64 (sa)] 23)) | (go_at_call 26; refine (haddP _ _ _ _ ?_ _).mono ?_; exact T1; rintro e0 w5 ⟨rfl, k5⟩; obtain ⟨a5_0, a5_1, a5_2, a5_3⟩ := Bx.on (⟨a4n0, a4n1, a4n2, a4n3⟩ : Bx _ _ _ _) k5; obtain ⟨b5_0, b5_1, b5_2, b5_3⟩ := Bx.on (⟨b4n0, b4n1, b4n2, b4n3⟩ : Bx _ _ _ _) k5; have bel5 := bT (bel4.alloc bel4.size _) k5; obtain ⟨a5n0, a5n1, a5n2, a5n3⟩ := Bx.alloc (⟨a5_0, a5_1, a5_2, a5_3⟩ : Bx _ _ _ _) (Obj.cells #[Value.int .i64 (c0), Value.int .i64 (T0')] 23); obtain ⟨b5n0, b5n1, b5n2, b5n3⟩ := Bx.alloc (⟨b5_0, b5_1, b5_2, b5_3⟩ : Bx _ _ _ _) (Obj.cells #[Value.int .i64 (c0), Value.int .i64 (T0')] 23)) | (go_at_call 26; refine (haddP _ _ _ _ ?_ _).mono ?_; exact T2; rintro e0 w6 ⟨rfl, k6⟩; obtain ⟨a6_0, a6_1, a6_2, a6_3⟩ := Bx.on (⟨a5n0, a5n1, a5n2, a5n3⟩ : Bx _ _ _ _) k6; obtain ⟨b6_0, b6_1, b6_2, b6_3⟩ := Bx.on (⟨b5n0, b5n1, b5n2, b5n3⟩ : Bx _ _ _ _) k6; obtain ⟨s6_0, s6_1, s6_2, s6_3⟩ := Bx.on (bxNew w5 (.int .i64 c0) (.int .i64 T0') _) k6; have bel6 := bT (bel5.alloc bel5.size _) k6; obtain ⟨a6n0, a6n1, a6n2, a6n3⟩ := Bx.alloc (⟨a6_0, a6_1, a6_2, a6_3⟩ : Bx _ _ _ _) (Obj.cells #[Value.int .i64 (c0), Value.int .i64 (T0')] 23); obtain ⟨b6n0, b6n1, b6n2, b6n3⟩ := Bx.alloc (⟨b6_0, b6_1, b6_2, b6_3⟩ : Bx _ _ _ _) (Obj.cells #[Value.int .i64 (c0), Value.int .i64 (T0')] 23); obtain ⟨s6n0, s6n1, s6n2, s6n3⟩ := Bx.alloc (⟨s6_0, s6_1, s6_2, s6_3⟩ : Bx _ _ _ _) (Obj.cells #[Value.int .i64 (c0), Value.int .i64 (T0')] 23)) | (go_at_call 27; refine (hmulP _ _ _ _ ?_ _).mono ?_; exact T1; rintro e0 w7 ⟨rfl, k7⟩; obtain ⟨a7_0, a7_1, a7_2, a7_3⟩ := Bx.on (⟨a6n0, a6n1, a6n2, a6n3⟩ : Bx _ _ _ _) k7; obtain ⟨b7_0, b7_1, b7_2, b7_3⟩ := Bx.on (⟨b6n0, b6n1, b6n2, b6n3⟩ : Bx _ _ _ _) k7; obtain ⟨s7_0, s7_1, s7_2, s7_3⟩ := Bx.on (⟨s6n0, s6n1, s6n2, s6n3⟩ : Bx _ _ _ _) k7; obtain ⟨u7_0, u7_1, u7_2, u7_3⟩ := Bx.on (bxNew w6 (.int .i64 c0) (.int .i64 T0') _) k7; have bel7 := bT (bel6.alloc bel6.size _) k7; obtain ⟨a7n0, a7n1, a7n2, a7n3⟩ := Bx.alloc (⟨a7_0, a7_1, a7_2, a7_3⟩ : Bx _ _ _ _) (Obj.cells #[Value.int .i64 (0), Value.int .i64 (0)] 23); obtain ⟨b7n0, b7n1, b7n2, b7n3⟩ := Bx.alloc (⟨b7_0, b7_1, b7_2, b7_3⟩ : Bx _ _ _ _) (Obj.cells #[Value.int .i64 (0), Value.int .i64 (0)] 23); obtain ⟨s7n0, s7n1, s7n2, s7n3⟩ := Bx.alloc (⟨s7_0, s7_1, s7_2, s7_3⟩ : Bx _ _ _ _) (Obj.cells #[Value.int .i64 (0), Value.int .i64 (0)] 23); obtain ⟨u7n0, u7n1, u7n2, u7n3⟩ := Bx.alloc (⟨u7_0, u7_1, u7_2, u7_3⟩ : Bx _ _ _ _) (Obj.cells #[Value.int .i64 (0), Value.int .i64 (0)] 23)) | (go_at_call 27; refine (hmulP _ _ _ _ ?_ _).mono ?_; exact T2; rintro e0 w8 ⟨rfl, k8⟩; obtain ⟨a8_0, a8_1, a8_2, a8_3⟩ := Bx.on (⟨a7n0, a7n1, a7n2, a7n3⟩ : Bx _ _ _ _) k8; obtain ⟨b8_0, b8_1, b8_2, b8_3⟩ := Bx.on (⟨b7n0, b7n1, b7n2, b7n3⟩ : Bx _ _ _ _) k8; obtain ⟨s8_0, s8_1, s8_2, s8_3⟩ := Bx.on (⟨s7n0, s7n1, s7n2, s7n3⟩ : Bx _ _ _ _) k8; obtain ⟨u8_0, u8_1, u8_2, u8_3⟩ := Bx.on (⟨u7n0, u7n1, u7n2, u7n3⟩ : Bx _ _ _ _) k8; obtain ⟨p8_0, p8_1, p8_2, p8_3⟩ := Bx.on (bxNew w7 (.int .i64 0) (.int .i64 0) _) k8; have bel8 := bT (bel7.alloc bel7.size _) k8; obtain ⟨a8n0, a8n1, a8n2, a8n3⟩ := Bx.alloc (⟨a8_0, a8_1, a8_2, a8_3⟩ : Bx _ _ _ _) (Obj.cells #[Value.int .i64 (0), Value.int .i64 (0)] 23); obtain ⟨b8n0, b8n1, b8n2, b8n3⟩ := Bx.alloc (⟨b8_0, b8_1, b8_2, b8_3⟩ : Bx _ _ _ _) (Obj.cells #[Value.int .i64 (0), Value.int .i64 (0)] 23); obtain ⟨s8n0, s8n1, s8n2, s8n3⟩ := Bx.alloc (⟨s8_0, s8_1, s8_2, s8_3⟩ : Bx _ _ _ _) (Obj.cells #[Value.int .i64 (0), Value.int .i64 (0)] 23); obtain ⟨u8n0, u8n1, u8n2, u8n3⟩ := Bx.alloc (⟨u8_0, u8_1, u8_2, u8_3⟩ : Bx _ _ _ _) (Obj.cells #[Value.int .i64 (0), Value.int .i64 (0)] 23); obtain ⟨p8n0, p8n1, p8n2, p8n3⟩ := Bx.alloc (⟨p8_0, p8_1, p8_2, p8_3⟩ : Bx _ _ _ _) (Obj.cells #[Value.int .i64 (0), Value.int .i64 (0)] 23)))
    have hS1 := ((((((Sv.nil (B := w.heap.size) (o := w) (a := (w8.alloc (Obj.cells #[Value.int .i64 (0), Value.int .i64 (0)] 23))) (bel8.alloc bel8.size _)).addf (k := w8.heap.size) (x := .int .i64 0) (y := .int .i64 0) (bxNew w8 _ _ _)).addf (k := w7.heap.size) (x := .int .i64 0) (y := .int .i64 0) (Bx.alloc (⟨p8_0, p8_1, p8_2, p8_3⟩ : Bx _ _ _ _) _)).addf (k := w6.heap.size) (x := .int .i64 c0) (y := .int .i64 T0') (Bx.alloc (⟨u8_0, u8_1, u8_2, u8_3⟩ : Bx _ _ _ _) _)).addf (k := w5.heap.size) (x := .int .i64 c0) (y := .int .i64 T0') (Bx.alloc (⟨s8_0, s8_1, s8_2, s8_3⟩ : Bx _ _ _ _) _)).addf (k := (w.heap.size + 1)) (x := .int .i64 cb) (y := .int .i64 sb) (Bx.alloc (⟨b8_0, b8_1, b8_2, b8_3⟩ : Bx _ _ _ _) _)).addf (k := w.heap.size) (x := .int .i64 ca) (y := .int .i64 sa) (Bx.alloc (⟨a8_0, a8_1, a8_2, a8_3⟩ : Bx _ _ _ _) _)
    obtain ⟨fx1, hfx1⟩ : ∃ fx : List (Nat × Value × Value), [(w.heap.size, .int .i64 ca, .int .i64 sa), ((w.heap.size + 1), .int .i64 cb, .int .i64 sb), (w5.heap.size, .int .i64 c0, .int .i64 T0'), (w6.heap.size, .int .i64 c0, .int .i64 T0'), (w7.heap.size, .int .i64 0, .int .i64 0), (w8.heap.size, .int .i64 0, .int .i64 0)] = fx := ⟨_, rfl⟩
    obtain ⟨op1, hop1⟩ : ∃ op : List Nat, [] = op := ⟨_, rfl⟩
    rw [hfx1, hop1] at hS1
    have u1_0_0 := Sv.fix0 (B := w.heap.size) (o := w) (fx := fx1) (op := op1) (k := w.heap.size) (x := .int .i64 ca) (y := .int .i64 sa) (by subst hfx1; simp)
    have u1_0_1 := Sv.fix1 (B := w.heap.size) (o := w) (fx := fx1) (op := op1) (k := w.heap.size) (x := .int .i64 ca) (y := .int .i64 sa) (by subst hfx1; simp)
    have u1_1_0 := Sv.fix0 (B := w.heap.size) (o := w) (fx := fx1) (op := op1) (k := (w.heap.size + 1)) (x := .int .i64 cb) (y := .int .i64 sb) (by subst hfx1; simp)
    have u1_1_1 := Sv.fix1 (B := w.heap.size) (o := w) (fx := fx1) (op := op1) (k := (w.heap.size + 1)) (x := .int .i64 cb) (y := .int .i64 sb) (by subst hfx1; simp)
    have u1_2_0 := Sv.fix0 (B := w.heap.size) (o := w) (fx := fx1) (op := op1) (k := w5.heap.size) (x := .int .i64 c0) (y := .int .i64 T0') (by subst hfx1; simp)
    have u1_2_1 := Sv.fix1 (B := w.heap.size) (o := w) (fx := fx1) (op := op1) (k := w5.heap.size) (x := .int .i64 c0) (y := .int .i64 T0') (by subst hfx1; simp)
    have u1_3_0 := Sv.fix0 (B := w.heap.size) (o := w) (fx := fx1) (op := op1) (k := w6.heap.size) (x := .int .i64 c0) (y := .int .i64 T0') (by subst hfx1; simp)
    have u1_3_1 := Sv.fix1 (B := w.heap.size) (o := w) (fx := fx1) (op := op1) (k := w6.heap.size) (x := .int .i64 c0) (y := .int .i64 T0') (by subst hfx1; simp)
    have u1_4_0 := Sv.fix0 (B := w.heap.size) (o := w) (fx := fx1) (op := op1) (k := w7.heap.size) (x := .int .i64 0) (y := .int .i64 0) (by subst hfx1; simp)
    have u1_4_1 := Sv.fix1 (B := w.heap.size) (o := w) (fx := fx1) (op := op1) (k := w7.heap.size) (x := .int .i64 0) (y := .int .i64 0) (by subst hfx1; simp)
    have u1_5_0 := Sv.fix0 (B := w.heap.size) (o := w) (fx := fx1) (op := op1) (k := w8.heap.size) (x := .int .i64 0) (y := .int .i64 0) (by subst hfx1; simp)
    have u1_5_1 := Sv.fix1 (B := w.heap.size) (o := w) (fx := fx1) (op := op1) (k := w8.heap.size) (x := .int .i64 0) (y := .int .i64 0) (by subst hfx1; simp)
    have mf1_0 : (w.heap.size, .int .i64 ca, .int .i64 sa) ∈ fx1 := by subst hfx1; simp
    have mf1_1 : ((w.heap.size + 1), .int .i64 cb, .int .i64 sb) ∈ fx1 := by subst hfx1; simp
    have mf1_2 : (w5.heap.size, .int .i64 c0, .int .i64 T0') ∈ fx1 := by subst hfx1; simp
    have mf1_3 : (w6.heap.size, .int .i64 c0, .int .i64 T0') ∈ fx1 := by subst hfx1; simp
    have mf1_4 : (w7.heap.size, .int .i64 0, .int .i64 0) ∈ fx1 := by subst hfx1; simp
    have mf1_5 : (w8.heap.size, .int .i64 0, .int .i64 0) ∈ fx1 := by subst hfx1; simp
    clear hfx1 hop1
    have HS1 := Lib.hid hS1
    clear hS1
    go_region_held3 (Sv w.heap.size w fx1 op1) (first | assumption | exact HS1.out.drew | exact Sv.call (by assumption) (by assumption) (Nat.le_refl _))
      (first | (go_at_call 28; refine (hcmpP _ _ _ _ (-r) ?_ _).mono ?_; exact C1; rintro e0 wc ⟨rfl, bc⟩) | (go_at_call 28; refine (hcmpP _ _ _ _ r ?_ _).mono ?_; exact C2; rintro e0 wc ⟨rfl, bc⟩))
    rename_i HF
    have HF3 := Lib.hid HF
    clear HF
    obtain ⟨a9_0, a9_1, a9_2, a9_3⟩ := (HF3.out.2.1 _ mf1_0 : Bx _ w.heap.size (.int .i64 ca) (.int .i64 sa))
    obtain ⟨b9_0, b9_1, b9_2, b9_3⟩ := (HF3.out.2.1 _ mf1_1 : Bx _ (w.heap.size + 1) (.int .i64 cb) (.int .i64 sb))
    obtain ⟨s9_0, s9_1, s9_2, s9_3⟩ := (HF3.out.2.1 _ mf1_2 : Bx _ w5.heap.size (.int .i64 c0) (.int .i64 T0'))
    obtain ⟨p9_0, p9_1, p9_2, p9_3⟩ := (HF3.out.2.1 _ mf1_4 : Bx _ w7.heap.size (.int .i64 0) (.int .i64 0))
    have bel9 := HF3.out.1
    clear u1_0_0 u1_0_1 u1_1_0 u1_1_1 u1_2_0 u1_2_1 u1_3_0 u1_3_1 u1_4_0 u1_4_1 u1_5_0 u1_5_1
    go_wp2_with (first | (go_at_call 29; refine (hsub _).mono ?_; rintro e0 w10 ⟨rfl, k10⟩; obtain ⟨a10_0, a10_1, a10_2, a10_3⟩ := Bx.on (⟨a9_0, a9_1, a9_2, a9_3⟩ : Bx _ _ _ _) k10; obtain ⟨b10_0, b10_1, b10_2, b10_3⟩ := Bx.on (⟨b9_0, b9_1, b9_2, b9_3⟩ : Bx _ _ _ _) k10; obtain ⟨p10_0, p10_1, p10_2, p10_3⟩ := Bx.on (⟨p9_0, p9_1, p9_2, p9_3⟩ : Bx _ _ _ _) k10; have bel10 := bT bel9 k10; obtain ⟨a10n0, a10n1, a10n2, a10n3⟩ := Bx.alloc (⟨a10_0, a10_1, a10_2, a10_3⟩ : Bx _ _ _ _) (Obj.cells #[Value.int .i64 (ca), Value.int .i64 (sa)] 23); obtain ⟨b10n0, b10n1, b10n2, b10n3⟩ := Bx.alloc (⟨b10_0, b10_1, b10_2, b10_3⟩ : Bx _ _ _ _) (Obj.cells #[Value.int .i64 (ca), Value.int .i64 (sa)] 23); obtain ⟨p10n0, p10n1, p10n2, p10n3⟩ := Bx.alloc (⟨p10_0, p10_1, p10_2, p10_3⟩ : Bx _ _ _ _) (Obj.cells #[Value.int .i64 (ca), Value.int .i64 (sa)] 23)) | (go_at_call 16; refine (hlv _ (Lib.hid (bel10.alloc bel10.size _))).mono ?_; rintro e0 wl ⟨rfl, bl⟩; have bell := bT (bel10.alloc bel10.size _) bl))
    go_ret
    exact ⟨rfl, bell⟩
  unfold ans nv at hmulP
  simp only at hmulP
  have hdiv := hdiv c1 t1 rfl
  generalize (t1 : Int) = T1' at hmulP hdiv
  have heq1 := fun w => run_eqN c1 T1' c1 T1' w
  simp only [beq_self_eq_true, Bool.and_self] at heq1
  by_cases hy : cb = 0
  · clear hdiv
    subst hy
    go_enter Tryd.func6, Tryd.ntmps6
    go_upto_region 10 with (first | (go_at_call 12; refine (is_c (b := true) ?_ _).mono ?_; exact ib; rintro e0 w2 ⟨rfl, k2⟩; obtain ⟨a2_0, a2_1, a2_2, a2_3⟩ := Bx.on (⟨a1_0, a1_1, a1_2, a1_3⟩ : Bx _ _ _ _) k2; obtain ⟨b2_0, b2_1, b2_2, b2_3⟩ := Bx.on (⟨b1_0, b1_1, b1_2, b1_3⟩ : Bx _ _ _ _) k2; have bel2 := bT bel1 k2) | (go_at_call 12; refine (is_c (b := true) ?_ _).mono ?_; exact ia; rintro e0 w1 ⟨rfl, k1⟩; obtain ⟨a1_0, a1_1, a1_2, a1_3⟩ := boxed k1 w.heap.size (.int .i64 ca) (.int .i64 sa) (by simp [go_sem]) (by simp [go_sem]) (by simp [go_sem]) (by simp [go_sem]); obtain ⟨b1_0, b1_1, b1_2, b1_3⟩ := boxed k1 (w.heap.size + 1) (.int .i64 0) (.int .i64 sb) (by simp [go_sem]) (by simp [go_sem]) (by simp [go_sem]) (by simp [go_sem]); have bel1 := bT (bA2 _ _ _) k1) | (go_at_call 14; refine (htx _ (Lib.hid bel2)).mono ?_; rintro e0 w3 ⟨rfl, k3⟩; obtain ⟨a3_0, a3_1, a3_2, a3_3⟩ := Bx.on (⟨a2_0, a2_1, a2_2, a2_3⟩ : Bx _ _ _ _) k3; obtain ⟨b3_0, b3_1, b3_2, b3_3⟩ := Bx.on (⟨b2_0, b2_1, b2_2, b2_3⟩ : Bx _ _ _ _) k3; have bel3 := bT bel2 k3) | (go_at_call 17; refine (hpa _).mono ?_; rintro e0 w4 ⟨rfl, k4⟩; obtain ⟨a4_0, a4_1, a4_2, a4_3⟩ := Bx.on (⟨a3_0, a3_1, a3_2, a3_3⟩ : Bx _ _ _ _) k4; obtain ⟨b4_0, b4_1, b4_2, b4_3⟩ := Bx.on (⟨b3_0, b3_1, b3_2, b3_3⟩ : Bx _ _ _ _) k4; have bel4 := bT bel3 k4; obtain ⟨a4n0, a4n1, a4n2, a4n3⟩ := Bx.alloc (⟨a4_0, a4_1, a4_2, a4_3⟩ : Bx _ _ _ _) (Obj.cells #[Value.int .i64 (ca), Value.int .i64 (sa)] 23); obtain ⟨b4n0, b4n1, b4n2, b4n3⟩ := Bx.alloc (⟨b4_0, b4_1, b4_2, b4_3⟩ : Bx _ _ _ _) (Obj.cells #[Value.int .i64 (ca), Value.int .i64 (sa)] 23)) | (go_at_call 26; refine (haddP _ _ _ _ ?_ _).mono ?_; exact T1; rintro e0 w5 ⟨rfl, k5⟩; obtain ⟨a5_0, a5_1, a5_2, a5_3⟩ := Bx.on (⟨a4n0, a4n1, a4n2, a4n3⟩ : Bx _ _ _ _) k5; obtain ⟨b5_0, b5_1, b5_2, b5_3⟩ := Bx.on (⟨b4n0, b4n1, b4n2, b4n3⟩ : Bx _ _ _ _) k5; have bel5 := bT (bel4.alloc bel4.size _) k5; obtain ⟨a5n0, a5n1, a5n2, a5n3⟩ := Bx.alloc (⟨a5_0, a5_1, a5_2, a5_3⟩ : Bx _ _ _ _) (Obj.cells #[Value.int .i64 (c0), Value.int .i64 (T0')] 23); obtain ⟨b5n0, b5n1, b5n2, b5n3⟩ := Bx.alloc (⟨b5_0, b5_1, b5_2, b5_3⟩ : Bx _ _ _ _) (Obj.cells #[Value.int .i64 (c0), Value.int .i64 (T0')] 23)) | (go_at_call 26; refine (haddP _ _ _ _ ?_ _).mono ?_; exact T2; rintro e0 w6 ⟨rfl, k6⟩; obtain ⟨a6_0, a6_1, a6_2, a6_3⟩ := Bx.on (⟨a5n0, a5n1, a5n2, a5n3⟩ : Bx _ _ _ _) k6; obtain ⟨b6_0, b6_1, b6_2, b6_3⟩ := Bx.on (⟨b5n0, b5n1, b5n2, b5n3⟩ : Bx _ _ _ _) k6; obtain ⟨s6_0, s6_1, s6_2, s6_3⟩ := Bx.on (bxNew w5 (.int .i64 c0) (.int .i64 T0') _) k6; have bel6 := bT (bel5.alloc bel5.size _) k6; obtain ⟨a6n0, a6n1, a6n2, a6n3⟩ := Bx.alloc (⟨a6_0, a6_1, a6_2, a6_3⟩ : Bx _ _ _ _) (Obj.cells #[Value.int .i64 (c0), Value.int .i64 (T0')] 23); obtain ⟨b6n0, b6n1, b6n2, b6n3⟩ := Bx.alloc (⟨b6_0, b6_1, b6_2, b6_3⟩ : Bx _ _ _ _) (Obj.cells #[Value.int .i64 (c0), Value.int .i64 (T0')] 23); obtain ⟨s6n0, s6n1, s6n2, s6n3⟩ := Bx.alloc (⟨s6_0, s6_1, s6_2, s6_3⟩ : Bx _ _ _ _) (Obj.cells #[Value.int .i64 (c0), Value.int .i64 (T0')] 23)) | (go_at_call 27; refine (hmulP _ _ _ _ ?_ _).mono ?_; exact T1; rintro e0 w7 ⟨rfl, k7⟩; obtain ⟨a7_0, a7_1, a7_2, a7_3⟩ := Bx.on (⟨a6n0, a6n1, a6n2, a6n3⟩ : Bx _ _ _ _) k7; obtain ⟨b7_0, b7_1, b7_2, b7_3⟩ := Bx.on (⟨b6n0, b6n1, b6n2, b6n3⟩ : Bx _ _ _ _) k7; obtain ⟨s7_0, s7_1, s7_2, s7_3⟩ := Bx.on (⟨s6n0, s6n1, s6n2, s6n3⟩ : Bx _ _ _ _) k7; obtain ⟨u7_0, u7_1, u7_2, u7_3⟩ := Bx.on (bxNew w6 (.int .i64 c0) (.int .i64 T0') _) k7; have bel7 := bT (bel6.alloc bel6.size _) k7; obtain ⟨a7n0, a7n1, a7n2, a7n3⟩ := Bx.alloc (⟨a7_0, a7_1, a7_2, a7_3⟩ : Bx _ _ _ _) (Obj.cells #[Value.int .i64 (c1), Value.int .i64 (T1')] 23); obtain ⟨b7n0, b7n1, b7n2, b7n3⟩ := Bx.alloc (⟨b7_0, b7_1, b7_2, b7_3⟩ : Bx _ _ _ _) (Obj.cells #[Value.int .i64 (c1), Value.int .i64 (T1')] 23); obtain ⟨s7n0, s7n1, s7n2, s7n3⟩ := Bx.alloc (⟨s7_0, s7_1, s7_2, s7_3⟩ : Bx _ _ _ _) (Obj.cells #[Value.int .i64 (c1), Value.int .i64 (T1')] 23); obtain ⟨u7n0, u7n1, u7n2, u7n3⟩ := Bx.alloc (⟨u7_0, u7_1, u7_2, u7_3⟩ : Bx _ _ _ _) (Obj.cells #[Value.int .i64 (c1), Value.int .i64 (T1')] 23)) | (go_at_call 27; refine (hmulP _ _ _ _ ?_ _).mono ?_; exact T2; rintro e0 w8 ⟨rfl, k8⟩; obtain ⟨a8_0, a8_1, a8_2, a8_3⟩ := Bx.on (⟨a7n0, a7n1, a7n2, a7n3⟩ : Bx _ _ _ _) k8; obtain ⟨b8_0, b8_1, b8_2, b8_3⟩ := Bx.on (⟨b7n0, b7n1, b7n2, b7n3⟩ : Bx _ _ _ _) k8; obtain ⟨s8_0, s8_1, s8_2, s8_3⟩ := Bx.on (⟨s7n0, s7n1, s7n2, s7n3⟩ : Bx _ _ _ _) k8; obtain ⟨u8_0, u8_1, u8_2, u8_3⟩ := Bx.on (⟨u7n0, u7n1, u7n2, u7n3⟩ : Bx _ _ _ _) k8; obtain ⟨p8_0, p8_1, p8_2, p8_3⟩ := Bx.on (bxNew w7 (.int .i64 c1) (.int .i64 T1') _) k8; have bel8 := bT (bel7.alloc bel7.size _) k8; obtain ⟨a8n0, a8n1, a8n2, a8n3⟩ := Bx.alloc (⟨a8_0, a8_1, a8_2, a8_3⟩ : Bx _ _ _ _) (Obj.cells #[Value.int .i64 (c1), Value.int .i64 (T1')] 23); obtain ⟨b8n0, b8n1, b8n2, b8n3⟩ := Bx.alloc (⟨b8_0, b8_1, b8_2, b8_3⟩ : Bx _ _ _ _) (Obj.cells #[Value.int .i64 (c1), Value.int .i64 (T1')] 23); obtain ⟨s8n0, s8n1, s8n2, s8n3⟩ := Bx.alloc (⟨s8_0, s8_1, s8_2, s8_3⟩ : Bx _ _ _ _) (Obj.cells #[Value.int .i64 (c1), Value.int .i64 (T1')] 23); obtain ⟨u8n0, u8n1, u8n2, u8n3⟩ := Bx.alloc (⟨u8_0, u8_1, u8_2, u8_3⟩ : Bx _ _ _ _) (Obj.cells #[Value.int .i64 (c1), Value.int .i64 (T1')] 23); obtain ⟨p8n0, p8n1, p8n2, p8n3⟩ := Bx.alloc (⟨p8_0, p8_1, p8_2, p8_3⟩ : Bx _ _ _ _) (Obj.cells #[Value.int .i64 (c1), Value.int .i64 (T1')] 23)))
    have hS1 := ((((((Sv.nil (B := w.heap.size) (o := w) (a := (w8.alloc (Obj.cells #[Value.int .i64 (c1), Value.int .i64 (T1')] 23))) (bel8.alloc bel8.size _)).addf (k := w8.heap.size) (x := .int .i64 c1) (y := .int .i64 T1') (bxNew w8 _ _ _)).addf (k := w7.heap.size) (x := .int .i64 c1) (y := .int .i64 T1') (Bx.alloc (⟨p8_0, p8_1, p8_2, p8_3⟩ : Bx _ _ _ _) _)).addf (k := w6.heap.size) (x := .int .i64 c0) (y := .int .i64 T0') (Bx.alloc (⟨u8_0, u8_1, u8_2, u8_3⟩ : Bx _ _ _ _) _)).addf (k := w5.heap.size) (x := .int .i64 c0) (y := .int .i64 T0') (Bx.alloc (⟨s8_0, s8_1, s8_2, s8_3⟩ : Bx _ _ _ _) _)).addf (k := (w.heap.size + 1)) (x := .int .i64 0) (y := .int .i64 sb) (Bx.alloc (⟨b8_0, b8_1, b8_2, b8_3⟩ : Bx _ _ _ _) _)).addf (k := w.heap.size) (x := .int .i64 ca) (y := .int .i64 sa) (Bx.alloc (⟨a8_0, a8_1, a8_2, a8_3⟩ : Bx _ _ _ _) _)
    obtain ⟨fx1, hfx1⟩ : ∃ fx : List (Nat × Value × Value), [(w.heap.size, .int .i64 ca, .int .i64 sa), ((w.heap.size + 1), .int .i64 0, .int .i64 sb), (w5.heap.size, .int .i64 c0, .int .i64 T0'), (w6.heap.size, .int .i64 c0, .int .i64 T0'), (w7.heap.size, .int .i64 c1, .int .i64 T1'), (w8.heap.size, .int .i64 c1, .int .i64 T1')] = fx := ⟨_, rfl⟩
    obtain ⟨op1, hop1⟩ : ∃ op : List Nat, [] = op := ⟨_, rfl⟩
    rw [hfx1, hop1] at hS1
    have u1_0_0 := Sv.fix0 (B := w.heap.size) (o := w) (fx := fx1) (op := op1) (k := w.heap.size) (x := .int .i64 ca) (y := .int .i64 sa) (by subst hfx1; simp)
    have u1_0_1 := Sv.fix1 (B := w.heap.size) (o := w) (fx := fx1) (op := op1) (k := w.heap.size) (x := .int .i64 ca) (y := .int .i64 sa) (by subst hfx1; simp)
    have u1_1_0 := Sv.fix0 (B := w.heap.size) (o := w) (fx := fx1) (op := op1) (k := (w.heap.size + 1)) (x := .int .i64 0) (y := .int .i64 sb) (by subst hfx1; simp)
    have u1_1_1 := Sv.fix1 (B := w.heap.size) (o := w) (fx := fx1) (op := op1) (k := (w.heap.size + 1)) (x := .int .i64 0) (y := .int .i64 sb) (by subst hfx1; simp)
    have u1_2_0 := Sv.fix0 (B := w.heap.size) (o := w) (fx := fx1) (op := op1) (k := w5.heap.size) (x := .int .i64 c0) (y := .int .i64 T0') (by subst hfx1; simp)
    have u1_2_1 := Sv.fix1 (B := w.heap.size) (o := w) (fx := fx1) (op := op1) (k := w5.heap.size) (x := .int .i64 c0) (y := .int .i64 T0') (by subst hfx1; simp)
    have u1_3_0 := Sv.fix0 (B := w.heap.size) (o := w) (fx := fx1) (op := op1) (k := w6.heap.size) (x := .int .i64 c0) (y := .int .i64 T0') (by subst hfx1; simp)
    have u1_3_1 := Sv.fix1 (B := w.heap.size) (o := w) (fx := fx1) (op := op1) (k := w6.heap.size) (x := .int .i64 c0) (y := .int .i64 T0') (by subst hfx1; simp)
    have u1_4_0 := Sv.fix0 (B := w.heap.size) (o := w) (fx := fx1) (op := op1) (k := w7.heap.size) (x := .int .i64 c1) (y := .int .i64 T1') (by subst hfx1; simp)
    have u1_4_1 := Sv.fix1 (B := w.heap.size) (o := w) (fx := fx1) (op := op1) (k := w7.heap.size) (x := .int .i64 c1) (y := .int .i64 T1') (by subst hfx1; simp)
    have u1_5_0 := Sv.fix0 (B := w.heap.size) (o := w) (fx := fx1) (op := op1) (k := w8.heap.size) (x := .int .i64 c1) (y := .int .i64 T1') (by subst hfx1; simp)
    have u1_5_1 := Sv.fix1 (B := w.heap.size) (o := w) (fx := fx1) (op := op1) (k := w8.heap.size) (x := .int .i64 c1) (y := .int .i64 T1') (by subst hfx1; simp)
    have mf1_0 : (w.heap.size, .int .i64 ca, .int .i64 sa) ∈ fx1 := by subst hfx1; simp
    have mf1_1 : ((w.heap.size + 1), .int .i64 0, .int .i64 sb) ∈ fx1 := by subst hfx1; simp
    have mf1_2 : (w5.heap.size, .int .i64 c0, .int .i64 T0') ∈ fx1 := by subst hfx1; simp
    have mf1_3 : (w6.heap.size, .int .i64 c0, .int .i64 T0') ∈ fx1 := by subst hfx1; simp
    have mf1_4 : (w7.heap.size, .int .i64 c1, .int .i64 T1') ∈ fx1 := by subst hfx1; simp
    have mf1_5 : (w8.heap.size, .int .i64 c1, .int .i64 T1') ∈ fx1 := by subst hfx1; simp
    clear hfx1 hop1
    have HS1 := Lib.hid hS1
    clear hS1
    go_region_held3 (Sv w.heap.size w fx1 op1) (first | assumption | exact HS1.out.drew | exact Sv.call (by assumption) (by assumption) (Nat.le_refl _))
      (first | (go_at_call 28; refine (hcmpP _ _ _ _ (-r) ?_ _).mono ?_; exact C1; rintro e0 wc ⟨rfl, bc⟩) | (go_at_call 28; refine (hcmpP _ _ _ _ r ?_ _).mono ?_; exact C2; rintro e0 wc ⟨rfl, bc⟩))
    rename_i HF
    have HF3 := Lib.hid HF
    clear HF
    obtain ⟨a9_0, a9_1, a9_2, a9_3⟩ := (HF3.out.2.1 _ mf1_0 : Bx _ w.heap.size (.int .i64 ca) (.int .i64 sa))
    obtain ⟨b9_0, b9_1, b9_2, b9_3⟩ := (HF3.out.2.1 _ mf1_1 : Bx _ (w.heap.size + 1) (.int .i64 0) (.int .i64 sb))
    obtain ⟨s9_0, s9_1, s9_2, s9_3⟩ := (HF3.out.2.1 _ mf1_2 : Bx _ w5.heap.size (.int .i64 c0) (.int .i64 T0'))
    obtain ⟨p9_0, p9_1, p9_2, p9_3⟩ := (HF3.out.2.1 _ mf1_4 : Bx _ w7.heap.size (.int .i64 c1) (.int .i64 T1'))
    have bel9 := HF3.out.1
    clear u1_0_0 u1_0_1 u1_1_0 u1_1_1 u1_2_0 u1_2_1 u1_3_0 u1_3_1 u1_4_0 u1_4_1 u1_5_0 u1_5_1
    go_wp2_with (first | (go_at_call 29; refine (hsub _).mono ?_; rintro e0 w10 ⟨rfl, k10⟩; obtain ⟨a10_0, a10_1, a10_2, a10_3⟩ := Bx.on (⟨a9_0, a9_1, a9_2, a9_3⟩ : Bx _ _ _ _) k10; obtain ⟨b10_0, b10_1, b10_2, b10_3⟩ := Bx.on (⟨b9_0, b9_1, b9_2, b9_3⟩ : Bx _ _ _ _) k10; obtain ⟨p10_0, p10_1, p10_2, p10_3⟩ := Bx.on (⟨p9_0, p9_1, p9_2, p9_3⟩ : Bx _ _ _ _) k10; have bel10 := bT bel9 k10; obtain ⟨a10n0, a10n1, a10n2, a10n3⟩ := Bx.alloc (⟨a10_0, a10_1, a10_2, a10_3⟩ : Bx _ _ _ _) (Obj.cells #[Value.int .i64 (ca), Value.int .i64 (sa)] 23); obtain ⟨b10n0, b10n1, b10n2, b10n3⟩ := Bx.alloc (⟨b10_0, b10_1, b10_2, b10_3⟩ : Bx _ _ _ _) (Obj.cells #[Value.int .i64 (ca), Value.int .i64 (sa)] 23); obtain ⟨p10n0, p10n1, p10n2, p10n3⟩ := Bx.alloc (⟨p10_0, p10_1, p10_2, p10_3⟩ : Bx _ _ _ _) (Obj.cells #[Value.int .i64 (ca), Value.int .i64 (sa)] 23)) | (go_at_call 16; refine (hlv _ (Lib.hid (bel10.alloc bel10.size _))).mono ?_; rintro e0 wl ⟨rfl, bl⟩; have bell := bT (bel10.alloc bel10.size _) bl))
    go_ret
    exact ⟨rfl, bell⟩
  have hdiv := hdiv hy
  have hy0 : (cb == 0) = false := by simp; exact hy
  have hy1 : (cb != 0) = true := by simp; exact hy
  go_enter Tryd.func6, Tryd.ntmps6
  go_upto_region 10 with (first | (go_at_call 12; refine (is_c (b := true) ?_ _).mono ?_; exact ib; rintro e0 w2 ⟨rfl, k2⟩; obtain ⟨a2_0, a2_1, a2_2, a2_3⟩ := Bx.on (⟨a1_0, a1_1, a1_2, a1_3⟩ : Bx _ _ _ _) k2; obtain ⟨b2_0, b2_1, b2_2, b2_3⟩ := Bx.on (⟨b1_0, b1_1, b1_2, b1_3⟩ : Bx _ _ _ _) k2; have bel2 := bT bel1 k2) | (go_at_call 12; refine (is_c (b := true) ?_ _).mono ?_; exact ia; rintro e0 w1 ⟨rfl, k1⟩; obtain ⟨a1_0, a1_1, a1_2, a1_3⟩ := boxed k1 w.heap.size (.int .i64 ca) (.int .i64 sa) (by simp [go_sem]) (by simp [go_sem]) (by simp [go_sem]) (by simp [go_sem]); obtain ⟨b1_0, b1_1, b1_2, b1_3⟩ := boxed k1 (w.heap.size + 1) (.int .i64 cb) (.int .i64 sb) (by simp [go_sem]) (by simp [go_sem]) (by simp [go_sem]) (by simp [go_sem]); have bel1 := bT (bA2 _ _ _) k1) | (go_at_call 14; refine (htx _ (Lib.hid bel2)).mono ?_; rintro e0 w3 ⟨rfl, k3⟩; obtain ⟨a3_0, a3_1, a3_2, a3_3⟩ := Bx.on (⟨a2_0, a2_1, a2_2, a2_3⟩ : Bx _ _ _ _) k3; obtain ⟨b3_0, b3_1, b3_2, b3_3⟩ := Bx.on (⟨b2_0, b2_1, b2_2, b2_3⟩ : Bx _ _ _ _) k3; have bel3 := bT bel2 k3) | (go_at_call 17; refine (hpa _).mono ?_; rintro e0 w4 ⟨rfl, k4⟩; obtain ⟨a4_0, a4_1, a4_2, a4_3⟩ := Bx.on (⟨a3_0, a3_1, a3_2, a3_3⟩ : Bx _ _ _ _) k4; obtain ⟨b4_0, b4_1, b4_2, b4_3⟩ := Bx.on (⟨b3_0, b3_1, b3_2, b3_3⟩ : Bx _ _ _ _) k4; have bel4 := bT bel3 k4; obtain ⟨a4n0, a4n1, a4n2, a4n3⟩ := Bx.alloc (⟨a4_0, a4_1, a4_2, a4_3⟩ : Bx _ _ _ _) (Obj.cells #[Value.int .i64 (ca), Value.int .i64 (sa)] 23); obtain ⟨b4n0, b4n1, b4n2, b4n3⟩ := Bx.alloc (⟨b4_0, b4_1, b4_2, b4_3⟩ : Bx _ _ _ _) (Obj.cells #[Value.int .i64 (ca), Value.int .i64 (sa)] 23)) | (go_at_call 26; refine (haddP _ _ _ _ ?_ _).mono ?_; exact T1; rintro e0 w5 ⟨rfl, k5⟩; obtain ⟨a5_0, a5_1, a5_2, a5_3⟩ := Bx.on (⟨a4n0, a4n1, a4n2, a4n3⟩ : Bx _ _ _ _) k5; obtain ⟨b5_0, b5_1, b5_2, b5_3⟩ := Bx.on (⟨b4n0, b4n1, b4n2, b4n3⟩ : Bx _ _ _ _) k5; have bel5 := bT (bel4.alloc bel4.size _) k5; obtain ⟨a5n0, a5n1, a5n2, a5n3⟩ := Bx.alloc (⟨a5_0, a5_1, a5_2, a5_3⟩ : Bx _ _ _ _) (Obj.cells #[Value.int .i64 (c0), Value.int .i64 (T0')] 23); obtain ⟨b5n0, b5n1, b5n2, b5n3⟩ := Bx.alloc (⟨b5_0, b5_1, b5_2, b5_3⟩ : Bx _ _ _ _) (Obj.cells #[Value.int .i64 (c0), Value.int .i64 (T0')] 23)) | (go_at_call 26; refine (haddP _ _ _ _ ?_ _).mono ?_; exact T2; rintro e0 w6 ⟨rfl, k6⟩; obtain ⟨a6_0, a6_1, a6_2, a6_3⟩ := Bx.on (⟨a5n0, a5n1, a5n2, a5n3⟩ : Bx _ _ _ _) k6; obtain ⟨b6_0, b6_1, b6_2, b6_3⟩ := Bx.on (⟨b5n0, b5n1, b5n2, b5n3⟩ : Bx _ _ _ _) k6; obtain ⟨s6_0, s6_1, s6_2, s6_3⟩ := Bx.on (bxNew w5 (.int .i64 c0) (.int .i64 T0') _) k6; have bel6 := bT (bel5.alloc bel5.size _) k6; obtain ⟨a6n0, a6n1, a6n2, a6n3⟩ := Bx.alloc (⟨a6_0, a6_1, a6_2, a6_3⟩ : Bx _ _ _ _) (Obj.cells #[Value.int .i64 (c0), Value.int .i64 (T0')] 23); obtain ⟨b6n0, b6n1, b6n2, b6n3⟩ := Bx.alloc (⟨b6_0, b6_1, b6_2, b6_3⟩ : Bx _ _ _ _) (Obj.cells #[Value.int .i64 (c0), Value.int .i64 (T0')] 23); obtain ⟨s6n0, s6n1, s6n2, s6n3⟩ := Bx.alloc (⟨s6_0, s6_1, s6_2, s6_3⟩ : Bx _ _ _ _) (Obj.cells #[Value.int .i64 (c0), Value.int .i64 (T0')] 23)) | (go_at_call 27; refine (hmulP _ _ _ _ ?_ _).mono ?_; exact T1; rintro e0 w7 ⟨rfl, k7⟩; obtain ⟨a7_0, a7_1, a7_2, a7_3⟩ := Bx.on (⟨a6n0, a6n1, a6n2, a6n3⟩ : Bx _ _ _ _) k7; obtain ⟨b7_0, b7_1, b7_2, b7_3⟩ := Bx.on (⟨b6n0, b6n1, b6n2, b6n3⟩ : Bx _ _ _ _) k7; obtain ⟨s7_0, s7_1, s7_2, s7_3⟩ := Bx.on (⟨s6n0, s6n1, s6n2, s6n3⟩ : Bx _ _ _ _) k7; obtain ⟨u7_0, u7_1, u7_2, u7_3⟩ := Bx.on (bxNew w6 (.int .i64 c0) (.int .i64 T0') _) k7; have bel7 := bT (bel6.alloc bel6.size _) k7; obtain ⟨a7n0, a7n1, a7n2, a7n3⟩ := Bx.alloc (⟨a7_0, a7_1, a7_2, a7_3⟩ : Bx _ _ _ _) (Obj.cells #[Value.int .i64 (c1), Value.int .i64 (T1')] 23); obtain ⟨b7n0, b7n1, b7n2, b7n3⟩ := Bx.alloc (⟨b7_0, b7_1, b7_2, b7_3⟩ : Bx _ _ _ _) (Obj.cells #[Value.int .i64 (c1), Value.int .i64 (T1')] 23); obtain ⟨s7n0, s7n1, s7n2, s7n3⟩ := Bx.alloc (⟨s7_0, s7_1, s7_2, s7_3⟩ : Bx _ _ _ _) (Obj.cells #[Value.int .i64 (c1), Value.int .i64 (T1')] 23); obtain ⟨u7n0, u7n1, u7n2, u7n3⟩ := Bx.alloc (⟨u7_0, u7_1, u7_2, u7_3⟩ : Bx _ _ _ _) (Obj.cells #[Value.int .i64 (c1), Value.int .i64 (T1')] 23)) | (go_at_call 27; refine (hmulP _ _ _ _ ?_ _).mono ?_; exact T2; rintro e0 w8 ⟨rfl, k8⟩; obtain ⟨a8_0, a8_1, a8_2, a8_3⟩ := Bx.on (⟨a7n0, a7n1, a7n2, a7n3⟩ : Bx _ _ _ _) k8; obtain ⟨b8_0, b8_1, b8_2, b8_3⟩ := Bx.on (⟨b7n0, b7n1, b7n2, b7n3⟩ : Bx _ _ _ _) k8; obtain ⟨s8_0, s8_1, s8_2, s8_3⟩ := Bx.on (⟨s7n0, s7n1, s7n2, s7n3⟩ : Bx _ _ _ _) k8; obtain ⟨u8_0, u8_1, u8_2, u8_3⟩ := Bx.on (⟨u7n0, u7n1, u7n2, u7n3⟩ : Bx _ _ _ _) k8; obtain ⟨p8_0, p8_1, p8_2, p8_3⟩ := Bx.on (bxNew w7 (.int .i64 c1) (.int .i64 T1') _) k8; have bel8 := bT (bel7.alloc bel7.size _) k8; obtain ⟨a8n0, a8n1, a8n2, a8n3⟩ := Bx.alloc (⟨a8_0, a8_1, a8_2, a8_3⟩ : Bx _ _ _ _) (Obj.cells #[Value.int .i64 (c1), Value.int .i64 (T1')] 23); obtain ⟨b8n0, b8n1, b8n2, b8n3⟩ := Bx.alloc (⟨b8_0, b8_1, b8_2, b8_3⟩ : Bx _ _ _ _) (Obj.cells #[Value.int .i64 (c1), Value.int .i64 (T1')] 23); obtain ⟨s8n0, s8n1, s8n2, s8n3⟩ := Bx.alloc (⟨s8_0, s8_1, s8_2, s8_3⟩ : Bx _ _ _ _) (Obj.cells #[Value.int .i64 (c1), Value.int .i64 (T1')] 23); obtain ⟨u8n0, u8n1, u8n2, u8n3⟩ := Bx.alloc (⟨u8_0, u8_1, u8_2, u8_3⟩ : Bx _ _ _ _) (Obj.cells #[Value.int .i64 (c1), Value.int .i64 (T1')] 23); obtain ⟨p8n0, p8n1, p8n2, p8n3⟩ := Bx.alloc (⟨p8_0, p8_1, p8_2, p8_3⟩ : Bx _ _ _ _) (Obj.cells #[Value.int .i64 (c1), Value.int .i64 (T1')] 23)))
  have hS1 := ((((((Sv.nil (B := w.heap.size) (o := w) (a := (w8.alloc (Obj.cells #[Value.int .i64 (c1), Value.int .i64 (T1')] 23))) (bel8.alloc bel8.size _)).addf (k := w8.heap.size) (x := .int .i64 c1) (y := .int .i64 T1') (bxNew w8 _ _ _)).addf (k := w7.heap.size) (x := .int .i64 c1) (y := .int .i64 T1') (Bx.alloc (⟨p8_0, p8_1, p8_2, p8_3⟩ : Bx _ _ _ _) _)).addf (k := w6.heap.size) (x := .int .i64 c0) (y := .int .i64 T0') (Bx.alloc (⟨u8_0, u8_1, u8_2, u8_3⟩ : Bx _ _ _ _) _)).addf (k := w5.heap.size) (x := .int .i64 c0) (y := .int .i64 T0') (Bx.alloc (⟨s8_0, s8_1, s8_2, s8_3⟩ : Bx _ _ _ _) _)).addf (k := (w.heap.size + 1)) (x := .int .i64 cb) (y := .int .i64 sb) (Bx.alloc (⟨b8_0, b8_1, b8_2, b8_3⟩ : Bx _ _ _ _) _)).addf (k := w.heap.size) (x := .int .i64 ca) (y := .int .i64 sa) (Bx.alloc (⟨a8_0, a8_1, a8_2, a8_3⟩ : Bx _ _ _ _) _)
  obtain ⟨fx1, hfx1⟩ : ∃ fx : List (Nat × Value × Value), [(w.heap.size, .int .i64 ca, .int .i64 sa), ((w.heap.size + 1), .int .i64 cb, .int .i64 sb), (w5.heap.size, .int .i64 c0, .int .i64 T0'), (w6.heap.size, .int .i64 c0, .int .i64 T0'), (w7.heap.size, .int .i64 c1, .int .i64 T1'), (w8.heap.size, .int .i64 c1, .int .i64 T1')] = fx := ⟨_, rfl⟩
  obtain ⟨op1, hop1⟩ : ∃ op : List Nat, [] = op := ⟨_, rfl⟩
  rw [hfx1, hop1] at hS1
  have u1_0_0 := Sv.fix0 (B := w.heap.size) (o := w) (fx := fx1) (op := op1) (k := w.heap.size) (x := .int .i64 ca) (y := .int .i64 sa) (by subst hfx1; simp)
  have u1_0_1 := Sv.fix1 (B := w.heap.size) (o := w) (fx := fx1) (op := op1) (k := w.heap.size) (x := .int .i64 ca) (y := .int .i64 sa) (by subst hfx1; simp)
  have u1_1_0 := Sv.fix0 (B := w.heap.size) (o := w) (fx := fx1) (op := op1) (k := (w.heap.size + 1)) (x := .int .i64 cb) (y := .int .i64 sb) (by subst hfx1; simp)
  have u1_1_1 := Sv.fix1 (B := w.heap.size) (o := w) (fx := fx1) (op := op1) (k := (w.heap.size + 1)) (x := .int .i64 cb) (y := .int .i64 sb) (by subst hfx1; simp)
  have u1_2_0 := Sv.fix0 (B := w.heap.size) (o := w) (fx := fx1) (op := op1) (k := w5.heap.size) (x := .int .i64 c0) (y := .int .i64 T0') (by subst hfx1; simp)
  have u1_2_1 := Sv.fix1 (B := w.heap.size) (o := w) (fx := fx1) (op := op1) (k := w5.heap.size) (x := .int .i64 c0) (y := .int .i64 T0') (by subst hfx1; simp)
  have u1_3_0 := Sv.fix0 (B := w.heap.size) (o := w) (fx := fx1) (op := op1) (k := w6.heap.size) (x := .int .i64 c0) (y := .int .i64 T0') (by subst hfx1; simp)
  have u1_3_1 := Sv.fix1 (B := w.heap.size) (o := w) (fx := fx1) (op := op1) (k := w6.heap.size) (x := .int .i64 c0) (y := .int .i64 T0') (by subst hfx1; simp)
  have u1_4_0 := Sv.fix0 (B := w.heap.size) (o := w) (fx := fx1) (op := op1) (k := w7.heap.size) (x := .int .i64 c1) (y := .int .i64 T1') (by subst hfx1; simp)
  have u1_4_1 := Sv.fix1 (B := w.heap.size) (o := w) (fx := fx1) (op := op1) (k := w7.heap.size) (x := .int .i64 c1) (y := .int .i64 T1') (by subst hfx1; simp)
  have u1_5_0 := Sv.fix0 (B := w.heap.size) (o := w) (fx := fx1) (op := op1) (k := w8.heap.size) (x := .int .i64 c1) (y := .int .i64 T1') (by subst hfx1; simp)
  have u1_5_1 := Sv.fix1 (B := w.heap.size) (o := w) (fx := fx1) (op := op1) (k := w8.heap.size) (x := .int .i64 c1) (y := .int .i64 T1') (by subst hfx1; simp)
  have mf1_0 : (w.heap.size, .int .i64 ca, .int .i64 sa) ∈ fx1 := by subst hfx1; simp
  have mf1_1 : ((w.heap.size + 1), .int .i64 cb, .int .i64 sb) ∈ fx1 := by subst hfx1; simp
  have mf1_2 : (w5.heap.size, .int .i64 c0, .int .i64 T0') ∈ fx1 := by subst hfx1; simp
  have mf1_3 : (w6.heap.size, .int .i64 c0, .int .i64 T0') ∈ fx1 := by subst hfx1; simp
  have mf1_4 : (w7.heap.size, .int .i64 c1, .int .i64 T1') ∈ fx1 := by subst hfx1; simp
  have mf1_5 : (w8.heap.size, .int .i64 c1, .int .i64 T1') ∈ fx1 := by subst hfx1; simp
  clear hfx1 hop1
  have HS1 := Lib.hid hS1
  clear hS1
  go_region_held3 (Sv w.heap.size w fx1 op1) (first | assumption | exact HS1.out.drew | exact Sv.call (by assumption) (by assumption) (Nat.le_refl _))
    (first | (go_at_call 28; refine (hcmpP _ _ _ _ (-r) ?_ _).mono ?_; exact C1; rintro e0 wc ⟨rfl, bc⟩) | (go_at_call 28; refine (hcmpP _ _ _ _ r ?_ _).mono ?_; exact C2; rintro e0 wc ⟨rfl, bc⟩))
  rename_i HF
  have HF3 := Lib.hid HF
  clear HF
  obtain ⟨a9_0, a9_1, a9_2, a9_3⟩ := (HF3.out.2.1 _ mf1_0 : Bx _ w.heap.size (.int .i64 ca) (.int .i64 sa))
  obtain ⟨b9_0, b9_1, b9_2, b9_3⟩ := (HF3.out.2.1 _ mf1_1 : Bx _ (w.heap.size + 1) (.int .i64 cb) (.int .i64 sb))
  obtain ⟨s9_0, s9_1, s9_2, s9_3⟩ := (HF3.out.2.1 _ mf1_2 : Bx _ w5.heap.size (.int .i64 c0) (.int .i64 T0'))
  obtain ⟨p9_0, p9_1, p9_2, p9_3⟩ := (HF3.out.2.1 _ mf1_4 : Bx _ w7.heap.size (.int .i64 c1) (.int .i64 T1'))
  have bel9 := HF3.out.1
  clear u1_0_0 u1_0_1 u1_1_0 u1_1_1 u1_2_0 u1_2_1 u1_3_0 u1_3_1 u1_4_0 u1_4_1 u1_5_0 u1_5_1
  go_wp2_with (first | (go_at_call 29; refine (hsub _).mono ?_; rintro e0 w10 ⟨rfl, k10⟩; obtain ⟨a10_0, a10_1, a10_2, a10_3⟩ := Bx.on (⟨a9_0, a9_1, a9_2, a9_3⟩ : Bx _ _ _ _) k10; obtain ⟨b10_0, b10_1, b10_2, b10_3⟩ := Bx.on (⟨b9_0, b9_1, b9_2, b9_3⟩ : Bx _ _ _ _) k10; obtain ⟨p10_0, p10_1, p10_2, p10_3⟩ := Bx.on (⟨p9_0, p9_1, p9_2, p9_3⟩ : Bx _ _ _ _) k10; have bel10 := bT bel9 k10; obtain ⟨a10n0, a10n1, a10n2, a10n3⟩ := Bx.alloc (⟨a10_0, a10_1, a10_2, a10_3⟩ : Bx _ _ _ _) (Obj.cells #[Value.int .i64 (ca), Value.int .i64 (sa)] 23); obtain ⟨b10n0, b10n1, b10n2, b10n3⟩ := Bx.alloc (⟨b10_0, b10_1, b10_2, b10_3⟩ : Bx _ _ _ _) (Obj.cells #[Value.int .i64 (ca), Value.int .i64 (sa)] 23); obtain ⟨p10n0, p10n1, p10n2, p10n3⟩ := Bx.alloc (⟨p10_0, p10_1, p10_2, p10_3⟩ : Bx _ _ _ _) (Obj.cells #[Value.int .i64 (ca), Value.int .i64 (sa)] 23)) | (go_at_call 19; refine (hdiv _).mono ?_; rintro e0 w11 ⟨rfl, k11⟩; obtain ⟨a11_0, a11_1, a11_2, a11_3⟩ := Bx.on (⟨a10n0, a10n1, a10n2, a10n3⟩ : Bx _ _ _ _) k11; obtain ⟨b11_0, b11_1, b11_2, b11_3⟩ := Bx.on (⟨b10n0, b10n1, b10n2, b10n3⟩ : Bx _ _ _ _) k11; have bel11 := bT (bel10.alloc bel10.size _) k11; obtain ⟨a11n0, a11n1, a11n2, a11n3⟩ := Bx.alloc (⟨a11_0, a11_1, a11_2, a11_3⟩ : Bx _ _ _ _) (Obj.cells #[Value.int .i64 (ca), Value.int .i64 (sa)] 23); obtain ⟨b11n0, b11n1, b11n2, b11n3⟩ := Bx.alloc (⟨b11_0, b11_1, b11_2, b11_3⟩ : Bx _ _ _ _) (Obj.cells #[Value.int .i64 (ca), Value.int .i64 (sa)] 23)) | (go_at_call 16; refine (hlv _ (Lib.hid (bel11.alloc bel11.size _))).mono ?_; rintro e0 wl ⟨rfl, bl⟩; have bell := bT (bel11.alloc bel11.size _) bl))
  go_ret
  exact ⟨rfl, bell⟩
end Nm
end Go.Proofs.YtkamjjkpaampcaaDoor
