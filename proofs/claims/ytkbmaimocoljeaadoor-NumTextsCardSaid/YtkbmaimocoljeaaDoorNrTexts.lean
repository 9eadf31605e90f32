/- NumTexts answers true for every number, coefficient and scale. -/
import Derived.Test.YtkbmaimocoljeaaDoorNrText
import Derived.Test.YtkbmaimocoljeaaDoorNmOpen
namespace Go.Proofs.YtkbmaimocoljeaaDoor
open Go.RowKit
namespace Nm
theorem run_eqN (a b c d : Int) (w : World) : (Op.equalIn 10000 23 (.agg #[.int .i64 a, .int .i64 b]) (.agg #[.int .i64 c, .int .i64 d])).run Tryd.prog w = .ok (a == c && b == d) w := by
  by_cases h : a = c <;> by_cases h' : b = d <;> simp [go_sem, h, h']
theorem take_put {P : Program} {md : Region.Mode} {ops : Array Oper} {Q : Exit → Act → World → Prop} {S : World → Prop} {i d : Nat} {oi : Oper} {v : Value} {fuel : Nat} {listed : Array Bool} {a : Act} {w : World} (hi : ops[i]? = some oi) (hd : oi.dst = some d)
    (hs : Region.noSelect ops = true) (hf : Region.free md ops listed i = true) (hr : (Region.ready md ops listed).contains i = true)
    (hQ : ∀ c a w, Q (.panic c) (a.put (some d) v) w → Q (.panic c) a w) (hy : YieldsIf P ops S oi v a) (hS : S w)
    (h : wpAnyH P md ops Q S fuel (listed.setIfInBounds i true) (a.put (some d) v) w) : wpAnyH P md ops Q S (fuel + 1) listed a w :=
  wpAnyH_take hi hs hf hr (by rw [hd]; exact hQ) hy hS (by rw [hd]; exact h)
theorem sg_of (c : Int) : sg (decide (c < 0)) c.natAbs = c := by
  unfold sg
  by_cases h : c < 0
  · rw [decide_eq_true h, if_pos rfl]; omega
  · rw [decide_eq_false h, if_neg (by simp)]; omega
set_option maxRecDepth 100000 in
set_option maxHeartbeats 16000000 in
theorem texts_low (cn sn c s : Int) (w : World) (hT : Tab w.heap.size w) (c0 : -9223372036854775808 ≤ c) (c1 : c < 9223372036854775808) (hs : s < 0) :
    Calls Tryd.prog 3 #[nv cn sn, .int .i64 c, .int .i64 s] w fun e w' => e = .returned (.bool true) ∧ Below w.heap.size w w' := by
  have hlv : ∀ w', Hid (Below w.heap.size w w') → Calls Tryd.prog 13 #[] w' fun e w'' => e = .returned (.bool true) ∧ Below w'.heap.size w' w'' := fun w' h => lives_any w' (hT.on h.out) h.out.size
  obtain ⟨R, hR⟩ : ∃ R, (if isB cn sn = true then sb (txt cn sn.toNat) else (⟨#[63]⟩ : ByteArray)) = R := ⟨_, rfl⟩
  obtain ⟨q, hq⟩ : ∃ q, isB cn sn = q := ⟨_, rfl⟩
  have his := fun w => is_any cn sn w
  have hri := fun w => refIs_any cn sn w
  have htx : ∀ w', Hid (Below w.heap.size w w') → Calls Tryd.prog 11 #[nv cn sn] w' fun e w'' => e = .returned (.string R) ∧ Below w'.heap.size w' w'' := fun w' h => by
    rw [← hR]
    exact text_any cn sn w' (hT.on h.out) h.out.size
  have hrt := fun w => refText_any cn sn w
  have hmake := fun w => make_any c s w c0 c1
  rw [hq] at his hri
  rw [hR] at hrt
  rw [show mk c s = none by unfold mk; rw [if_neg (by omega)]] at hmake
  unfold nv at *
  unfold ans nv at hmake
  simp only at hmake
  clear hT hR hq
  have heq := fun w => run_eqN 0 0 0 0 w
  simp only [beq_self_eq_true, Bool.and_self] at heq
  go_enter Tryd.func3, Tryd.ntmps3
  go_upto_region 5 with (go_at_call 6; refine (hmake _).mono ?_; rintro e w1 ⟨rfl, b1⟩; obtain ⟨p0, p1, p2, p3⟩ := boxed b1 w.heap.size (.int .i64 cn) (.int .i64 sn) (by simp [go_sem]) (by simp [go_sem]) (by simp [go_sem]) (by simp [go_sem]); have hlt1 := kl p0; simp only at hlt1; have HB1 := Lib.hid (bT (bA1 _ _) b1); clear b1)
  have hS1 : Sv w.heap.size w [(w.heap.size, .int .i64 cn, .int .i64 sn), (w1.heap.size, .int .i64 0, .int .i64 0), (w1.heap.size + 1, .int .i64 0, .int .i64 0)] [] ((w1.alloc (Obj.cells #[.int .i64 0, .int .i64 0] 23)).alloc (Obj.cells #[.int .i64 0, .int .i64 0] 23)) := by
    refine ⟨(HB1.out.alloc HB1.out.size _).alloc (by have := HB1.out.size; simp; omega) _, ?_, ?_⟩
    · intro t ht
      simp only [List.mem_cons, List.not_mem_nil, or_false] at ht
      rcases ht with rfl | rfl | rfl
      · exact Bx.alloc (Bx.alloc ⟨p0, p1, p2, p3⟩ _) _
      · exact Bx.alloc (bxNew w1 _ _ _) _
      · exact by simpa using bxNew (w1.alloc (Obj.cells #[.int .i64 0, .int .i64 0] 23)) (.int .i64 0) (.int .i64 0) 23
    · intro t ht
      simp at ht
  obtain ⟨fx1, hfx1⟩ : ∃ fx : List (Nat × Value × Value), [(w.heap.size, .int .i64 cn, .int .i64 sn), (w1.heap.size, .int .i64 0, .int .i64 0), (w1.heap.size + 1, .int .i64 0, .int .i64 0)] = fx := ⟨_, rfl⟩
  obtain ⟨op1, hop1⟩ : ∃ op : List Nat, [] = op := ⟨_, rfl⟩
  rw [hfx1, hop1] at hS1
  have u1_0_0 := Sv.fix0 (B := w.heap.size) (o := w) (fx := fx1) (op := op1) (k := w.heap.size) (x := .int .i64 cn) (y := .int .i64 sn) (by subst hfx1; simp)
  have u1_0_1 := Sv.fix1 (B := w.heap.size) (o := w) (fx := fx1) (op := op1) (k := w.heap.size) (x := .int .i64 cn) (y := .int .i64 sn) (by subst hfx1; simp)
  have u1_1_0 := Sv.fix0 (B := w.heap.size) (o := w) (fx := fx1) (op := op1) (k := w1.heap.size) (x := .int .i64 0) (y := .int .i64 0) (by subst hfx1; simp)
  have u1_1_1 := Sv.fix1 (B := w.heap.size) (o := w) (fx := fx1) (op := op1) (k := w1.heap.size) (x := .int .i64 0) (y := .int .i64 0) (by subst hfx1; simp)
  have u1_2_0 := Sv.fix0 (B := w.heap.size) (o := w) (fx := fx1) (op := op1) (k := w1.heap.size + 1) (x := .int .i64 0) (y := .int .i64 0) (by subst hfx1; simp)
  have u1_2_1 := Sv.fix1 (B := w.heap.size) (o := w) (fx := fx1) (op := op1) (k := w1.heap.size + 1) (x := .int .i64 0) (y := .int .i64 0) (by subst hfx1; simp)
  clear hfx1 hop1
  have HS1 := Lib.hid hS1
  clear hS1
  clear p0 p1 p2 p3 hmake
  refine wp_region_held_drew (S := Sv w.heap.size w fx1 op1) (by kernel_rfl) HS1.out.drew (fun hHeld => ?_)
  refine take_put (i := 0) (d := 31) (oi := _) (v := ?v0) rfl rfl (by kernel_rfl) (by kernel_rfl) (by kernel_rfl) (fun _ _ _ h => h) (Or.inl ⟨by rfl, ?y0⟩) hHeld ?r0
  case y0 => (intro w hSw; (try dsimp only at hSw); go_simp; try with_reducible rfl)
  simp only [Act.put, List.setIfInBounds_toArray, List.set_cons_zero, List.set_cons_succ]
  refine take_put (i := 2) (d := 33) (oi := _) (v := ?v2) rfl rfl (by kernel_rfl) (by kernel_rfl) (by kernel_rfl) (fun _ _ _ h => h) (Or.inl ⟨by rfl, ?y2⟩) hHeld ?r2
  case y2 => (intro w hSw; (try dsimp only at hSw); go_simp; try with_reducible rfl)
  simp only [Act.put, List.setIfInBounds_toArray, List.set_cons_zero, List.set_cons_succ]
  refine wpAnyH_ready (rs := [1]) (by kernel_rfl) (by simp) (AllReadyH.cons (o := _) rfl (fun K hK => ?_) AllReadyH.nil)
  go_simp
  refine (his _).mono ?_
  rintro e wq ⟨rfl, bk⟩
  (try dsimp only)
  refine hK.out _ _ (hHeld.call bk (Nat.le_refl _)) (fun hHeld => ?_)
  clear hK K
  refine wpAnyH_ready (rs := [3]) (by kernel_rfl) (by simp) (AllReadyH.cons (o := _) rfl (fun K hK => ?_) AllReadyH.nil)
  go_simp
  refine (hri _).mono ?_
  rintro e wq ⟨rfl, bk⟩
  (try dsimp only)
  refine hK.out _ _ (hHeld.call bk (Nat.le_refl _)) (fun hHeld => ?_)
  clear hK K
  refine take_put (i := 4) (d := 35) (oi := _) (v := ?v4) rfl rfl (by kernel_rfl) (by kernel_rfl) (by kernel_rfl) (fun _ _ _ h => h) (Or.inl ⟨by rfl, ?y4⟩) hHeld ?r4
  case y4 => (intro w hSw; (try dsimp only at hSw); go_simp; try with_reducible rfl)
  simp only [Act.put, List.setIfInBounds_toArray, List.set_cons_zero, List.set_cons_succ]
  refine take_put (i := 5) (d := 36) (oi := _) (v := ?v5) rfl rfl (by kernel_rfl) (by kernel_rfl) (by kernel_rfl) (fun _ _ _ h => h) (Or.inl ⟨by rfl, ?y5⟩) hHeld ?r5
  case y5 => (intro w hSw; (try dsimp only at hSw); go_simp; try with_reducible rfl)
  simp only [Act.put, List.setIfInBounds_toArray, List.set_cons_zero, List.set_cons_succ]
  refine take_put (i := 6) (d := 37) (oi := _) (v := ?v6) rfl rfl (by kernel_rfl) (by kernel_rfl) (by kernel_rfl) (fun _ _ _ h => h) (Or.inl ⟨by rfl, ?y6⟩) hHeld ?r6
  case y6 => (intro w hSw; (try dsimp only at hSw); go_simp; try with_reducible rfl)
  simp only [Act.put, List.setIfInBounds_toArray, List.set_cons_zero, List.set_cons_succ]
  refine take_put (i := 8) (d := 39) (oi := _) (v := ?v8) rfl rfl (by kernel_rfl) (by kernel_rfl) (by kernel_rfl) (fun _ _ _ h => h) (Or.inl ⟨by rfl, ?y8⟩) hHeld ?r8
  case y8 => (intro w hSw; (try dsimp only at hSw); go_simp; try with_reducible rfl)
  simp only [Act.put, List.setIfInBounds_toArray, List.set_cons_zero, List.set_cons_succ]
  refine wpAnyH_ready (rs := [7]) (by kernel_rfl) (by simp) (AllReadyH.cons (o := _) rfl (fun K hK => ?_) AllReadyH.nil)
  go_simp
  refine (htx _ (Lib.hid hHeld.1)).mono ?_
  rintro e wq ⟨rfl, bk⟩
  (try dsimp only)
  refine hK.out _ _ (hHeld.call bk (Nat.le_refl _)) (fun hHeld => ?_)
  clear hK K
  refine wpAnyH_ready (rs := [9]) (by kernel_rfl) (by simp) (AllReadyH.cons (o := _) rfl (fun K hK => ?_) AllReadyH.nil)
  go_simp
  refine (hrt _).mono ?_
  rintro e wq ⟨rfl, bk⟩
  (try dsimp only)
  refine hK.out _ _ (hHeld.call bk (Nat.le_refl _)) (fun hHeld => ?_)
  clear hK K
  refine take_put (i := 10) (d := 41) (oi := _) (v := ?v10) rfl rfl (by kernel_rfl) (by kernel_rfl) (by kernel_rfl) (fun _ _ _ h => h) (Or.inl ⟨by rfl, ?y10⟩) hHeld ?r10
  case y10 => (intro w hSw; (try dsimp only at hSw); go_simp; try with_reducible rfl)
  simp only [Act.put, List.setIfInBounds_toArray, List.set_cons_zero, List.set_cons_succ]
  refine take_put (i := 11) (d := 42) (oi := _) (v := ?v11) rfl rfl (by kernel_rfl) (by kernel_rfl) (by kernel_rfl) (fun _ _ _ h => h) (Or.inl ⟨by rfl, ?y11⟩) hHeld ?r11
  case y11 => (intro w hSw; (try dsimp only at hSw); go_simp; try with_reducible rfl)
  simp only [Act.put, List.setIfInBounds_toArray, List.set_cons_zero, List.set_cons_succ]
  refine take_put (i := 12) (d := 43) (oi := _) (v := ?v12) rfl rfl (by kernel_rfl) (by kernel_rfl) (by kernel_rfl) (fun _ _ _ h => h) (Or.inl ⟨by rfl, ?y12⟩) hHeld ?r12
  case y12 => (intro w hSw; (try dsimp only at hSw); go_simp; try with_reducible rfl)
  simp only [Act.put, List.setIfInBounds_toArray, List.set_cons_zero, List.set_cons_succ]
  refine take_put (i := 13) (d := 44) (oi := _) (v := ?v13) rfl rfl (by kernel_rfl) (by kernel_rfl) (by kernel_rfl) (fun _ _ _ h => h) (Or.inl ⟨by rfl, ?y13⟩) hHeld ?r13
  case y13 => (intro w hSw; (try dsimp only at hSw); go_simp; try with_reducible rfl)
  simp only [Act.put, List.setIfInBounds_toArray, List.set_cons_zero, List.set_cons_succ]
  refine take_put (i := 14) (d := 45) (oi := _) (v := ?v14) rfl rfl (by kernel_rfl) (by kernel_rfl) (by kernel_rfl) (fun _ _ _ h => h) (Or.inl ⟨by rfl, ?y14⟩) hHeld ?r14
  case y14 => (intro w hSw; (try dsimp only at hSw); go_simp; try with_reducible rfl)
  simp only [Act.put, List.setIfInBounds_toArray, List.set_cons_zero, List.set_cons_succ]
  refine take_put (i := 15) (d := 46) (oi := _) (v := ?v15) rfl rfl (by kernel_rfl) (by kernel_rfl) (by kernel_rfl) (fun _ _ _ h => h) (Or.inl ⟨by rfl, ?y15⟩) hHeld ?r15
  case y15 => (intro w hSw; (try dsimp only at hSw); go_simp; try with_reducible rfl)
  simp only [Act.put, List.setIfInBounds_toArray, List.set_cons_zero, List.set_cons_succ]
  refine take_put (i := 16) (d := 47) (oi := _) (v := ?v16) rfl rfl (by kernel_rfl) (by kernel_rfl) (by kernel_rfl) (fun _ _ _ h => h) (Or.inl ⟨by rfl, ?y16⟩) hHeld ?r16
  case y16 => (intro w hSw; (try dsimp only at hSw); go_simp; try with_reducible rfl)
  simp only [Act.put, List.setIfInBounds_toArray, List.set_cons_zero, List.set_cons_succ]
  refine take_put (i := 17) (d := 48) (oi := _) (v := ?v17) rfl rfl (by kernel_rfl) (by kernel_rfl) (by kernel_rfl) (fun _ _ _ h => h) (Or.inl ⟨by rfl, ?y17⟩) hHeld ?r17
  case y17 => (intro w hSw; (try dsimp only at hSw); go_simp; try with_reducible rfl)
  simp only [Act.put, List.setIfInBounds_toArray, List.set_cons_zero, List.set_cons_succ]
  refine take_put (i := 18) (d := 49) (oi := _) (v := ?v18) rfl rfl (by kernel_rfl) (by kernel_rfl) (by kernel_rfl) (fun _ _ _ h => h) (Or.inl ⟨by rfl, ?y18⟩) hHeld ?r18
  case y18 => (intro w hSw; (try dsimp only at hSw); go_simp; try with_reducible rfl)
  simp only [Act.put, List.setIfInBounds_toArray, List.set_cons_zero, List.set_cons_succ]
  refine take_put (i := 19) (d := 50) (oi := _) (v := ?v19) rfl rfl (by kernel_rfl) (by kernel_rfl) (by kernel_rfl) (fun _ _ _ h => h) (Or.inl ⟨by rfl, ?y19⟩) hHeld ?r19
  case y19 => (intro w hSw; (try dsimp only at hSw); go_simp; try with_reducible rfl)
  simp only [Act.put, List.setIfInBounds_toArray, List.set_cons_zero, List.set_cons_succ]
  refine take_put (i := 20) (d := 51) (oi := _) (v := ?v20) rfl rfl (by kernel_rfl) (by kernel_rfl) (by kernel_rfl) (fun _ _ _ h => h) (Or.inl ⟨by rfl, ?y20⟩) hHeld ?r20
  case y20 => (intro w hSw; (try dsimp only at hSw); go_simp; try with_reducible rfl)
  simp only [Act.put, List.setIfInBounds_toArray, List.set_cons_zero, List.set_cons_succ]
  refine take_put (i := 21) (d := 52) (oi := _) (v := ?v21) rfl rfl (by kernel_rfl) (by kernel_rfl) (by kernel_rfl) (fun _ _ _ h => h) (Or.inl ⟨by rfl, ?y21⟩) hHeld ?r21
  case y21 => (intro w hSw; (try dsimp only at hSw); go_simp; try with_reducible rfl)
  simp only [Act.put, List.setIfInBounds_toArray, List.set_cons_zero, List.set_cons_succ]
  refine take_put (i := 22) (d := 53) (oi := _) (v := ?v22) rfl rfl (by kernel_rfl) (by kernel_rfl) (by kernel_rfl) (fun _ _ _ h => h) (Or.inl ⟨by rfl, ?y22⟩) hHeld ?r22
  case y22 => (intro w hSw; (try dsimp only at hSw); go_simp; try with_reducible rfl)
  simp only [Act.put, List.setIfInBounds_toArray, List.set_cons_zero, List.set_cons_succ]
  refine take_put (i := 23) (d := 54) (oi := _) (v := ?v23) rfl rfl (by kernel_rfl) (by kernel_rfl) (by kernel_rfl) (fun _ _ _ h => h) (Or.inl ⟨by rfl, ?y23⟩) hHeld ?r23
  case y23 => (intro w hSw; (try dsimp only at hSw); go_simp; try with_reducible rfl)
  simp only [Act.put, List.setIfInBounds_toArray, List.set_cons_zero, List.set_cons_succ]
  refine take_put (i := 24) (d := 55) (oi := _) (v := ?v24) rfl rfl (by kernel_rfl) (by kernel_rfl) (by kernel_rfl) (fun _ _ _ h => h) (Or.inl ⟨by rfl, ?y24⟩) hHeld ?r24
  case y24 => (intro w hSw; (try dsimp only at hSw); go_simp; try with_reducible rfl)
  simp only [Act.put, List.setIfInBounds_toArray, List.set_cons_zero, List.set_cons_succ]
  refine take_put (i := 25) (d := 56) (oi := _) (v := ?v25) rfl rfl (by kernel_rfl) (by kernel_rfl) (by kernel_rfl) (fun _ _ _ h => h) (Or.inl ⟨by rfl, ?y25⟩) hHeld ?r25
  case y25 => (intro w hSw; (try dsimp only at hSw); go_simp; try with_reducible rfl)
  simp only [Act.put, List.setIfInBounds_toArray, List.set_cons_zero, List.set_cons_succ]
  refine take_put (i := 26) (d := 57) (oi := _) (v := ?v26) rfl rfl (by kernel_rfl) (by kernel_rfl) (by kernel_rfl) (fun _ _ _ h => h) (Or.inl ⟨by rfl, ?y26⟩) hHeld ?r26
  case y26 => (intro w hSw; (try dsimp only at hSw); go_simp; try with_reducible rfl)
  simp only [Act.put, List.setIfInBounds_toArray, List.set_cons_zero, List.set_cons_succ]
  refine take_put (i := 27) (d := 58) (oi := _) (v := ?v27) rfl rfl (by kernel_rfl) (by kernel_rfl) (by kernel_rfl) (fun _ _ _ h => h) (Or.inl ⟨by rfl, ?y27⟩) hHeld ?r27
  case y27 => (intro w hSw; (try dsimp only at hSw); go_simp; try with_reducible rfl)
  simp only [Act.put, List.setIfInBounds_toArray, List.set_cons_zero, List.set_cons_succ]
  refine take_put (i := 28) (d := 59) (oi := _) (v := ?v28) rfl rfl (by kernel_rfl) (by kernel_rfl) (by kernel_rfl) (fun _ _ _ h => h) (Or.inl ⟨by rfl, ?y28⟩) hHeld ?r28
  case y28 => (intro w hSw; (try dsimp only at hSw); go_simp; try with_reducible rfl)
  simp only [Act.put, List.setIfInBounds_toArray, List.set_cons_zero, List.set_cons_succ]
  refine take_put (i := 29) (d := 60) (oi := _) (v := ?v29) rfl rfl (by kernel_rfl) (by kernel_rfl) (by kernel_rfl) (fun _ _ _ h => h) (Or.inl ⟨by rfl, ?y29⟩) hHeld ?r29
  case y29 => (intro w hSw; (try dsimp only at hSw); go_simp; try with_reducible rfl)
  simp only [Act.put, List.setIfInBounds_toArray, List.set_cons_zero, List.set_cons_succ]
  refine take_put (i := 30) (d := 61) (oi := _) (v := ?v30) rfl rfl (by kernel_rfl) (by kernel_rfl) (by kernel_rfl) (fun _ _ _ h => h) (Or.inl ⟨by rfl, ?y30⟩) hHeld ?r30
  case y30 => (intro w hSw; (try dsimp only at hSw); go_simp; try with_reducible rfl)
  simp only [Act.put, List.setIfInBounds_toArray, List.set_cons_zero, List.set_cons_succ]
  refine wpAnyH_ready (rs := [31]) (by kernel_rfl) (by simp) (AllReadyH.cons (o := _) rfl (fun K hK => ?_) AllReadyH.nil)
  go_simp
  refine (hlv _ (Lib.hid hHeld.1)).mono ?_
  rintro e wq ⟨rfl, bk⟩
  (try dsimp only)
  refine hK.out _ _ (hHeld.call bk (Nat.le_refl _)) (fun hHeld => ?_)
  clear hK K
  refine take_put (i := 32) (d := 63) (oi := _) (v := ?v32) rfl rfl (by kernel_rfl) (by kernel_rfl) (by kernel_rfl) (fun _ _ _ h => h) (Or.inl ⟨by rfl, ?y32⟩) hHeld ?r32
  case y32 => (intro w hSw; (try dsimp only at hSw); go_simp; try with_reducible rfl)
  simp only [Act.put, List.setIfInBounds_toArray, List.set_cons_zero, List.set_cons_succ]
  refine take_put (i := 33) (d := 6) (oi := _) (v := ?v33) rfl rfl (by kernel_rfl) (by kernel_rfl) (by kernel_rfl) (fun _ _ _ h => h) (Or.inl ⟨by rfl, ?y33⟩) hHeld ?r33
  case y33 => (intro w hSw; (try dsimp only at hSw); go_simp; try with_reducible rfl)
  simp only [Act.put, List.setIfInBounds_toArray, List.set_cons_zero, List.set_cons_succ]
  refine wpAnyH_done (by kernel_rfl) ?_ _
  have HF := Lib.hid hHeld
  clear hHeld u1_0_0 u1_0_1 u1_1_0 u1_1_1 u1_2_0 u1_2_1
  go_wp2
  go_ret
  exact ⟨rfl, HF.out.1⟩
set_option maxRecDepth 100000 in
set_option maxHeartbeats 16000000 in
theorem texts_high (cn sn c s : Int) (w : World) (hT : Tab w.heap.size w) (c0 : -9223372036854775808 ≤ c) (c1 : c < 9223372036854775808) (hs : 30 < s) :
    Calls Tryd.prog 3 #[nv cn sn, .int .i64 c, .int .i64 s] w fun e w' => e = .returned (.bool true) ∧ Below w.heap.size w w' := by
  have hlv : ∀ w', Hid (Below w.heap.size w w') → Calls Tryd.prog 13 #[] w' fun e w'' => e = .returned (.bool true) ∧ Below w'.heap.size w' w'' := fun w' h => lives_any w' (hT.on h.out) h.out.size
  obtain ⟨R, hR⟩ : ∃ R, (if isB cn sn = true then sb (txt cn sn.toNat) else (⟨#[63]⟩ : ByteArray)) = R := ⟨_, rfl⟩
  obtain ⟨q, hq⟩ : ∃ q, isB cn sn = q := ⟨_, rfl⟩
  have his := fun w => is_any cn sn w
  have hri := fun w => refIs_any cn sn w
  have htx : ∀ w', Hid (Below w.heap.size w w') → Calls Tryd.prog 11 #[nv cn sn] w' fun e w'' => e = .returned (.string R) ∧ Below w'.heap.size w' w'' := fun w' h => by
    rw [← hR]
    exact text_any cn sn w' (hT.on h.out) h.out.size
  have hrt := fun w => refText_any cn sn w
  have hmake := fun w => make_any c s w c0 c1
  rw [hq] at his hri
  rw [hR] at hrt
  rw [show mk c s = none by unfold mk; rw [if_neg (by omega)]] at hmake
  unfold nv at *
  unfold ans nv at hmake
  simp only at hmake
  clear hT hR hq
  have heq := fun w => run_eqN 0 0 0 0 w
  simp only [beq_self_eq_true, Bool.and_self] at heq
  go_enter Tryd.func3, Tryd.ntmps3
  go_upto_region 5 with (go_at_call 6; refine (hmake _).mono ?_; rintro e w1 ⟨rfl, b1⟩; obtain ⟨p0, p1, p2, p3⟩ := boxed b1 w.heap.size (.int .i64 cn) (.int .i64 sn) (by simp [go_sem]) (by simp [go_sem]) (by simp [go_sem]) (by simp [go_sem]); have hlt1 := kl p0; simp only at hlt1; have HB1 := Lib.hid (bT (bA1 _ _) b1); clear b1)
  have hS1 : Sv w.heap.size w [(w.heap.size, .int .i64 cn, .int .i64 sn), (w1.heap.size, .int .i64 0, .int .i64 0), (w1.heap.size + 1, .int .i64 0, .int .i64 0)] [] ((w1.alloc (Obj.cells #[.int .i64 0, .int .i64 0] 23)).alloc (Obj.cells #[.int .i64 0, .int .i64 0] 23)) := by
    refine ⟨(HB1.out.alloc HB1.out.size _).alloc (by have := HB1.out.size; simp; omega) _, ?_, ?_⟩
    · intro t ht
      simp only [List.mem_cons, List.not_mem_nil, or_false] at ht
      rcases ht with rfl | rfl | rfl
      · exact Bx.alloc (Bx.alloc ⟨p0, p1, p2, p3⟩ _) _
      · exact Bx.alloc (bxNew w1 _ _ _) _
      · exact by simpa using bxNew (w1.alloc (Obj.cells #[.int .i64 0, .int .i64 0] 23)) (.int .i64 0) (.int .i64 0) 23
    · intro t ht
      simp at ht
  obtain ⟨fx1, hfx1⟩ : ∃ fx : List (Nat × Value × Value), [(w.heap.size, .int .i64 cn, .int .i64 sn), (w1.heap.size, .int .i64 0, .int .i64 0), (w1.heap.size + 1, .int .i64 0, .int .i64 0)] = fx := ⟨_, rfl⟩
  obtain ⟨op1, hop1⟩ : ∃ op : List Nat, [] = op := ⟨_, rfl⟩
  rw [hfx1, hop1] at hS1
  have u1_0_0 := Sv.fix0 (B := w.heap.size) (o := w) (fx := fx1) (op := op1) (k := w.heap.size) (x := .int .i64 cn) (y := .int .i64 sn) (by subst hfx1; simp)
  have u1_0_1 := Sv.fix1 (B := w.heap.size) (o := w) (fx := fx1) (op := op1) (k := w.heap.size) (x := .int .i64 cn) (y := .int .i64 sn) (by subst hfx1; simp)
  have u1_1_0 := Sv.fix0 (B := w.heap.size) (o := w) (fx := fx1) (op := op1) (k := w1.heap.size) (x := .int .i64 0) (y := .int .i64 0) (by subst hfx1; simp)
  have u1_1_1 := Sv.fix1 (B := w.heap.size) (o := w) (fx := fx1) (op := op1) (k := w1.heap.size) (x := .int .i64 0) (y := .int .i64 0) (by subst hfx1; simp)
  have u1_2_0 := Sv.fix0 (B := w.heap.size) (o := w) (fx := fx1) (op := op1) (k := w1.heap.size + 1) (x := .int .i64 0) (y := .int .i64 0) (by subst hfx1; simp)
  have u1_2_1 := Sv.fix1 (B := w.heap.size) (o := w) (fx := fx1) (op := op1) (k := w1.heap.size + 1) (x := .int .i64 0) (y := .int .i64 0) (by subst hfx1; simp)
  clear hfx1 hop1
  have HS1 := Lib.hid hS1
  clear hS1
  clear p0 p1 p2 p3 hmake
  refine wp_region_held_drew (S := Sv w.heap.size w fx1 op1) (by kernel_rfl) HS1.out.drew (fun hHeld => ?_)
  refine take_put (i := 0) (d := 31) (oi := _) (v := ?v0) rfl rfl (by kernel_rfl) (by kernel_rfl) (by kernel_rfl) (fun _ _ _ h => h) (Or.inl ⟨by rfl, ?y0⟩) hHeld ?r0
  case y0 => (intro w hSw; (try dsimp only at hSw); go_simp; try with_reducible rfl)
  simp only [Act.put, List.setIfInBounds_toArray, List.set_cons_zero, List.set_cons_succ]
  refine take_put (i := 2) (d := 33) (oi := _) (v := ?v2) rfl rfl (by kernel_rfl) (by kernel_rfl) (by kernel_rfl) (fun _ _ _ h => h) (Or.inl ⟨by rfl, ?y2⟩) hHeld ?r2
  case y2 => (intro w hSw; (try dsimp only at hSw); go_simp; try with_reducible rfl)
  simp only [Act.put, List.setIfInBounds_toArray, List.set_cons_zero, List.set_cons_succ]
  refine wpAnyH_ready (rs := [1]) (by kernel_rfl) (by simp) (AllReadyH.cons (o := _) rfl (fun K hK => ?_) AllReadyH.nil)
  go_simp
  refine (his _).mono ?_
  rintro e wq ⟨rfl, bk⟩
  (try dsimp only)
  refine hK.out _ _ (hHeld.call bk (Nat.le_refl _)) (fun hHeld => ?_)
  clear hK K
  refine wpAnyH_ready (rs := [3]) (by kernel_rfl) (by simp) (AllReadyH.cons (o := _) rfl (fun K hK => ?_) AllReadyH.nil)
  go_simp
  refine (hri _).mono ?_
  rintro e wq ⟨rfl, bk⟩
  (try dsimp only)
  refine hK.out _ _ (hHeld.call bk (Nat.le_refl _)) (fun hHeld => ?_)
  clear hK K
  refine take_put (i := 4) (d := 35) (oi := _) (v := ?v4) rfl rfl (by kernel_rfl) (by kernel_rfl) (by kernel_rfl) (fun _ _ _ h => h) (Or.inl ⟨by rfl, ?y4⟩) hHeld ?r4
  case y4 => (intro w hSw; (try dsimp only at hSw); go_simp; try with_reducible rfl)
  simp only [Act.put, List.setIfInBounds_toArray, List.set_cons_zero, List.set_cons_succ]
  refine take_put (i := 5) (d := 36) (oi := _) (v := ?v5) rfl rfl (by kernel_rfl) (by kernel_rfl) (by kernel_rfl) (fun _ _ _ h => h) (Or.inl ⟨by rfl, ?y5⟩) hHeld ?r5
  case y5 => (intro w hSw; (try dsimp only at hSw); go_simp; try with_reducible rfl)
  simp only [Act.put, List.setIfInBounds_toArray, List.set_cons_zero, List.set_cons_succ]
  refine take_put (i := 6) (d := 37) (oi := _) (v := ?v6) rfl rfl (by kernel_rfl) (by kernel_rfl) (by kernel_rfl) (fun _ _ _ h => h) (Or.inl ⟨by rfl, ?y6⟩) hHeld ?r6
  case y6 => (intro w hSw; (try dsimp only at hSw); go_simp; try with_reducible rfl)
  simp only [Act.put, List.setIfInBounds_toArray, List.set_cons_zero, List.set_cons_succ]
  refine take_put (i := 8) (d := 39) (oi := _) (v := ?v8) rfl rfl (by kernel_rfl) (by kernel_rfl) (by kernel_rfl) (fun _ _ _ h => h) (Or.inl ⟨by rfl, ?y8⟩) hHeld ?r8
  case y8 => (intro w hSw; (try dsimp only at hSw); go_simp; try with_reducible rfl)
  simp only [Act.put, List.setIfInBounds_toArray, List.set_cons_zero, List.set_cons_succ]
  refine wpAnyH_ready (rs := [7]) (by kernel_rfl) (by simp) (AllReadyH.cons (o := _) rfl (fun K hK => ?_) AllReadyH.nil)
  go_simp
  refine (htx _ (Lib.hid hHeld.1)).mono ?_
  rintro e wq ⟨rfl, bk⟩
  (try dsimp only)
  refine hK.out _ _ (hHeld.call bk (Nat.le_refl _)) (fun hHeld => ?_)
  clear hK K
  refine wpAnyH_ready (rs := [9]) (by kernel_rfl) (by simp) (AllReadyH.cons (o := _) rfl (fun K hK => ?_) AllReadyH.nil)
  go_simp
  refine (hrt _).mono ?_
  rintro e wq ⟨rfl, bk⟩
  (try dsimp only)
  refine hK.out _ _ (hHeld.call bk (Nat.le_refl _)) (fun hHeld => ?_)
  clear hK K
  refine take_put (i := 10) (d := 41) (oi := _) (v := ?v10) rfl rfl (by kernel_rfl) (by kernel_rfl) (by kernel_rfl) (fun _ _ _ h => h) (Or.inl ⟨by rfl, ?y10⟩) hHeld ?r10
  case y10 => (intro w hSw; (try dsimp only at hSw); go_simp; try with_reducible rfl)
  simp only [Act.put, List.setIfInBounds_toArray, List.set_cons_zero, List.set_cons_succ]
  refine take_put (i := 11) (d := 42) (oi := _) (v := ?v11) rfl rfl (by kernel_rfl) (by kernel_rfl) (by kernel_rfl) (fun _ _ _ h => h) (Or.inl ⟨by rfl, ?y11⟩) hHeld ?r11
  case y11 => (intro w hSw; (try dsimp only at hSw); go_simp; try with_reducible rfl)
  simp only [Act.put, List.setIfInBounds_toArray, List.set_cons_zero, List.set_cons_succ]
  refine take_put (i := 12) (d := 43) (oi := _) (v := ?v12) rfl rfl (by kernel_rfl) (by kernel_rfl) (by kernel_rfl) (fun _ _ _ h => h) (Or.inl ⟨by rfl, ?y12⟩) hHeld ?r12
  case y12 => (intro w hSw; (try dsimp only at hSw); go_simp; try with_reducible rfl)
  simp only [Act.put, List.setIfInBounds_toArray, List.set_cons_zero, List.set_cons_succ]
  refine take_put (i := 13) (d := 44) (oi := _) (v := ?v13) rfl rfl (by kernel_rfl) (by kernel_rfl) (by kernel_rfl) (fun _ _ _ h => h) (Or.inl ⟨by rfl, ?y13⟩) hHeld ?r13
  case y13 => (intro w hSw; (try dsimp only at hSw); go_simp; try with_reducible rfl)
  simp only [Act.put, List.setIfInBounds_toArray, List.set_cons_zero, List.set_cons_succ]
  refine take_put (i := 14) (d := 45) (oi := _) (v := ?v14) rfl rfl (by kernel_rfl) (by kernel_rfl) (by kernel_rfl) (fun _ _ _ h => h) (Or.inl ⟨by rfl, ?y14⟩) hHeld ?r14
  case y14 => (intro w hSw; (try dsimp only at hSw); go_simp; try with_reducible rfl)
  simp only [Act.put, List.setIfInBounds_toArray, List.set_cons_zero, List.set_cons_succ]
  refine take_put (i := 15) (d := 46) (oi := _) (v := ?v15) rfl rfl (by kernel_rfl) (by kernel_rfl) (by kernel_rfl) (fun _ _ _ h => h) (Or.inl ⟨by rfl, ?y15⟩) hHeld ?r15
  case y15 => (intro w hSw; (try dsimp only at hSw); go_simp; try with_reducible rfl)
  simp only [Act.put, List.setIfInBounds_toArray, List.set_cons_zero, List.set_cons_succ]
  refine take_put (i := 16) (d := 47) (oi := _) (v := ?v16) rfl rfl (by kernel_rfl) (by kernel_rfl) (by kernel_rfl) (fun _ _ _ h => h) (Or.inl ⟨by rfl, ?y16⟩) hHeld ?r16
  case y16 => (intro w hSw; (try dsimp only at hSw); go_simp; try with_reducible rfl)
  simp only [Act.put, List.setIfInBounds_toArray, List.set_cons_zero, List.set_cons_succ]
  refine take_put (i := 17) (d := 48) (oi := _) (v := ?v17) rfl rfl (by kernel_rfl) (by kernel_rfl) (by kernel_rfl) (fun _ _ _ h => h) (Or.inl ⟨by rfl, ?y17⟩) hHeld ?r17
  case y17 => (intro w hSw; (try dsimp only at hSw); go_simp; try with_reducible rfl)
  simp only [Act.put, List.setIfInBounds_toArray, List.set_cons_zero, List.set_cons_succ]
  refine take_put (i := 18) (d := 49) (oi := _) (v := ?v18) rfl rfl (by kernel_rfl) (by kernel_rfl) (by kernel_rfl) (fun _ _ _ h => h) (Or.inl ⟨by rfl, ?y18⟩) hHeld ?r18
  case y18 => (intro w hSw; (try dsimp only at hSw); go_simp; try with_reducible rfl)
  simp only [Act.put, List.setIfInBounds_toArray, List.set_cons_zero, List.set_cons_succ]
  refine take_put (i := 19) (d := 50) (oi := _) (v := ?v19) rfl rfl (by kernel_rfl) (by kernel_rfl) (by kernel_rfl) (fun _ _ _ h => h) (Or.inl ⟨by rfl, ?y19⟩) hHeld ?r19
  case y19 => (intro w hSw; (try dsimp only at hSw); go_simp; try with_reducible rfl)
  simp only [Act.put, List.setIfInBounds_toArray, List.set_cons_zero, List.set_cons_succ]
  refine take_put (i := 20) (d := 51) (oi := _) (v := ?v20) rfl rfl (by kernel_rfl) (by kernel_rfl) (by kernel_rfl) (fun _ _ _ h => h) (Or.inl ⟨by rfl, ?y20⟩) hHeld ?r20
  case y20 => (intro w hSw; (try dsimp only at hSw); go_simp; try with_reducible rfl)
  simp only [Act.put, List.setIfInBounds_toArray, List.set_cons_zero, List.set_cons_succ]
  refine take_put (i := 21) (d := 52) (oi := _) (v := ?v21) rfl rfl (by kernel_rfl) (by kernel_rfl) (by kernel_rfl) (fun _ _ _ h => h) (Or.inl ⟨by rfl, ?y21⟩) hHeld ?r21
  case y21 => (intro w hSw; (try dsimp only at hSw); go_simp; try with_reducible rfl)
  simp only [Act.put, List.setIfInBounds_toArray, List.set_cons_zero, List.set_cons_succ]
  refine take_put (i := 22) (d := 53) (oi := _) (v := ?v22) rfl rfl (by kernel_rfl) (by kernel_rfl) (by kernel_rfl) (fun _ _ _ h => h) (Or.inl ⟨by rfl, ?y22⟩) hHeld ?r22
  case y22 => (intro w hSw; (try dsimp only at hSw); go_simp; try with_reducible rfl)
  simp only [Act.put, List.setIfInBounds_toArray, List.set_cons_zero, List.set_cons_succ]
  refine take_put (i := 23) (d := 54) (oi := _) (v := ?v23) rfl rfl (by kernel_rfl) (by kernel_rfl) (by kernel_rfl) (fun _ _ _ h => h) (Or.inl ⟨by rfl, ?y23⟩) hHeld ?r23
  case y23 => (intro w hSw; (try dsimp only at hSw); go_simp; try with_reducible rfl)
  simp only [Act.put, List.setIfInBounds_toArray, List.set_cons_zero, List.set_cons_succ]
  refine take_put (i := 24) (d := 55) (oi := _) (v := ?v24) rfl rfl (by kernel_rfl) (by kernel_rfl) (by kernel_rfl) (fun _ _ _ h => h) (Or.inl ⟨by rfl, ?y24⟩) hHeld ?r24
  case y24 => (intro w hSw; (try dsimp only at hSw); go_simp; try with_reducible rfl)
  simp only [Act.put, List.setIfInBounds_toArray, List.set_cons_zero, List.set_cons_succ]
  refine take_put (i := 25) (d := 56) (oi := _) (v := ?v25) rfl rfl (by kernel_rfl) (by kernel_rfl) (by kernel_rfl) (fun _ _ _ h => h) (Or.inl ⟨by rfl, ?y25⟩) hHeld ?r25
  case y25 => (intro w hSw; (try dsimp only at hSw); go_simp; try with_reducible rfl)
  simp only [Act.put, List.setIfInBounds_toArray, List.set_cons_zero, List.set_cons_succ]
  refine take_put (i := 26) (d := 57) (oi := _) (v := ?v26) rfl rfl (by kernel_rfl) (by kernel_rfl) (by kernel_rfl) (fun _ _ _ h => h) (Or.inl ⟨by rfl, ?y26⟩) hHeld ?r26
  case y26 => (intro w hSw; (try dsimp only at hSw); go_simp; try with_reducible rfl)
  simp only [Act.put, List.setIfInBounds_toArray, List.set_cons_zero, List.set_cons_succ]
  refine take_put (i := 27) (d := 58) (oi := _) (v := ?v27) rfl rfl (by kernel_rfl) (by kernel_rfl) (by kernel_rfl) (fun _ _ _ h => h) (Or.inl ⟨by rfl, ?y27⟩) hHeld ?r27
  case y27 => (intro w hSw; (try dsimp only at hSw); go_simp; try with_reducible rfl)
  simp only [Act.put, List.setIfInBounds_toArray, List.set_cons_zero, List.set_cons_succ]
  refine take_put (i := 28) (d := 59) (oi := _) (v := ?v28) rfl rfl (by kernel_rfl) (by kernel_rfl) (by kernel_rfl) (fun _ _ _ h => h) (Or.inl ⟨by rfl, ?y28⟩) hHeld ?r28
  case y28 => (intro w hSw; (try dsimp only at hSw); go_simp; try with_reducible rfl)
  simp only [Act.put, List.setIfInBounds_toArray, List.set_cons_zero, List.set_cons_succ]
  refine take_put (i := 29) (d := 60) (oi := _) (v := ?v29) rfl rfl (by kernel_rfl) (by kernel_rfl) (by kernel_rfl) (fun _ _ _ h => h) (Or.inl ⟨by rfl, ?y29⟩) hHeld ?r29
  case y29 => (intro w hSw; (try dsimp only at hSw); go_simp; try with_reducible rfl)
  simp only [Act.put, List.setIfInBounds_toArray, List.set_cons_zero, List.set_cons_succ]
  refine take_put (i := 30) (d := 61) (oi := _) (v := ?v30) rfl rfl (by kernel_rfl) (by kernel_rfl) (by kernel_rfl) (fun _ _ _ h => h) (Or.inl ⟨by rfl, ?y30⟩) hHeld ?r30
  case y30 => (intro w hSw; (try dsimp only at hSw); go_simp; try with_reducible rfl)
  simp only [Act.put, List.setIfInBounds_toArray, List.set_cons_zero, List.set_cons_succ]
  refine wpAnyH_ready (rs := [31]) (by kernel_rfl) (by simp) (AllReadyH.cons (o := _) rfl (fun K hK => ?_) AllReadyH.nil)
  go_simp
  refine (hlv _ (Lib.hid hHeld.1)).mono ?_
  rintro e wq ⟨rfl, bk⟩
  (try dsimp only)
  refine hK.out _ _ (hHeld.call bk (Nat.le_refl _)) (fun hHeld => ?_)
  clear hK K
  refine take_put (i := 32) (d := 63) (oi := _) (v := ?v32) rfl rfl (by kernel_rfl) (by kernel_rfl) (by kernel_rfl) (fun _ _ _ h => h) (Or.inl ⟨by rfl, ?y32⟩) hHeld ?r32
  case y32 => (intro w hSw; (try dsimp only at hSw); go_simp; try with_reducible rfl)
  simp only [Act.put, List.setIfInBounds_toArray, List.set_cons_zero, List.set_cons_succ]
  refine take_put (i := 33) (d := 6) (oi := _) (v := ?v33) rfl rfl (by kernel_rfl) (by kernel_rfl) (by kernel_rfl) (fun _ _ _ h => h) (Or.inl ⟨by rfl, ?y33⟩) hHeld ?r33
  case y33 => (intro w hSw; (try dsimp only at hSw); go_simp; try with_reducible rfl)
  simp only [Act.put, List.setIfInBounds_toArray, List.set_cons_zero, List.set_cons_succ]
  refine wpAnyH_done (by kernel_rfl) ?_ _
  have HF := Lib.hid hHeld
  clear hHeld u1_0_0 u1_0_1 u1_1_0 u1_1_1 u1_2_0 u1_2_1
  go_wp2
  go_ret
  exact ⟨rfl, HF.out.1⟩
set_option maxRecDepth 100000 in
set_option maxHeartbeats 16000000 in
theorem texts_none (cn sn c s : Int) (w : World) (hT : Tab w.heap.size w) (c0 : -9223372036854775808 ≤ c) (c1 : c < 9223372036854775808) (hs : 0 ≤ s ∧ s ≤ 30) (ho : hold c s.toNat = none) :
    Calls Tryd.prog 3 #[nv cn sn, .int .i64 c, .int .i64 s] w fun e w' => e = .returned (.bool true) ∧ Below w.heap.size w w' := by
  have hlv : ∀ w', Hid (Below w.heap.size w w') → Calls Tryd.prog 13 #[] w' fun e w'' => e = .returned (.bool true) ∧ Below w'.heap.size w' w'' := fun w' h => lives_any w' (hT.on h.out) h.out.size
  obtain ⟨R, hR⟩ : ∃ R, (if isB cn sn = true then sb (txt cn sn.toNat) else (⟨#[63]⟩ : ByteArray)) = R := ⟨_, rfl⟩
  obtain ⟨q, hq⟩ : ∃ q, isB cn sn = q := ⟨_, rfl⟩
  have his := fun w => is_any cn sn w
  have hri := fun w => refIs_any cn sn w
  have htx : ∀ w', Hid (Below w.heap.size w w') → Calls Tryd.prog 11 #[nv cn sn] w' fun e w'' => e = .returned (.string R) ∧ Below w'.heap.size w' w'' := fun w' h => by
    rw [← hR]
    exact text_any cn sn w' (hT.on h.out) h.out.size
  have hrt := fun w => refText_any cn sn w
  have hmake := fun w => make_any c s w c0 c1
  rw [hq] at his hri
  rw [hR] at hrt
  rw [show mk c s = none by unfold mk; rw [if_pos hs]; exact ho] at hmake
  unfold nv at *
  unfold ans nv at hmake
  simp only at hmake
  have hof : ∀ w', Calls Tryd.prog 8 #[.int .i64 c] w' (fun e w'' => ∃ ao n cap, e = .returned (.agg #[.bool (decide (c < 0)), .slice ao n cap]) ∧ Hid (Rw w'' (.slice ao n cap) (dgs c.natAbs)) ∧ Below w'.heap.size w' w'') := fun w' => by
    refine (of_any c w' c0 c1).mono ?_
    rintro e w'' ⟨v', rfl, h1, h2⟩
    obtain ⟨ao, n, cap, rfl⟩ := h1.sl
    exact ⟨ao, n, cap, rfl, Lib.hid h1, h2⟩
  have hnum : ∀ v w', Hid (Rw w' v (dgs c.natAbs)) → Calls Tryd.prog 7 #[.agg #[.bool (decide (c < 0)), v], .int .i64 s] w' fun e w'' => e = .returned (.tuple #[.agg #[.int .i64 0, .int .i64 0], .bool false]) ∧ Below w'.heap.size w' w'' := fun v w' h => by
    have hl := dgs_short (n := c.natAbs) (by omega)
    have hn := num_nonneg (decide (c < 0)) v (dgs c.natAbs) s.toNat c w' h.out (Dg_dgs _) (by omega) (by omega) (by rw [dv_dgs, sg_of])
    rw [ho, show ((s.toNat : Nat) : Int) = s by omega] at hn
    exact hn
  clear hT hR hq ho
  have heq := fun w => run_eqN 0 0 0 0 w
  simp only [beq_self_eq_true, Bool.and_self] at heq
  obtain ⟨hs0, hs1⟩ := hs
  obtain ⟨g, hg⟩ : ∃ g, decide (c < 0) = g := ⟨_, rfl⟩
  rw [hg] at hof hnum
  clear hg
  go_enter Tryd.func3, Tryd.ntmps3
  go_upto_region 5 with (first | (go_at_call 6; refine (hmake _).mono ?_; rintro e w1 ⟨rfl, b1⟩; obtain ⟨p0, p1, p2, p3⟩ := boxed b1 w.heap.size (.int .i64 cn) (.int .i64 sn) (by simp [go_sem]) (by simp [go_sem]) (by simp [go_sem]) (by simp [go_sem]); have hlt1 := kl p0; simp only at hlt1; have HB1 := Lib.hid (bT (bA1 _ _) b1); clear b1) | (go_at_call 8; refine (hof _).mono ?_; rintro e w2 ⟨ao, n2, ac, rfl, HR2, b2⟩; have HX0 := Lib.hid (Bx.on (Bx.alloc (Bx.alloc (⟨p0, p1, p2, p3⟩ : Bx _ _ _ _) (Obj.cells #[.int .i64 0, .int .i64 0] 23)) (Obj.cells #[.int .i64 0, .int .i64 0] 23)) b2); have HX1 := Lib.hid (Bx.on (Bx.alloc (bxNew w1 (.int .i64 0) (.int .i64 0) 23) (Obj.cells #[.int .i64 0, .int .i64 0] 23)) b2); have HX2 := Lib.hid (Bx.on (bxNew (w1.alloc (Obj.cells #[.int .i64 0, .int .i64 0] 23)) (.int .i64 0) (.int .i64 0) 23) b2); have HB2 := Lib.hid (bT ((HB1.out.alloc HB1.out.size _).alloc (by have := HB1.out.size; simp; omega) _) b2); clear b2) | (go_at_call 7; refine (hnum _ _ HR2).mono ?_; rintro e w3 ⟨rfl, b3⟩; have HY0 := Lib.hid (HX0.out.on b3); have HY1 := Lib.hid (HX1.out.on b3); have HY2 := Lib.hid (HX2.out.on b3); have HB3 := Lib.hid (bT HB2.out b3); clear b3; obtain ⟨r0, r1, r2, r3⟩ : Bx w3 (w1.heap.size + 1) (.int .i64 0) (.int .i64 0) := by simpa using HY2.out))
  have HZ2 : Hid (Bx w3 (w1.heap.size + 1) (.int .i64 0) (.int .i64 0)) := Lib.hid ⟨r0, r1, r2, r3⟩
  have hS1 : Sv w.heap.size w [(w.heap.size, .int .i64 cn, .int .i64 sn), (w1.heap.size, .int .i64 0, .int .i64 0), (w1.heap.size + 1, .int .i64 0, .int .i64 0)] [] ((w3.setCell ⟨w1.heap.size + 1, 0, none⟩ (.int .i64 0)).setCell ⟨w1.heap.size + 1, 1, none⟩ (.int .i64 0)) := by
    refine ⟨(HB3.out.setCell (by simp; omega) _).setCell (by simp; omega) _, ?_, ?_⟩
    · intro t ht
      simp only [List.mem_cons, List.not_mem_nil, or_false] at ht
      rcases ht with rfl | rfl | rfl
      · exact (HY0.out.far (by simp; omega) _).far (by simp; omega) _
      · exact (HY1.out.far (by simp) _).far (by simp) _
      · exact HZ2.out.put _ _
    · intro t ht
      simp at ht
  obtain ⟨fx1, hfx1⟩ : ∃ fx : List (Nat × Value × Value), [(w.heap.size, .int .i64 cn, .int .i64 sn), (w1.heap.size, .int .i64 0, .int .i64 0), (w1.heap.size + 1, .int .i64 0, .int .i64 0)] = fx := ⟨_, rfl⟩
  obtain ⟨op1, hop1⟩ : ∃ op : List Nat, [] = op := ⟨_, rfl⟩
  rw [hfx1, hop1] at hS1
  have u1_0_0 := Sv.fix0 (B := w.heap.size) (o := w) (fx := fx1) (op := op1) (k := w.heap.size) (x := .int .i64 cn) (y := .int .i64 sn) (by subst hfx1; simp)
  have u1_0_1 := Sv.fix1 (B := w.heap.size) (o := w) (fx := fx1) (op := op1) (k := w.heap.size) (x := .int .i64 cn) (y := .int .i64 sn) (by subst hfx1; simp)
  have u1_1_0 := Sv.fix0 (B := w.heap.size) (o := w) (fx := fx1) (op := op1) (k := w1.heap.size) (x := .int .i64 0) (y := .int .i64 0) (by subst hfx1; simp)
  have u1_1_1 := Sv.fix1 (B := w.heap.size) (o := w) (fx := fx1) (op := op1) (k := w1.heap.size) (x := .int .i64 0) (y := .int .i64 0) (by subst hfx1; simp)
  have u1_2_0 := Sv.fix0 (B := w.heap.size) (o := w) (fx := fx1) (op := op1) (k := w1.heap.size + 1) (x := .int .i64 0) (y := .int .i64 0) (by subst hfx1; simp)
  have u1_2_1 := Sv.fix1 (B := w.heap.size) (o := w) (fx := fx1) (op := op1) (k := w1.heap.size + 1) (x := .int .i64 0) (y := .int .i64 0) (by subst hfx1; simp)
  clear hfx1 hop1
  have HS1 := Lib.hid hS1
  clear hS1
  clear p0 p1 p2 p3 hmake r0 r1 r2 r3 hof hnum
  refine wp_region_held_drew (S := Sv w.heap.size w fx1 op1) (by kernel_rfl) HS1.out.drew (fun hHeld => ?_)
  refine take_put (i := 0) (d := 31) (oi := _) (v := ?v0) rfl rfl (by kernel_rfl) (by kernel_rfl) (by kernel_rfl) (fun _ _ _ h => h) (Or.inl ⟨by rfl, ?y0⟩) hHeld ?r0
  case y0 => (intro w hSw; (try dsimp only at hSw); go_simp; try with_reducible rfl)
  simp only [Act.put, List.setIfInBounds_toArray, List.set_cons_zero, List.set_cons_succ]
  refine take_put (i := 2) (d := 33) (oi := _) (v := ?v2) rfl rfl (by kernel_rfl) (by kernel_rfl) (by kernel_rfl) (fun _ _ _ h => h) (Or.inl ⟨by rfl, ?y2⟩) hHeld ?r2
  case y2 => (intro w hSw; (try dsimp only at hSw); go_simp; try with_reducible rfl)
  simp only [Act.put, List.setIfInBounds_toArray, List.set_cons_zero, List.set_cons_succ]
  refine wpAnyH_ready (rs := [1]) (by kernel_rfl) (by simp) (AllReadyH.cons (o := _) rfl (fun K hK => ?_) AllReadyH.nil)
  go_simp
  refine (his _).mono ?_
  rintro e wq ⟨rfl, bk⟩
  (try dsimp only)
  refine hK.out _ _ (hHeld.call bk (Nat.le_refl _)) (fun hHeld => ?_)
  clear hK K
  refine wpAnyH_ready (rs := [3]) (by kernel_rfl) (by simp) (AllReadyH.cons (o := _) rfl (fun K hK => ?_) AllReadyH.nil)
  go_simp
  refine (hri _).mono ?_
  rintro e wq ⟨rfl, bk⟩
  (try dsimp only)
  refine hK.out _ _ (hHeld.call bk (Nat.le_refl _)) (fun hHeld => ?_)
  clear hK K
  refine take_put (i := 4) (d := 35) (oi := _) (v := ?v4) rfl rfl (by kernel_rfl) (by kernel_rfl) (by kernel_rfl) (fun _ _ _ h => h) (Or.inl ⟨by rfl, ?y4⟩) hHeld ?r4
  case y4 => (intro w hSw; (try dsimp only at hSw); go_simp; try with_reducible rfl)
  simp only [Act.put, List.setIfInBounds_toArray, List.set_cons_zero, List.set_cons_succ]
  refine take_put (i := 5) (d := 36) (oi := _) (v := ?v5) rfl rfl (by kernel_rfl) (by kernel_rfl) (by kernel_rfl) (fun _ _ _ h => h) (Or.inl ⟨by rfl, ?y5⟩) hHeld ?r5
  case y5 => (intro w hSw; (try dsimp only at hSw); go_simp; try with_reducible rfl)
  simp only [Act.put, List.setIfInBounds_toArray, List.set_cons_zero, List.set_cons_succ]
  refine take_put (i := 6) (d := 37) (oi := _) (v := ?v6) rfl rfl (by kernel_rfl) (by kernel_rfl) (by kernel_rfl) (fun _ _ _ h => h) (Or.inl ⟨by rfl, ?y6⟩) hHeld ?r6
  case y6 => (intro w hSw; (try dsimp only at hSw); go_simp; try with_reducible rfl)
  simp only [Act.put, List.setIfInBounds_toArray, List.set_cons_zero, List.set_cons_succ]
  refine take_put (i := 8) (d := 39) (oi := _) (v := ?v8) rfl rfl (by kernel_rfl) (by kernel_rfl) (by kernel_rfl) (fun _ _ _ h => h) (Or.inl ⟨by rfl, ?y8⟩) hHeld ?r8
  case y8 => (intro w hSw; (try dsimp only at hSw); go_simp; try with_reducible rfl)
  simp only [Act.put, List.setIfInBounds_toArray, List.set_cons_zero, List.set_cons_succ]
  refine wpAnyH_ready (rs := [7]) (by kernel_rfl) (by simp) (AllReadyH.cons (o := _) rfl (fun K hK => ?_) AllReadyH.nil)
  go_simp
  refine (htx _ (Lib.hid hHeld.1)).mono ?_
  rintro e wq ⟨rfl, bk⟩
  (try dsimp only)
  refine hK.out _ _ (hHeld.call bk (Nat.le_refl _)) (fun hHeld => ?_)
  clear hK K
  refine wpAnyH_ready (rs := [9]) (by kernel_rfl) (by simp) (AllReadyH.cons (o := _) rfl (fun K hK => ?_) AllReadyH.nil)
  go_simp
  refine (hrt _).mono ?_
  rintro e wq ⟨rfl, bk⟩
  (try dsimp only)
  refine hK.out _ _ (hHeld.call bk (Nat.le_refl _)) (fun hHeld => ?_)
  clear hK K
  refine take_put (i := 10) (d := 41) (oi := _) (v := ?v10) rfl rfl (by kernel_rfl) (by kernel_rfl) (by kernel_rfl) (fun _ _ _ h => h) (Or.inl ⟨by rfl, ?y10⟩) hHeld ?r10
  case y10 => (intro w hSw; (try dsimp only at hSw); go_simp; try with_reducible rfl)
  simp only [Act.put, List.setIfInBounds_toArray, List.set_cons_zero, List.set_cons_succ]
  refine take_put (i := 11) (d := 42) (oi := _) (v := ?v11) rfl rfl (by kernel_rfl) (by kernel_rfl) (by kernel_rfl) (fun _ _ _ h => h) (Or.inl ⟨by rfl, ?y11⟩) hHeld ?r11
  case y11 => (intro w hSw; (try dsimp only at hSw); go_simp; try with_reducible rfl)
  simp only [Act.put, List.setIfInBounds_toArray, List.set_cons_zero, List.set_cons_succ]
  refine take_put (i := 12) (d := 43) (oi := _) (v := ?v12) rfl rfl (by kernel_rfl) (by kernel_rfl) (by kernel_rfl) (fun _ _ _ h => h) (Or.inl ⟨by rfl, ?y12⟩) hHeld ?r12
  case y12 => (intro w hSw; (try dsimp only at hSw); go_simp; try with_reducible rfl)
  simp only [Act.put, List.setIfInBounds_toArray, List.set_cons_zero, List.set_cons_succ]
  refine take_put (i := 13) (d := 44) (oi := _) (v := ?v13) rfl rfl (by kernel_rfl) (by kernel_rfl) (by kernel_rfl) (fun _ _ _ h => h) (Or.inl ⟨by rfl, ?y13⟩) hHeld ?r13
  case y13 => (intro w hSw; (try dsimp only at hSw); go_simp; try with_reducible rfl)
  simp only [Act.put, List.setIfInBounds_toArray, List.set_cons_zero, List.set_cons_succ]
  refine take_put (i := 14) (d := 45) (oi := _) (v := ?v14) rfl rfl (by kernel_rfl) (by kernel_rfl) (by kernel_rfl) (fun _ _ _ h => h) (Or.inl ⟨by rfl, ?y14⟩) hHeld ?r14
  case y14 => (intro w hSw; (try dsimp only at hSw); go_simp; try with_reducible rfl)
  simp only [Act.put, List.setIfInBounds_toArray, List.set_cons_zero, List.set_cons_succ]
  refine take_put (i := 15) (d := 46) (oi := _) (v := ?v15) rfl rfl (by kernel_rfl) (by kernel_rfl) (by kernel_rfl) (fun _ _ _ h => h) (Or.inl ⟨by rfl, ?y15⟩) hHeld ?r15
  case y15 => (intro w hSw; (try dsimp only at hSw); go_simp; try with_reducible rfl)
  simp only [Act.put, List.setIfInBounds_toArray, List.set_cons_zero, List.set_cons_succ]
  refine take_put (i := 16) (d := 47) (oi := _) (v := ?v16) rfl rfl (by kernel_rfl) (by kernel_rfl) (by kernel_rfl) (fun _ _ _ h => h) (Or.inl ⟨by rfl, ?y16⟩) hHeld ?r16
  case y16 => (intro w hSw; (try dsimp only at hSw); go_simp; try with_reducible rfl)
  simp only [Act.put, List.setIfInBounds_toArray, List.set_cons_zero, List.set_cons_succ]
  refine take_put (i := 17) (d := 48) (oi := _) (v := ?v17) rfl rfl (by kernel_rfl) (by kernel_rfl) (by kernel_rfl) (fun _ _ _ h => h) (Or.inl ⟨by rfl, ?y17⟩) hHeld ?r17
  case y17 => (intro w hSw; (try dsimp only at hSw); go_simp; try with_reducible rfl)
  simp only [Act.put, List.setIfInBounds_toArray, List.set_cons_zero, List.set_cons_succ]
  refine take_put (i := 18) (d := 49) (oi := _) (v := ?v18) rfl rfl (by kernel_rfl) (by kernel_rfl) (by kernel_rfl) (fun _ _ _ h => h) (Or.inl ⟨by rfl, ?y18⟩) hHeld ?r18
  case y18 => (intro w hSw; (try dsimp only at hSw); go_simp; try with_reducible rfl)
  simp only [Act.put, List.setIfInBounds_toArray, List.set_cons_zero, List.set_cons_succ]
  refine take_put (i := 19) (d := 50) (oi := _) (v := ?v19) rfl rfl (by kernel_rfl) (by kernel_rfl) (by kernel_rfl) (fun _ _ _ h => h) (Or.inl ⟨by rfl, ?y19⟩) hHeld ?r19
  case y19 => (intro w hSw; (try dsimp only at hSw); go_simp; try with_reducible rfl)
  simp only [Act.put, List.setIfInBounds_toArray, List.set_cons_zero, List.set_cons_succ]
  refine take_put (i := 20) (d := 51) (oi := _) (v := ?v20) rfl rfl (by kernel_rfl) (by kernel_rfl) (by kernel_rfl) (fun _ _ _ h => h) (Or.inl ⟨by rfl, ?y20⟩) hHeld ?r20
  case y20 => (intro w hSw; (try dsimp only at hSw); go_simp; try with_reducible rfl)
  simp only [Act.put, List.setIfInBounds_toArray, List.set_cons_zero, List.set_cons_succ]
  refine take_put (i := 21) (d := 52) (oi := _) (v := ?v21) rfl rfl (by kernel_rfl) (by kernel_rfl) (by kernel_rfl) (fun _ _ _ h => h) (Or.inl ⟨by rfl, ?y21⟩) hHeld ?r21
  case y21 => (intro w hSw; (try dsimp only at hSw); go_simp; try with_reducible rfl)
  simp only [Act.put, List.setIfInBounds_toArray, List.set_cons_zero, List.set_cons_succ]
  refine take_put (i := 22) (d := 53) (oi := _) (v := ?v22) rfl rfl (by kernel_rfl) (by kernel_rfl) (by kernel_rfl) (fun _ _ _ h => h) (Or.inl ⟨by rfl, ?y22⟩) hHeld ?r22
  case y22 => (intro w hSw; (try dsimp only at hSw); go_simp; try with_reducible rfl)
  simp only [Act.put, List.setIfInBounds_toArray, List.set_cons_zero, List.set_cons_succ]
  refine take_put (i := 23) (d := 54) (oi := _) (v := ?v23) rfl rfl (by kernel_rfl) (by kernel_rfl) (by kernel_rfl) (fun _ _ _ h => h) (Or.inl ⟨by rfl, ?y23⟩) hHeld ?r23
  case y23 => (intro w hSw; (try dsimp only at hSw); go_simp; try with_reducible rfl)
  simp only [Act.put, List.setIfInBounds_toArray, List.set_cons_zero, List.set_cons_succ]
  refine take_put (i := 24) (d := 55) (oi := _) (v := ?v24) rfl rfl (by kernel_rfl) (by kernel_rfl) (by kernel_rfl) (fun _ _ _ h => h) (Or.inl ⟨by rfl, ?y24⟩) hHeld ?r24
  case y24 => (intro w hSw; (try dsimp only at hSw); go_simp; try with_reducible rfl)
  simp only [Act.put, List.setIfInBounds_toArray, List.set_cons_zero, List.set_cons_succ]
  refine take_put (i := 25) (d := 56) (oi := _) (v := ?v25) rfl rfl (by kernel_rfl) (by kernel_rfl) (by kernel_rfl) (fun _ _ _ h => h) (Or.inl ⟨by rfl, ?y25⟩) hHeld ?r25
  case y25 => (intro w hSw; (try dsimp only at hSw); go_simp; try with_reducible rfl)
  simp only [Act.put, List.setIfInBounds_toArray, List.set_cons_zero, List.set_cons_succ]
  refine take_put (i := 26) (d := 57) (oi := _) (v := ?v26) rfl rfl (by kernel_rfl) (by kernel_rfl) (by kernel_rfl) (fun _ _ _ h => h) (Or.inl ⟨by rfl, ?y26⟩) hHeld ?r26
  case y26 => (intro w hSw; (try dsimp only at hSw); go_simp; try with_reducible rfl)
  simp only [Act.put, List.setIfInBounds_toArray, List.set_cons_zero, List.set_cons_succ]
  refine take_put (i := 27) (d := 58) (oi := _) (v := ?v27) rfl rfl (by kernel_rfl) (by kernel_rfl) (by kernel_rfl) (fun _ _ _ h => h) (Or.inl ⟨by rfl, ?y27⟩) hHeld ?r27
  case y27 => (intro w hSw; (try dsimp only at hSw); go_simp; try with_reducible rfl)
  simp only [Act.put, List.setIfInBounds_toArray, List.set_cons_zero, List.set_cons_succ]
  refine take_put (i := 28) (d := 59) (oi := _) (v := ?v28) rfl rfl (by kernel_rfl) (by kernel_rfl) (by kernel_rfl) (fun _ _ _ h => h) (Or.inl ⟨by rfl, ?y28⟩) hHeld ?r28
  case y28 => (intro w hSw; (try dsimp only at hSw); go_simp; try with_reducible rfl)
  simp only [Act.put, List.setIfInBounds_toArray, List.set_cons_zero, List.set_cons_succ]
  refine take_put (i := 29) (d := 60) (oi := _) (v := ?v29) rfl rfl (by kernel_rfl) (by kernel_rfl) (by kernel_rfl) (fun _ _ _ h => h) (Or.inl ⟨by rfl, ?y29⟩) hHeld ?r29
  case y29 => (intro w hSw; (try dsimp only at hSw); go_simp; try with_reducible rfl)
  simp only [Act.put, List.setIfInBounds_toArray, List.set_cons_zero, List.set_cons_succ]
  refine take_put (i := 30) (d := 61) (oi := _) (v := ?v30) rfl rfl (by kernel_rfl) (by kernel_rfl) (by kernel_rfl) (fun _ _ _ h => h) (Or.inl ⟨by rfl, ?y30⟩) hHeld ?r30
  case y30 => (intro w hSw; (try dsimp only at hSw); go_simp; try with_reducible rfl)
  simp only [Act.put, List.setIfInBounds_toArray, List.set_cons_zero, List.set_cons_succ]
  refine wpAnyH_ready (rs := [31]) (by kernel_rfl) (by simp) (AllReadyH.cons (o := _) rfl (fun K hK => ?_) AllReadyH.nil)
  go_simp
  refine (hlv _ (Lib.hid hHeld.1)).mono ?_
  rintro e wq ⟨rfl, bk⟩
  (try dsimp only)
  refine hK.out _ _ (hHeld.call bk (Nat.le_refl _)) (fun hHeld => ?_)
  clear hK K
  refine take_put (i := 32) (d := 63) (oi := _) (v := ?v32) rfl rfl (by kernel_rfl) (by kernel_rfl) (by kernel_rfl) (fun _ _ _ h => h) (Or.inl ⟨by rfl, ?y32⟩) hHeld ?r32
  case y32 => (intro w hSw; (try dsimp only at hSw); go_simp; try with_reducible rfl)
  simp only [Act.put, List.setIfInBounds_toArray, List.set_cons_zero, List.set_cons_succ]
  refine take_put (i := 33) (d := 6) (oi := _) (v := ?v33) rfl rfl (by kernel_rfl) (by kernel_rfl) (by kernel_rfl) (fun _ _ _ h => h) (Or.inl ⟨by rfl, ?y33⟩) hHeld ?r33
  case y33 => (intro w hSw; (try dsimp only at hSw); go_simp; try with_reducible rfl)
  simp only [Act.put, List.setIfInBounds_toArray, List.set_cons_zero, List.set_cons_succ]
  refine wpAnyH_done (by kernel_rfl) ?_ _
  have HF := Lib.hid hHeld
  clear hHeld u1_0_0 u1_0_1 u1_1_0 u1_1_1 u1_2_0 u1_2_1
  go_wp2
  go_ret
  exact ⟨rfl, HF.out.1⟩
set_option maxRecDepth 100000 in
set_option maxHeartbeats 16000000 in
theorem texts_some (cn sn c s : Int) (w : World) (hT : Tab w.heap.size w) (c0 : -9223372036854775808 ≤ c) (c1 : c < 9223372036854775808) (hs : 0 ≤ s ∧ s ≤ 30) (x : Int) (y : Nat) (ho : hold c s.toNat = some (x, y)) :
    Calls Tryd.prog 3 #[nv cn sn, .int .i64 c, .int .i64 s] w fun e w' => e = .returned (.bool true) ∧ Below w.heap.size w w' := by
  have hlv : ∀ w', Hid (Below w.heap.size w w') → Calls Tryd.prog 13 #[] w' fun e w'' => e = .returned (.bool true) ∧ Below w'.heap.size w' w'' := fun w' h => lives_any w' (hT.on h.out) h.out.size
  obtain ⟨R, hR⟩ : ∃ R, (if isB cn sn = true then sb (txt cn sn.toNat) else (⟨#[63]⟩ : ByteArray)) = R := ⟨_, rfl⟩
  obtain ⟨q, hq⟩ : ∃ q, isB cn sn = q := ⟨_, rfl⟩
  have his := fun w => is_any cn sn w
  have hri := fun w => refIs_any cn sn w
  have htx : ∀ w', Hid (Below w.heap.size w w') → Calls Tryd.prog 11 #[nv cn sn] w' fun e w'' => e = .returned (.string R) ∧ Below w'.heap.size w' w'' := fun w' h => by
    rw [← hR]
    exact text_any cn sn w' (hT.on h.out) h.out.size
  have hrt := fun w => refText_any cn sn w
  have hmake := fun w => make_any c s w c0 c1
  rw [hq] at his hri
  rw [hR] at hrt
  rw [show mk c s = some (x, y) by unfold mk; rw [if_pos hs]; exact ho] at hmake
  unfold nv at *
  unfold ans nv at hmake
  simp only at hmake
  have hof : ∀ w', Calls Tryd.prog 8 #[.int .i64 c] w' (fun e w'' => ∃ ao n cap, e = .returned (.agg #[.bool (decide (c < 0)), .slice ao n cap]) ∧ Hid (Rw w'' (.slice ao n cap) (dgs c.natAbs)) ∧ Below w'.heap.size w' w'') := fun w' => by
    refine (of_any c w' c0 c1).mono ?_
    rintro e w'' ⟨v', rfl, h1, h2⟩
    obtain ⟨ao, n, cap, rfl⟩ := h1.sl
    exact ⟨ao, n, cap, rfl, Lib.hid h1, h2⟩
  have hnum : ∀ v w', Hid (Rw w' v (dgs c.natAbs)) → Calls Tryd.prog 7 #[.agg #[.bool (decide (c < 0)), v], .int .i64 s] w' fun e w'' => e = .returned (.tuple #[.agg #[.int .i64 x, .int .i64 (y : Int)], .bool true]) ∧ Below w'.heap.size w' w'' := fun v w' h => by
    have hl := dgs_short (n := c.natAbs) (by omega)
    have hn := num_nonneg (decide (c < 0)) v (dgs c.natAbs) s.toNat c w' h.out (Dg_dgs _) (by omega) (by omega) (by rw [dv_dgs, sg_of])
    rw [ho, show ((s.toNat : Nat) : Int) = s by omega] at hn
    exact hn
  clear hT hR hq ho
  have heq := fun w => run_eqN x (y : Int) x (y : Int) w
  simp only [beq_self_eq_true, Bool.and_self] at heq
  obtain ⟨hs0, hs1⟩ := hs
  obtain ⟨g, hg⟩ : ∃ g, decide (c < 0) = g := ⟨_, rfl⟩
  rw [hg] at hof hnum
  clear hg
  go_enter Tryd.func3, Tryd.ntmps3
  go_upto_region 5 with (first | (go_at_call 6; refine (hmake _).mono ?_; rintro e w1 ⟨rfl, b1⟩; obtain ⟨p0, p1, p2, p3⟩ := boxed b1 w.heap.size (.int .i64 cn) (.int .i64 sn) (by simp [go_sem]) (by simp [go_sem]) (by simp [go_sem]) (by simp [go_sem]); have hlt1 := kl p0; simp only at hlt1; have HB1 := Lib.hid (bT (bA1 _ _) b1); clear b1) | (go_at_call 8; refine (hof _).mono ?_; rintro e w2 ⟨ao, n2, ac, rfl, HR2, b2⟩; have HX0 := Lib.hid (Bx.on (Bx.alloc (Bx.alloc (⟨p0, p1, p2, p3⟩ : Bx _ _ _ _) (Obj.cells #[.int .i64 x, .int .i64 (y : Int)] 23)) (Obj.cells #[.int .i64 0, .int .i64 0] 23)) b2); have HX1 := Lib.hid (Bx.on (Bx.alloc (bxNew w1 (.int .i64 x) (.int .i64 (y : Int)) 23) (Obj.cells #[.int .i64 0, .int .i64 0] 23)) b2); have HX2 := Lib.hid (Bx.on (bxNew (w1.alloc (Obj.cells #[.int .i64 x, .int .i64 (y : Int)] 23)) (.int .i64 0) (.int .i64 0) 23) b2); have HB2 := Lib.hid (bT ((HB1.out.alloc HB1.out.size _).alloc (by have := HB1.out.size; simp; omega) _) b2); clear b2) | (go_at_call 7; refine (hnum _ _ HR2).mono ?_; rintro e w3 ⟨rfl, b3⟩; have HY0 := Lib.hid (HX0.out.on b3); have HY1 := Lib.hid (HX1.out.on b3); have HY2 := Lib.hid (HX2.out.on b3); have HB3 := Lib.hid (bT HB2.out b3); clear b3; obtain ⟨r0, r1, r2, r3⟩ : Bx w3 (w1.heap.size + 1) (.int .i64 0) (.int .i64 0) := by simpa using HY2.out))
  have HZ2 : Hid (Bx w3 (w1.heap.size + 1) (.int .i64 0) (.int .i64 0)) := Lib.hid ⟨r0, r1, r2, r3⟩
  have hS1 : Sv w.heap.size w [(w.heap.size, .int .i64 cn, .int .i64 sn), (w1.heap.size, .int .i64 x, .int .i64 (y : Int)), (w1.heap.size + 1, .int .i64 x, .int .i64 (y : Int))] [] ((w3.setCell ⟨w1.heap.size + 1, 0, none⟩ (.int .i64 x)).setCell ⟨w1.heap.size + 1, 1, none⟩ (.int .i64 (y : Int))) := by
    refine ⟨(HB3.out.setCell (by simp; omega) _).setCell (by simp; omega) _, ?_, ?_⟩
    · intro t ht
      simp only [List.mem_cons, List.not_mem_nil, or_false] at ht
      rcases ht with rfl | rfl | rfl
      · exact (HY0.out.far (by simp; omega) _).far (by simp; omega) _
      · exact (HY1.out.far (by simp) _).far (by simp) _
      · exact HZ2.out.put _ _
    · intro t ht
      simp at ht
  obtain ⟨fx1, hfx1⟩ : ∃ fx : List (Nat × Value × Value), [(w.heap.size, .int .i64 cn, .int .i64 sn), (w1.heap.size, .int .i64 x, .int .i64 (y : Int)), (w1.heap.size + 1, .int .i64 x, .int .i64 (y : Int))] = fx := ⟨_, rfl⟩
  obtain ⟨op1, hop1⟩ : ∃ op : List Nat, [] = op := ⟨_, rfl⟩
  rw [hfx1, hop1] at hS1
  have u1_0_0 := Sv.fix0 (B := w.heap.size) (o := w) (fx := fx1) (op := op1) (k := w.heap.size) (x := .int .i64 cn) (y := .int .i64 sn) (by subst hfx1; simp)
  have u1_0_1 := Sv.fix1 (B := w.heap.size) (o := w) (fx := fx1) (op := op1) (k := w.heap.size) (x := .int .i64 cn) (y := .int .i64 sn) (by subst hfx1; simp)
  have u1_1_0 := Sv.fix0 (B := w.heap.size) (o := w) (fx := fx1) (op := op1) (k := w1.heap.size) (x := .int .i64 x) (y := .int .i64 (y : Int)) (by subst hfx1; simp)
  have u1_1_1 := Sv.fix1 (B := w.heap.size) (o := w) (fx := fx1) (op := op1) (k := w1.heap.size) (x := .int .i64 x) (y := .int .i64 (y : Int)) (by subst hfx1; simp)
  have u1_2_0 := Sv.fix0 (B := w.heap.size) (o := w) (fx := fx1) (op := op1) (k := w1.heap.size + 1) (x := .int .i64 x) (y := .int .i64 (y : Int)) (by subst hfx1; simp)
  have u1_2_1 := Sv.fix1 (B := w.heap.size) (o := w) (fx := fx1) (op := op1) (k := w1.heap.size + 1) (x := .int .i64 x) (y := .int .i64 (y : Int)) (by subst hfx1; simp)
  clear hfx1 hop1
  have HS1 := Lib.hid hS1
  clear hS1
  clear p0 p1 p2 p3 hmake r0 r1 r2 r3 hof hnum
  refine wp_region_held_drew (S := Sv w.heap.size w fx1 op1) (by kernel_rfl) HS1.out.drew (fun hHeld => ?_)
  refine take_put (i := 0) (d := 31) (oi := _) (v := ?v0) rfl rfl (by kernel_rfl) (by kernel_rfl) (by kernel_rfl) (fun _ _ _ h => h) (Or.inl ⟨by rfl, ?y0⟩) hHeld ?r0
  case y0 => (intro w hSw; (try dsimp only at hSw); go_simp; try with_reducible rfl)
  simp only [Act.put, List.setIfInBounds_toArray, List.set_cons_zero, List.set_cons_succ]
  refine take_put (i := 2) (d := 33) (oi := _) (v := ?v2) rfl rfl (by kernel_rfl) (by kernel_rfl) (by kernel_rfl) (fun _ _ _ h => h) (Or.inl ⟨by rfl, ?y2⟩) hHeld ?r2
  case y2 => (intro w hSw; (try dsimp only at hSw); go_simp; try with_reducible rfl)
  simp only [Act.put, List.setIfInBounds_toArray, List.set_cons_zero, List.set_cons_succ]
  refine wpAnyH_ready (rs := [1]) (by kernel_rfl) (by simp) (AllReadyH.cons (o := _) rfl (fun K hK => ?_) AllReadyH.nil)
  go_simp
  refine (his _).mono ?_
  rintro e wq ⟨rfl, bk⟩
  (try dsimp only)
  refine hK.out _ _ (hHeld.call bk (Nat.le_refl _)) (fun hHeld => ?_)
  clear hK K
  refine wpAnyH_ready (rs := [3]) (by kernel_rfl) (by simp) (AllReadyH.cons (o := _) rfl (fun K hK => ?_) AllReadyH.nil)
  go_simp
  refine (hri _).mono ?_
  rintro e wq ⟨rfl, bk⟩
  (try dsimp only)
  refine hK.out _ _ (hHeld.call bk (Nat.le_refl _)) (fun hHeld => ?_)
  clear hK K
  refine take_put (i := 4) (d := 35) (oi := _) (v := ?v4) rfl rfl (by kernel_rfl) (by kernel_rfl) (by kernel_rfl) (fun _ _ _ h => h) (Or.inl ⟨by rfl, ?y4⟩) hHeld ?r4
  case y4 => (intro w hSw; (try dsimp only at hSw); go_simp; try with_reducible rfl)
  simp only [Act.put, List.setIfInBounds_toArray, List.set_cons_zero, List.set_cons_succ]
  refine take_put (i := 5) (d := 36) (oi := _) (v := ?v5) rfl rfl (by kernel_rfl) (by kernel_rfl) (by kernel_rfl) (fun _ _ _ h => h) (Or.inl ⟨by rfl, ?y5⟩) hHeld ?r5
  case y5 => (intro w hSw; (try dsimp only at hSw); go_simp; try with_reducible rfl)
  simp only [Act.put, List.setIfInBounds_toArray, List.set_cons_zero, List.set_cons_succ]
  refine take_put (i := 6) (d := 37) (oi := _) (v := ?v6) rfl rfl (by kernel_rfl) (by kernel_rfl) (by kernel_rfl) (fun _ _ _ h => h) (Or.inl ⟨by rfl, ?y6⟩) hHeld ?r6
  case y6 => (intro w hSw; (try dsimp only at hSw); go_simp; try with_reducible rfl)
  simp only [Act.put, List.setIfInBounds_toArray, List.set_cons_zero, List.set_cons_succ]
  refine take_put (i := 8) (d := 39) (oi := _) (v := ?v8) rfl rfl (by kernel_rfl) (by kernel_rfl) (by kernel_rfl) (fun _ _ _ h => h) (Or.inl ⟨by rfl, ?y8⟩) hHeld ?r8
  case y8 => (intro w hSw; (try dsimp only at hSw); go_simp; try with_reducible rfl)
  simp only [Act.put, List.setIfInBounds_toArray, List.set_cons_zero, List.set_cons_succ]
  refine wpAnyH_ready (rs := [7]) (by kernel_rfl) (by simp) (AllReadyH.cons (o := _) rfl (fun K hK => ?_) AllReadyH.nil)
  go_simp
  refine (htx _ (Lib.hid hHeld.1)).mono ?_
  rintro e wq ⟨rfl, bk⟩
  (try dsimp only)
  refine hK.out _ _ (hHeld.call bk (Nat.le_refl _)) (fun hHeld => ?_)
  clear hK K
  refine wpAnyH_ready (rs := [9]) (by kernel_rfl) (by simp) (AllReadyH.cons (o := _) rfl (fun K hK => ?_) AllReadyH.nil)
  go_simp
  refine (hrt _).mono ?_
  rintro e wq ⟨rfl, bk⟩
  (try dsimp only)
  refine hK.out _ _ (hHeld.call bk (Nat.le_refl _)) (fun hHeld => ?_)
  clear hK K
  refine take_put (i := 10) (d := 41) (oi := _) (v := ?v10) rfl rfl (by kernel_rfl) (by kernel_rfl) (by kernel_rfl) (fun _ _ _ h => h) (Or.inl ⟨by rfl, ?y10⟩) hHeld ?r10
  case y10 => (intro w hSw; (try dsimp only at hSw); go_simp; try with_reducible rfl)
  simp only [Act.put, List.setIfInBounds_toArray, List.set_cons_zero, List.set_cons_succ]
  refine take_put (i := 11) (d := 42) (oi := _) (v := ?v11) rfl rfl (by kernel_rfl) (by kernel_rfl) (by kernel_rfl) (fun _ _ _ h => h) (Or.inl ⟨by rfl, ?y11⟩) hHeld ?r11
  case y11 => (intro w hSw; (try dsimp only at hSw); go_simp; try with_reducible rfl)
  simp only [Act.put, List.setIfInBounds_toArray, List.set_cons_zero, List.set_cons_succ]
  refine take_put (i := 12) (d := 43) (oi := _) (v := ?v12) rfl rfl (by kernel_rfl) (by kernel_rfl) (by kernel_rfl) (fun _ _ _ h => h) (Or.inl ⟨by rfl, ?y12⟩) hHeld ?r12
  case y12 => (intro w hSw; (try dsimp only at hSw); go_simp; try with_reducible rfl)
  simp only [Act.put, List.setIfInBounds_toArray, List.set_cons_zero, List.set_cons_succ]
  refine take_put (i := 13) (d := 44) (oi := _) (v := ?v13) rfl rfl (by kernel_rfl) (by kernel_rfl) (by kernel_rfl) (fun _ _ _ h => h) (Or.inl ⟨by rfl, ?y13⟩) hHeld ?r13
  case y13 => (intro w hSw; (try dsimp only at hSw); go_simp; try with_reducible rfl)
  simp only [Act.put, List.setIfInBounds_toArray, List.set_cons_zero, List.set_cons_succ]
  refine take_put (i := 14) (d := 45) (oi := _) (v := ?v14) rfl rfl (by kernel_rfl) (by kernel_rfl) (by kernel_rfl) (fun _ _ _ h => h) (Or.inl ⟨by rfl, ?y14⟩) hHeld ?r14
  case y14 => (intro w hSw; (try dsimp only at hSw); go_simp; try with_reducible rfl)
  simp only [Act.put, List.setIfInBounds_toArray, List.set_cons_zero, List.set_cons_succ]
  refine take_put (i := 15) (d := 46) (oi := _) (v := ?v15) rfl rfl (by kernel_rfl) (by kernel_rfl) (by kernel_rfl) (fun _ _ _ h => h) (Or.inl ⟨by rfl, ?y15⟩) hHeld ?r15
  case y15 => (intro w hSw; (try dsimp only at hSw); go_simp; try with_reducible rfl)
  simp only [Act.put, List.setIfInBounds_toArray, List.set_cons_zero, List.set_cons_succ]
  refine take_put (i := 16) (d := 47) (oi := _) (v := ?v16) rfl rfl (by kernel_rfl) (by kernel_rfl) (by kernel_rfl) (fun _ _ _ h => h) (Or.inl ⟨by rfl, ?y16⟩) hHeld ?r16
  case y16 => (intro w hSw; (try dsimp only at hSw); go_simp; try with_reducible rfl)
  simp only [Act.put, List.setIfInBounds_toArray, List.set_cons_zero, List.set_cons_succ]
  refine take_put (i := 17) (d := 48) (oi := _) (v := ?v17) rfl rfl (by kernel_rfl) (by kernel_rfl) (by kernel_rfl) (fun _ _ _ h => h) (Or.inl ⟨by rfl, ?y17⟩) hHeld ?r17
  case y17 => (intro w hSw; (try dsimp only at hSw); go_simp; try with_reducible rfl)
  simp only [Act.put, List.setIfInBounds_toArray, List.set_cons_zero, List.set_cons_succ]
  refine take_put (i := 18) (d := 49) (oi := _) (v := ?v18) rfl rfl (by kernel_rfl) (by kernel_rfl) (by kernel_rfl) (fun _ _ _ h => h) (Or.inl ⟨by rfl, ?y18⟩) hHeld ?r18
  case y18 => (intro w hSw; (try dsimp only at hSw); go_simp; try with_reducible rfl)
  simp only [Act.put, List.setIfInBounds_toArray, List.set_cons_zero, List.set_cons_succ]
  refine take_put (i := 19) (d := 50) (oi := _) (v := ?v19) rfl rfl (by kernel_rfl) (by kernel_rfl) (by kernel_rfl) (fun _ _ _ h => h) (Or.inl ⟨by rfl, ?y19⟩) hHeld ?r19
  case y19 => (intro w hSw; (try dsimp only at hSw); go_simp; try with_reducible rfl)
  simp only [Act.put, List.setIfInBounds_toArray, List.set_cons_zero, List.set_cons_succ]
  refine take_put (i := 20) (d := 51) (oi := _) (v := ?v20) rfl rfl (by kernel_rfl) (by kernel_rfl) (by kernel_rfl) (fun _ _ _ h => h) (Or.inl ⟨by rfl, ?y20⟩) hHeld ?r20
  case y20 => (intro w hSw; (try dsimp only at hSw); go_simp; try with_reducible rfl)
  simp only [Act.put, List.setIfInBounds_toArray, List.set_cons_zero, List.set_cons_succ]
  refine take_put (i := 21) (d := 52) (oi := _) (v := ?v21) rfl rfl (by kernel_rfl) (by kernel_rfl) (by kernel_rfl) (fun _ _ _ h => h) (Or.inl ⟨by rfl, ?y21⟩) hHeld ?r21
  case y21 => (intro w hSw; (try dsimp only at hSw); go_simp; try with_reducible rfl)
  simp only [Act.put, List.setIfInBounds_toArray, List.set_cons_zero, List.set_cons_succ]
  refine take_put (i := 22) (d := 53) (oi := _) (v := ?v22) rfl rfl (by kernel_rfl) (by kernel_rfl) (by kernel_rfl) (fun _ _ _ h => h) (Or.inl ⟨by rfl, ?y22⟩) hHeld ?r22
  case y22 => (intro w hSw; (try dsimp only at hSw); go_simp; try with_reducible rfl)
  simp only [Act.put, List.setIfInBounds_toArray, List.set_cons_zero, List.set_cons_succ]
  refine take_put (i := 23) (d := 54) (oi := _) (v := ?v23) rfl rfl (by kernel_rfl) (by kernel_rfl) (by kernel_rfl) (fun _ _ _ h => h) (Or.inl ⟨by rfl, ?y23⟩) hHeld ?r23
  case y23 => (intro w hSw; (try dsimp only at hSw); go_simp; try with_reducible rfl)
  simp only [Act.put, List.setIfInBounds_toArray, List.set_cons_zero, List.set_cons_succ]
  refine take_put (i := 24) (d := 55) (oi := _) (v := ?v24) rfl rfl (by kernel_rfl) (by kernel_rfl) (by kernel_rfl) (fun _ _ _ h => h) (Or.inl ⟨by rfl, ?y24⟩) hHeld ?r24
  case y24 => (intro w hSw; (try dsimp only at hSw); go_simp; try with_reducible rfl)
  simp only [Act.put, List.setIfInBounds_toArray, List.set_cons_zero, List.set_cons_succ]
  refine take_put (i := 25) (d := 56) (oi := _) (v := ?v25) rfl rfl (by kernel_rfl) (by kernel_rfl) (by kernel_rfl) (fun _ _ _ h => h) (Or.inl ⟨by rfl, ?y25⟩) hHeld ?r25
  case y25 => (intro w hSw; (try dsimp only at hSw); go_simp; try with_reducible rfl)
  simp only [Act.put, List.setIfInBounds_toArray, List.set_cons_zero, List.set_cons_succ]
  refine take_put (i := 26) (d := 57) (oi := _) (v := undef) rfl rfl (by kernel_rfl) (by kernel_rfl) (by kernel_rfl) (fun _ _ _ h => h) (Or.inr ⟨by rfl, rfl⟩) hHeld ?r26
  simp only [Act.put, List.setIfInBounds_toArray, List.set_cons_zero, List.set_cons_succ]
  refine take_put (i := 27) (d := 58) (oi := _) (v := undef) rfl rfl (by kernel_rfl) (by kernel_rfl) (by kernel_rfl) (fun _ _ _ h => h) (Or.inr ⟨by rfl, rfl⟩) hHeld ?r27
  simp only [Act.put, List.setIfInBounds_toArray, List.set_cons_zero, List.set_cons_succ]
  refine take_put (i := 28) (d := 59) (oi := _) (v := ?v28) rfl rfl (by kernel_rfl) (by kernel_rfl) (by kernel_rfl) (fun _ _ _ h => h) (Or.inl ⟨by rfl, ?y28⟩) hHeld ?r28
  case y28 => (intro w hSw; (try dsimp only at hSw); go_simp; try with_reducible rfl)
  simp only [Act.put, List.setIfInBounds_toArray, List.set_cons_zero, List.set_cons_succ]
  refine take_put (i := 29) (d := 60) (oi := _) (v := ?v29) rfl rfl (by kernel_rfl) (by kernel_rfl) (by kernel_rfl) (fun _ _ _ h => h) (Or.inl ⟨by rfl, ?y29⟩) hHeld ?r29
  case y29 => (intro w hSw; (try dsimp only at hSw); go_simp; try with_reducible rfl)
  simp only [Act.put, List.setIfInBounds_toArray, List.set_cons_zero, List.set_cons_succ]
  refine take_put (i := 30) (d := 61) (oi := _) (v := ?v30) rfl rfl (by kernel_rfl) (by kernel_rfl) (by kernel_rfl) (fun _ _ _ h => h) (Or.inl ⟨by rfl, ?y30⟩) hHeld ?r30
  case y30 => (intro w hSw; (try dsimp only at hSw); go_simp; try with_reducible rfl)
  simp only [Act.put, List.setIfInBounds_toArray, List.set_cons_zero, List.set_cons_succ]
  refine wpAnyH_ready (rs := [31]) (by kernel_rfl) (by simp) (AllReadyH.cons (o := _) rfl (fun K hK => ?_) AllReadyH.nil)
  go_simp
  refine (hlv _ (Lib.hid hHeld.1)).mono ?_
  rintro e wq ⟨rfl, bk⟩
  (try dsimp only)
  refine hK.out _ _ (hHeld.call bk (Nat.le_refl _)) (fun hHeld => ?_)
  clear hK K
  refine take_put (i := 32) (d := 63) (oi := _) (v := ?v32) rfl rfl (by kernel_rfl) (by kernel_rfl) (by kernel_rfl) (fun _ _ _ h => h) (Or.inl ⟨by rfl, ?y32⟩) hHeld ?r32
  case y32 => (intro w hSw; (try dsimp only at hSw); go_simp; try with_reducible rfl)
  simp only [Act.put, List.setIfInBounds_toArray, List.set_cons_zero, List.set_cons_succ]
  refine take_put (i := 33) (d := 6) (oi := _) (v := ?v33) rfl rfl (by kernel_rfl) (by kernel_rfl) (by kernel_rfl) (fun _ _ _ h => h) (Or.inl ⟨by rfl, ?y33⟩) hHeld ?r33
  case y33 => (intro w hSw; (try dsimp only at hSw); go_simp; try with_reducible rfl)
  simp only [Act.put, List.setIfInBounds_toArray, List.set_cons_zero, List.set_cons_succ]
  refine wpAnyH_done (by kernel_rfl) ?_ _
  have HF := Lib.hid hHeld
  clear hHeld u1_0_0 u1_0_1 u1_1_0 u1_1_1 u1_2_0 u1_2_1
  go_wp2
  go_ret
  exact ⟨rfl, HF.out.1⟩
theorem numTexts_any (cn sn c s : Int) (w : World) (hT : Tab w.heap.size w) (c0 : -9223372036854775808 ≤ c) (c1 : c < 9223372036854775808) :
    Calls Tryd.prog 3 #[nv cn sn, .int .i64 c, .int .i64 s] w fun e w' => e = .returned (.bool true) ∧ Below w.heap.size w w' := by
  by_cases h1 : s < 0
  · exact texts_low cn sn c s w hT c0 c1 h1
  by_cases h2 : 30 < s
  · exact texts_high cn sn c s w hT c0 c1 h2
  rcases h : hold c s.toNat with _ | ⟨x, y⟩
  · exact texts_none cn sn c s w hT c0 c1 (by omega) h
  · exact texts_some cn sn c s w hT c0 c1 (by omega) x y h
end Nm
end Go.Proofs.YtkbmaimocoljeaaDoor
