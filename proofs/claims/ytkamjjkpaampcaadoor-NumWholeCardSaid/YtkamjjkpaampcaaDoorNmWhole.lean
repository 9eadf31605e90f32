/- NumWhole answers true for every two numbers. -/
import Derived.Test.YtkamjjkpaampcaaDoorNmOpen
import Derived.Test.YtkamjjkpaampcaaDoorNmOrders
import Derived.Test.YtkamjjkpaampcaaDoorNmMod
namespace Go.Proofs.YtkamjjkpaampcaaDoor
open Go.RowKit
namespace Nm
theorem take_put {P : Program} {md : Region.Mode} {ops : Array Oper} {Q : Exit → Act → World → Prop} {S : World → Prop} {i d : Nat} {oi : Oper} {v : Value} {fuel : Nat} {listed : Array Bool} {a : Act} {w : World} (hi : ops[i]? = some oi) (hd : oi.dst = some d)
    (hs : Region.noSelect ops = true) (hf : Region.free md ops listed i = true) (hr : (Region.ready md ops listed).contains i = true)
    (hQ : ∀ c a w, Q (.panic c) (a.put (some d) v) w → Q (.panic c) a w) (hy : YieldsIf P ops S oi v a) (hS : S w)
    (h : wpAnyH P md ops Q S fuel (listed.setIfInBounds i true) (a.put (some d) v) w) : wpAnyH P md ops Q S (fuel + 1) listed a w :=
  wpAnyH_take hi hs hf hr (by rw [hd]; exact hQ) hy hS (by rw [hd]; exact h)
theorem hold0 (x : Int) (h0 : -1000000000000000 < x) (h1 : x < 1000000000000000) : hold x 0 = some (x, 0) := by
  unfold hold strip
  simp only
  rw [if_neg (by omega)]
  congr 2
  split <;> omega
theorem up00 (x : Int) : up x 0 (mx 0 0) = x := by unfold up mx; simp
theorem mx00 : mx 0 0 = 0 := by unfold mx; simp
theorem is0 (x : Int) (h0 : -1000000000000000 < x) (h1 : x < 1000000000000000) : isB x 0 = true := isB_iff.2 ⟨by omega, by omega, Or.inl rfl⟩
theorem strip_mul : ∀ (s c : Nat), strip s (c * 10 ^ s) = (c, 0)
  | 0, c => by simp [strip]
  | s + 1, c => by
    unfold strip
    rw [if_pos (by rw [Nat.pow_succ, ← Nat.mul_assoc]; exact Nat.mul_mod_left _ _), Nat.pow_succ, ← Nat.mul_assoc, Nat.mul_div_cancel _ (by decide)]
    exact strip_mul s c
theorem hold9 (z : Int) (h0 : -1000000000000000 < z) (h1 : z < 1000000000000000) : hold (z * 1000000000) 9 = some (z, 0) := by
  have e : (z * 1000000000).natAbs = z.natAbs * 10 ^ 9 := by rw [Int.natAbs_mul]; rfl
  unfold hold
  rw [e, strip_mul]
  simp only
  rw [if_neg (by omega)]
  congr 2
  split <;> omega
set_option maxRecDepth 100000 in
set_option maxHeartbeats 16000000 in
theorem numWhole_any (x y : Int) (w : World) (hT : Tab w.heap.size w) (x0 : -9223372036854775808 ≤ x) (x1 : x < 9223372036854775808) (y0 : -9223372036854775808 ≤ y) (y1 : y < 9223372036854775808) :
    Calls Tryd.prog 8 #[.int .i64 x, .int .i64 y] w fun e w' => e = .returned (.bool true) ∧ Below w.heap.size w w' := by
  have hlv : ∀ w', Hid (Below w.heap.size w w') → Calls Tryd.prog 16 #[] w' fun e w'' => e = .returned (.bool true) ∧ Below w'.heap.size w' w'' := fun w' h => lives_any w' (hT.on h.out) h.out.size
  clear hT
  by_cases g : x ≤ -10000000
  · go_enter Tryd.func8, Tryd.ntmps8
    go_wp2_with (go_at_call 16; refine (hlv _ (Lib.hid Below.refl _ _)).mono ?_; rintro e wl ⟨rfl, bl⟩; have bell := bl)
    go_ret
    exact ⟨rfl, bell⟩
  replace g : ¬ (x ≤ -10000000) := g
  have gx0 := g
  clear g
  by_cases g : 10000000 ≤ x
  · go_enter Tryd.func8, Tryd.ntmps8
    go_wp2_with (go_at_call 16; refine (hlv _ (Lib.hid Below.refl _ _)).mono ?_; rintro e wl ⟨rfl, bl⟩; have bell := bl)
    go_ret
    exact ⟨rfl, bell⟩
  replace g : ¬ (10000000 ≤ x) := g
  have gx1 := g
  clear g
  by_cases g : y ≤ -10000000
  · go_enter Tryd.func8, Tryd.ntmps8
    go_wp2_with (go_at_call 16; refine (hlv _ (Lib.hid Below.refl _ _)).mono ?_; rintro e wl ⟨rfl, bl⟩; have bell := bl)
    go_ret
    exact ⟨rfl, bell⟩
  replace g : ¬ (y ≤ -10000000) := g
  have gy0 := g
  clear g
  by_cases g : 10000000 ≤ y
  · go_enter Tryd.func8, Tryd.ntmps8
    go_wp2_with (go_at_call 16; refine (hlv _ (Lib.hid Below.refl _ _)).mono ?_; rintro e wl ⟨rfl, bl⟩; have bell := bl)
    go_ret
    exact ⟨rfl, bell⟩
  replace g : ¬ (10000000 ≤ y) := g
  have gy1 := g
  clear g
  have ix := is0 x (by omega) (by omega)
  have iy := is0 y (by omega) (by omega)
  obtain ⟨z, hz⟩ : ∃ z, x * y = z := ⟨_, rfl⟩
  have hzb : -1000000000000000 < z ∧ z < 1000000000000000 := by
    have h1 := mul_le_of (x.natAbs : Int) 10000000 (y.natAbs : Int) (by omega) (by omega)
    have h3 : ((x * y).natAbs : Int) = (x.natAbs : Int) * (y.natAbs : Int) := by rw [Int.natAbs_mul]; rfl
    rw [hz] at h3
    omega
  obtain ⟨hz0, hz1⟩ := hzb
  have hadd : ∀ w, Calls Tryd.prog 26 #[.agg #[.int .i64 x, .int .i64 0], .agg #[.int .i64 y, .int .i64 0]] w fun e w' => e = .returned (.tuple #[.agg #[.int .i64 (x + y), .int .i64 0], .int .i64 0]) ∧ Below w.heap.size w w' := fun w => by
    have h := add_any x 0 y 0 w
    rw [if_pos ⟨ix, iy⟩, up00, up00, mx00, hold0 _ (by omega) (by omega)] at h
    exact h
  have hsub : ∀ w, Calls Tryd.prog 29 #[.agg #[.int .i64 x, .int .i64 0], .agg #[.int .i64 y, .int .i64 0]] w fun e w' => e = .returned (.tuple #[.agg #[.int .i64 (x - y), .int .i64 0], .int .i64 0]) ∧ Below w.heap.size w w' := fun w => by
    have h := sub_any x 0 y 0 w
    rw [if_pos ⟨ix, iy⟩, up00, up00, mx00, hold0 _ (by omega) (by omega)] at h
    exact h
  have hmul : ∀ w, Calls Tryd.prog 27 #[.agg #[.int .i64 x, .int .i64 0], .agg #[.int .i64 y, .int .i64 0]] w fun e w' => e = .returned (.tuple #[.agg #[.int .i64 z, .int .i64 0], .int .i64 0]) ∧ Below w.heap.size w w' := fun w => by
    have h := mul_any x 0 y 0 w
    rw [if_pos ⟨ix, iy⟩, hz, show ((0 : Int) + 0).toNat = 0 from rfl, hold0 _ hz0 hz1] at h
    exact h
  have hint : ∀ w, Calls Tryd.prog 30 #[.int .i64 x] w fun e w' => e = .returned (.tuple #[.agg #[.int .i64 x, .int .i64 0], .int .i64 0]) ∧ Below w.heap.size w w' := fun w => by
    have h := int_any x w (by omega) (by omega)
    rw [show mk x 0 = some (x, 0) by unfold mk; rw [if_pos (by omega)]; exact hold0 _ (by omega) (by omega)] at h
    exact h
  have heqx := fun w => run_eqN x 0 x 0 w
  simp only [beq_self_eq_true, Bool.and_self] at heqx
  by_cases hy : y = 0
  · subst hy
    have hz00 : z = 0 := by rw [← hz, Int.mul_zero]
    subst hz00
    clear hz
    go_enter Tryd.func8, Tryd.ntmps8
    go_wp2_with (first | (go_at_call 26; refine (hadd _).mono ?_; rintro e w1 ⟨rfl, k1⟩; obtain ⟨a10, a11, a12, a13⟩ := boxed k1 w.heap.size (.int .i64 x) (.int .i64 0) (by simp [go_sem]) (by simp [go_sem]) (by simp [go_sem]) (by simp [go_sem]); obtain ⟨b10, b11, b12, b13⟩ := boxed k1 (w.heap.size + 1) (.int .i64 0) (.int .i64 0) (by simp [go_sem]) (by simp [go_sem]) (by simp [go_sem]) (by simp [go_sem]); have bel1 := bT (bA2 _ _ _) k1; obtain ⟨a1n0, a1n1, a1n2, a1n3⟩ := Bx.alloc (⟨a10, a11, a12, a13⟩ : Bx _ _ _ _) (Obj.cells #[Value.int .i64 (x), Value.int .i64 (0)] 23); obtain ⟨b1n0, b1n1, b1n2, b1n3⟩ := Bx.alloc (⟨b10, b11, b12, b13⟩ : Bx _ _ _ _) (Obj.cells #[Value.int .i64 (x), Value.int .i64 (0)] 23)) | (go_at_call 29; refine (hsub _).mono ?_; rintro e w2 ⟨rfl, k2⟩; obtain ⟨a20, a21, a22, a23⟩ := Bx.on (⟨a1n0, a1n1, a1n2, a1n3⟩ : Bx _ _ _ _) k2; obtain ⟨b20, b21, b22, b23⟩ := Bx.on (⟨b1n0, b1n1, b1n2, b1n3⟩ : Bx _ _ _ _) k2; obtain ⟨s20, s21, s22, s23⟩ := Bx.on (bxNew w1 (.int .i64 (x)) (.int .i64 0) _) k2; have bel2 := bT (bel1.alloc bel1.size _) k2; obtain ⟨a2n0, a2n1, a2n2, a2n3⟩ := Bx.alloc (⟨a20, a21, a22, a23⟩ : Bx _ _ _ _) (Obj.cells #[Value.int .i64 (x), Value.int .i64 (0)] 23); obtain ⟨b2n0, b2n1, b2n2, b2n3⟩ := Bx.alloc (⟨b20, b21, b22, b23⟩ : Bx _ _ _ _) (Obj.cells #[Value.int .i64 (x), Value.int .i64 (0)] 23); obtain ⟨s2n0, s2n1, s2n2, s2n3⟩ := Bx.alloc (⟨s20, s21, s22, s23⟩ : Bx _ _ _ _) (Obj.cells #[Value.int .i64 (x), Value.int .i64 (0)] 23)) | (go_at_call 27; refine (hmul _).mono ?_; rintro e w3 ⟨rfl, k3⟩; obtain ⟨a30, a31, a32, a33⟩ := Bx.on (⟨a2n0, a2n1, a2n2, a2n3⟩ : Bx _ _ _ _) k3; obtain ⟨b30, b31, b32, b33⟩ := Bx.on (⟨b2n0, b2n1, b2n2, b2n3⟩ : Bx _ _ _ _) k3; obtain ⟨s30, s31, s32, s33⟩ := Bx.on (⟨s2n0, s2n1, s2n2, s2n3⟩ : Bx _ _ _ _) k3; obtain ⟨d30, d31, d32, d33⟩ := Bx.on (bxNew w2 (.int .i64 (x)) (.int .i64 0) _) k3; have bel3 := bT (bel2.alloc bel2.size _) k3; obtain ⟨a40, a41, a42, a43⟩ := Bx.alloc (⟨a30, a31, a32, a33⟩ : Bx _ _ _ _) (Obj.cells #[Value.int .i64 (0), Value.int .i64 (0)] 23); obtain ⟨b40, b41, b42, b43⟩ := Bx.alloc (⟨b30, b31, b32, b33⟩ : Bx _ _ _ _) (Obj.cells #[Value.int .i64 (0), Value.int .i64 (0)] 23); obtain ⟨s40, s41, s42, s43⟩ := Bx.alloc (⟨s30, s31, s32, s33⟩ : Bx _ _ _ _) (Obj.cells #[Value.int .i64 (0), Value.int .i64 (0)] 23); obtain ⟨d40, d41, d42, d43⟩ := Bx.alloc (⟨d30, d31, d32, d33⟩ : Bx _ _ _ _) (Obj.cells #[Value.int .i64 (0), Value.int .i64 (0)] 23)) | (go_at_call 30; refine (hint _).mono ?_; rintro e w4 ⟨rfl, k4⟩; obtain ⟨a50, a51, a52, a53⟩ := Bx.on (⟨a40, a41, a42, a43⟩ : Bx _ _ _ _) k4; obtain ⟨b50, b51, b52, b53⟩ := Bx.on (⟨b40, b41, b42, b43⟩ : Bx _ _ _ _) k4; have bel4 := bT (bel3.alloc bel3.size _) k4; obtain ⟨a60, a61, a62, a63⟩ := Bx.alloc (⟨a50, a51, a52, a53⟩ : Bx _ _ _ _) (Obj.cells #[Value.int .i64 (x), Value.int .i64 (0)] 23); obtain ⟨b60, b61, b62, b63⟩ := Bx.alloc (⟨b50, b51, b52, b53⟩ : Bx _ _ _ _) (Obj.cells #[Value.int .i64 (x), Value.int .i64 (0)] 23)) | (go_at_call 16; refine (hlv _ (Lib.hid bel4.alloc bel4.size _)).mono ?_; rintro e wl ⟨rfl, bl⟩; have bell := bT (bel4.alloc bel4.size _) bl))
    go_ret
    exact ⟨rfl, bell⟩
  have hy0 : (y == 0) = false := by simp; exact hy
  obtain ⟨u, hu⟩ : ∃ u, x.tmod y = u := ⟨_, rfl⟩
  have hub : -10000000 < u ∧ u < 10000000 := by
    have e := Int.natAbs_tmod x y
    rw [hu] at e
    have := Nat.mod_le x.natAbs y.natAbs
    omega
  obtain ⟨u0, u1⟩ := hub
  have hmod : ∀ w, Calls Tryd.prog 21 #[.agg #[.int .i64 x, .int .i64 0], .agg #[.int .i64 y, .int .i64 0]] w fun e w' => e = .returned (.tuple #[.agg #[.int .i64 u, .int .i64 0], .int .i64 0]) ∧ Below w.heap.size w w' := fun w => by
    have h := mod_any x 0 y 0 w
    rw [if_pos ⟨ix, iy⟩, show modO x 0 y 0 = some (u, 0) by unfold modO; rw [if_pos ⟨rfl, rfl, hy⟩, hu]] at h
    exact h
  have hdiv0 := fun w => div_any x 0 y 0 w
  rw [if_pos ⟨ix, iy⟩] at hdiv0
  unfold nv at hdiv0
  have hwu : IntKind.i64.wrap u = u := wrapS u (by omega) (by omega)
  by_cases hu0 : u = 0
  · have hxy : x.tdiv y * y = x := by have := Int.tdiv_mul_add_tmod x y; rw [hu, hu0] at this; omega
    obtain ⟨v, hv⟩ : ∃ v, x.tdiv y = v := ⟨_, rfl⟩
    rw [hv] at hxy
    have hvb : (v.natAbs : Int) ≤ (x.natAbs : Int) := by
      have h := Int.natAbs_tdiv x y
      rw [hv] at h
      have h7 : x.natAbs.div y.natAbs ≤ x.natAbs := Nat.div_le_self x.natAbs y.natAbs
      omega
    have hwv : IntKind.i64.wrap v = v := wrapS v (by omega) (by omega)
    have hdO : divO x 0 y 0 = some (v, 0) := by
      unfold divO
      rw [if_neg hy, show ((10 ^ ((9 : Int) + 0 - 0).toNat : Nat) : Int) = 1000000000 from rfl, ← hxy, Int.mul_right_comm, if_pos (Int.mul_emod_left _ _), Int.mul_ediv_cancel _ hy]
      exact hold9 v (by omega) (by omega)
    have hdiv : ∀ w, Calls Tryd.prog 19 #[.agg #[.int .i64 x, .int .i64 0], .agg #[.int .i64 y, .int .i64 0]] w fun e w' => e = .returned (.tuple #[.agg #[.int .i64 v, .int .i64 0], .int .i64 0]) ∧ Below w.heap.size w w' := fun w => by
      have h := hdiv0 w
      rw [hdO] at h
      exact h
    have heqv := fun w => run_eqN v 0 v 0 w
    simp only [beq_self_eq_true, Bool.and_self] at heqv
    subst hu0
    clear hdiv0 hdO hxy
    go_enter Tryd.func8, Tryd.ntmps8
    go_upto_region 14 with (first | (go_at_call 26; refine (hadd _).mono ?_; rintro e w1 ⟨rfl, k1⟩; obtain ⟨a10, a11, a12, a13⟩ := boxed k1 w.heap.size (.int .i64 x) (.int .i64 0) (by simp [go_sem]) (by simp [go_sem]) (by simp [go_sem]) (by simp [go_sem]); obtain ⟨b10, b11, b12, b13⟩ := boxed k1 (w.heap.size + 1) (.int .i64 y) (.int .i64 0) (by simp [go_sem]) (by simp [go_sem]) (by simp [go_sem]) (by simp [go_sem]); have bel1 := bT (bA2 _ _ _) k1; obtain ⟨a1n0, a1n1, a1n2, a1n3⟩ := Bx.alloc (⟨a10, a11, a12, a13⟩ : Bx _ _ _ _) (Obj.cells #[Value.int .i64 (x + y), Value.int .i64 (0)] 23); obtain ⟨b1n0, b1n1, b1n2, b1n3⟩ := Bx.alloc (⟨b10, b11, b12, b13⟩ : Bx _ _ _ _) (Obj.cells #[Value.int .i64 (x + y), Value.int .i64 (0)] 23)) | (go_at_call 29; refine (hsub _).mono ?_; rintro e w2 ⟨rfl, k2⟩; obtain ⟨a20, a21, a22, a23⟩ := Bx.on (⟨a1n0, a1n1, a1n2, a1n3⟩ : Bx _ _ _ _) k2; obtain ⟨b20, b21, b22, b23⟩ := Bx.on (⟨b1n0, b1n1, b1n2, b1n3⟩ : Bx _ _ _ _) k2; obtain ⟨s20, s21, s22, s23⟩ := Bx.on (bxNew w1 (.int .i64 (x + y)) (.int .i64 0) _) k2; have bel2 := bT (bel1.alloc bel1.size _) k2; obtain ⟨a2n0, a2n1, a2n2, a2n3⟩ := Bx.alloc (⟨a20, a21, a22, a23⟩ : Bx _ _ _ _) (Obj.cells #[Value.int .i64 (x - y), Value.int .i64 (0)] 23); obtain ⟨b2n0, b2n1, b2n2, b2n3⟩ := Bx.alloc (⟨b20, b21, b22, b23⟩ : Bx _ _ _ _) (Obj.cells #[Value.int .i64 (x - y), Value.int .i64 (0)] 23); obtain ⟨s2n0, s2n1, s2n2, s2n3⟩ := Bx.alloc (⟨s20, s21, s22, s23⟩ : Bx _ _ _ _) (Obj.cells #[Value.int .i64 (x - y), Value.int .i64 (0)] 23)) | (go_at_call 27; refine (hmul _).mono ?_; rintro e w3 ⟨rfl, k3⟩; obtain ⟨a30, a31, a32, a33⟩ := Bx.on (⟨a2n0, a2n1, a2n2, a2n3⟩ : Bx _ _ _ _) k3; obtain ⟨b30, b31, b32, b33⟩ := Bx.on (⟨b2n0, b2n1, b2n2, b2n3⟩ : Bx _ _ _ _) k3; obtain ⟨s30, s31, s32, s33⟩ := Bx.on (⟨s2n0, s2n1, s2n2, s2n3⟩ : Bx _ _ _ _) k3; obtain ⟨d30, d31, d32, d33⟩ := Bx.on (bxNew w2 (.int .i64 (x - y)) (.int .i64 0) _) k3; have bel3 := bT (bel2.alloc bel2.size _) k3; obtain ⟨a40, a41, a42, a43⟩ := Bx.alloc (⟨a30, a31, a32, a33⟩ : Bx _ _ _ _) (Obj.cells #[Value.int .i64 (z), Value.int .i64 (0)] 23); obtain ⟨b40, b41, b42, b43⟩ := Bx.alloc (⟨b30, b31, b32, b33⟩ : Bx _ _ _ _) (Obj.cells #[Value.int .i64 (z), Value.int .i64 (0)] 23); obtain ⟨s40, s41, s42, s43⟩ := Bx.alloc (⟨s30, s31, s32, s33⟩ : Bx _ _ _ _) (Obj.cells #[Value.int .i64 (z), Value.int .i64 (0)] 23); obtain ⟨d40, d41, d42, d43⟩ := Bx.alloc (⟨d30, d31, d32, d33⟩ : Bx _ _ _ _) (Obj.cells #[Value.int .i64 (z), Value.int .i64 (0)] 23)) | (go_at_call 30; refine (hint _).mono ?_; rintro e w4 ⟨rfl, k4⟩; obtain ⟨a50, a51, a52, a53⟩ := Bx.on (⟨a40, a41, a42, a43⟩ : Bx _ _ _ _) k4; obtain ⟨b50, b51, b52, b53⟩ := Bx.on (⟨b40, b41, b42, b43⟩ : Bx _ _ _ _) k4; have bel4 := bT (bel3.alloc bel3.size _) k4; obtain ⟨a60, a61, a62, a63⟩ := Bx.alloc (⟨a50, a51, a52, a53⟩ : Bx _ _ _ _) (Obj.cells #[Value.int .i64 (x), Value.int .i64 (0)] 23); obtain ⟨b60, b61, b62, b63⟩ := Bx.alloc (⟨b50, b51, b52, b53⟩ : Bx _ _ _ _) (Obj.cells #[Value.int .i64 (x), Value.int .i64 (0)] 23)) | (go_at_call 21; refine (hmod _).mono ?_; rintro e w5 ⟨rfl, k5⟩; obtain ⟨a70, a71, a72, a73⟩ := Bx.on (⟨a60, a61, a62, a63⟩ : Bx _ _ _ _) k5; obtain ⟨b70, b71, b72, b73⟩ := Bx.on (⟨b60, b61, b62, b63⟩ : Bx _ _ _ _) k5; have bel5 := bT (bel4.alloc bel4.size _) k5; obtain ⟨a80, a81, a82, a83⟩ := Bx.alloc (⟨a70, a71, a72, a73⟩ : Bx _ _ _ _) (Obj.cells #[Value.int .i64 (0), Value.int .i64 (0)] 23); obtain ⟨b80, b81, b82, b83⟩ := Bx.alloc (⟨b70, b71, b72, b73⟩ : Bx _ _ _ _) (Obj.cells #[Value.int .i64 (0), Value.int .i64 (0)] 23)) | (go_at_call 19; refine (hdiv _).mono ?_; rintro e w6 ⟨rfl, k6⟩; obtain ⟨m60, m61, m62, m63⟩ := Bx.on (bxNew w5 (.int .i64 0) (.int .i64 0) _) k6; have bel6 := bT (bel5.alloc bel5.size _) k6))
    have hS1 := ((Sv.nil (B := w.heap.size) (o := w) (a := (w6.alloc (Obj.cells #[Value.int .i64 (v), Value.int .i64 (0)] 23))) (bel6.alloc bel6.size _)).addf (k := w6.heap.size) (x := .int .i64 v) (y := .int .i64 0) (bxNew w6 _ _ _)).addf (k := w5.heap.size) (x := .int .i64 0) (y := .int .i64 0) (Bx.alloc (⟨m60, m61, m62, m63⟩ : Bx _ _ _ _) _)
    obtain ⟨fx1, hfx1⟩ : ∃ fx : List (Nat × Value × Value), [(w5.heap.size, .int .i64 0, .int .i64 0), (w6.heap.size, .int .i64 v, .int .i64 0)] = fx := ⟨_, rfl⟩
    obtain ⟨op1, hop1⟩ : ∃ op : List Nat, [] = op := ⟨_, rfl⟩
    rw [hfx1, hop1] at hS1
    have u1_0_0 := Sv.fix0 (B := w.heap.size) (o := w) (fx := fx1) (op := op1) (k := w5.heap.size) (x := .int .i64 0) (y := .int .i64 0) (by subst hfx1; simp)
    have u1_0_1 := Sv.fix1 (B := w.heap.size) (o := w) (fx := fx1) (op := op1) (k := w5.heap.size) (x := .int .i64 0) (y := .int .i64 0) (by subst hfx1; simp)
    have u1_1_0 := Sv.fix0 (B := w.heap.size) (o := w) (fx := fx1) (op := op1) (k := w6.heap.size) (x := .int .i64 v) (y := .int .i64 0) (by subst hfx1; simp)
    have u1_1_1 := Sv.fix1 (B := w.heap.size) (o := w) (fx := fx1) (op := op1) (k := w6.heap.size) (x := .int .i64 v) (y := .int .i64 0) (by subst hfx1; simp)
    have mf1_0 : (w5.heap.size, .int .i64 0, .int .i64 0) ∈ fx1 := by subst hfx1; simp
    have mf1_1 : (w6.heap.size, .int .i64 v, .int .i64 0) ∈ fx1 := by subst hfx1; simp
    clear hfx1 hop1
    have HS1 := Lib.hid hS1
    clear hS1
    clear a10 a11 a12 a13 b10 b11 b12 b13 a1n0 a1n1 a1n2 a1n3 b1n0 b1n1 b1n2 b1n3 a20 a21 a22 a23 b20 b21 b22 b23 s20 s21 s22 s23 a2n0 a2n1 a2n2 a2n3 b2n0 b2n1 b2n2 b2n3 s2n0 s2n1 s2n2 s2n3 a30 a31 a32 a33 b30 b31 b32 b33 s30 s31 s32 s33 d30 d31 d32 d33 a40 a41 a42 a43 b40 b41 b42 b43 s40 s41 s42 s43 d40 d41 d42 d43 a50 a51 a52 a53 b50 b51 b52 b53 a60 a61 a62 a63 b60 b61 b62 b63 a70 a71 a72 a73 b70 b71 b72 b73 a80 a81 a82 a83 b80 b81 b82 b83 m60 m61 m62 m63 hadd hsub hmul hint hmod hdiv
    go_region_held3 (Sv w.heap.size w fx1 op1) (first | assumption | exact HS1.out.drew | exact Sv.call (by assumption) (by assumption) (Nat.le_refl _))
      ((go_at_call 16; refine (hlv _ (Lib.hid (And.left (by assumption : Sv w.heap.size w fx1 op1 _)))).mono ?_; rintro e wl ⟨rfl, bl⟩))
    rename_i HF
    have HF3 := Lib.hid HF
    clear HF
    clear u1_0_0 u1_0_1 u1_1_0 u1_1_1
    go_wp2
    go_ret
    exact ⟨rfl, HF3.out.1⟩
  have hun : (u != 0) = true := by simp; exact hu0
  obtain ⟨c, s, e, hO⟩ := ans_ex (divO x 0 y 0)
  rw [hO] at hdiv0
  have hdiv := hdiv0
  clear hdiv0 hO
  go_enter Tryd.func8, Tryd.ntmps8
  go_upto_region 14 with (first | (go_at_call 26; refine (hadd _).mono ?_; rintro e0 w1 ⟨rfl, k1⟩; obtain ⟨a10, a11, a12, a13⟩ := boxed k1 w.heap.size (.int .i64 x) (.int .i64 0) (by simp [go_sem]) (by simp [go_sem]) (by simp [go_sem]) (by simp [go_sem]); obtain ⟨b10, b11, b12, b13⟩ := boxed k1 (w.heap.size + 1) (.int .i64 y) (.int .i64 0) (by simp [go_sem]) (by simp [go_sem]) (by simp [go_sem]) (by simp [go_sem]); have bel1 := bT (bA2 _ _ _) k1; obtain ⟨a1n0, a1n1, a1n2, a1n3⟩ := Bx.alloc (⟨a10, a11, a12, a13⟩ : Bx _ _ _ _) (Obj.cells #[Value.int .i64 (x + y), Value.int .i64 (0)] 23); obtain ⟨b1n0, b1n1, b1n2, b1n3⟩ := Bx.alloc (⟨b10, b11, b12, b13⟩ : Bx _ _ _ _) (Obj.cells #[Value.int .i64 (x + y), Value.int .i64 (0)] 23)) | (go_at_call 29; refine (hsub _).mono ?_; rintro e0 w2 ⟨rfl, k2⟩; obtain ⟨a20, a21, a22, a23⟩ := Bx.on (⟨a1n0, a1n1, a1n2, a1n3⟩ : Bx _ _ _ _) k2; obtain ⟨b20, b21, b22, b23⟩ := Bx.on (⟨b1n0, b1n1, b1n2, b1n3⟩ : Bx _ _ _ _) k2; obtain ⟨s20, s21, s22, s23⟩ := Bx.on (bxNew w1 (.int .i64 (x + y)) (.int .i64 0) _) k2; have bel2 := bT (bel1.alloc bel1.size _) k2; obtain ⟨a2n0, a2n1, a2n2, a2n3⟩ := Bx.alloc (⟨a20, a21, a22, a23⟩ : Bx _ _ _ _) (Obj.cells #[Value.int .i64 (x - y), Value.int .i64 (0)] 23); obtain ⟨b2n0, b2n1, b2n2, b2n3⟩ := Bx.alloc (⟨b20, b21, b22, b23⟩ : Bx _ _ _ _) (Obj.cells #[Value.int .i64 (x - y), Value.int .i64 (0)] 23); obtain ⟨s2n0, s2n1, s2n2, s2n3⟩ := Bx.alloc (⟨s20, s21, s22, s23⟩ : Bx _ _ _ _) (Obj.cells #[Value.int .i64 (x - y), Value.int .i64 (0)] 23)) | (go_at_call 27; refine (hmul _).mono ?_; rintro e0 w3 ⟨rfl, k3⟩; obtain ⟨a30, a31, a32, a33⟩ := Bx.on (⟨a2n0, a2n1, a2n2, a2n3⟩ : Bx _ _ _ _) k3; obtain ⟨b30, b31, b32, b33⟩ := Bx.on (⟨b2n0, b2n1, b2n2, b2n3⟩ : Bx _ _ _ _) k3; obtain ⟨s30, s31, s32, s33⟩ := Bx.on (⟨s2n0, s2n1, s2n2, s2n3⟩ : Bx _ _ _ _) k3; obtain ⟨d30, d31, d32, d33⟩ := Bx.on (bxNew w2 (.int .i64 (x - y)) (.int .i64 0) _) k3; have bel3 := bT (bel2.alloc bel2.size _) k3; obtain ⟨a40, a41, a42, a43⟩ := Bx.alloc (⟨a30, a31, a32, a33⟩ : Bx _ _ _ _) (Obj.cells #[Value.int .i64 (z), Value.int .i64 (0)] 23); obtain ⟨b40, b41, b42, b43⟩ := Bx.alloc (⟨b30, b31, b32, b33⟩ : Bx _ _ _ _) (Obj.cells #[Value.int .i64 (z), Value.int .i64 (0)] 23); obtain ⟨s40, s41, s42, s43⟩ := Bx.alloc (⟨s30, s31, s32, s33⟩ : Bx _ _ _ _) (Obj.cells #[Value.int .i64 (z), Value.int .i64 (0)] 23); obtain ⟨d40, d41, d42, d43⟩ := Bx.alloc (⟨d30, d31, d32, d33⟩ : Bx _ _ _ _) (Obj.cells #[Value.int .i64 (z), Value.int .i64 (0)] 23)) | (go_at_call 30; refine (hint _).mono ?_; rintro e0 w4 ⟨rfl, k4⟩; obtain ⟨a50, a51, a52, a53⟩ := Bx.on (⟨a40, a41, a42, a43⟩ : Bx _ _ _ _) k4; obtain ⟨b50, b51, b52, b53⟩ := Bx.on (⟨b40, b41, b42, b43⟩ : Bx _ _ _ _) k4; have bel4 := bT (bel3.alloc bel3.size _) k4; obtain ⟨a60, a61, a62, a63⟩ := Bx.alloc (⟨a50, a51, a52, a53⟩ : Bx _ _ _ _) (Obj.cells #[Value.int .i64 (x), Value.int .i64 (0)] 23); obtain ⟨b60, b61, b62, b63⟩ := Bx.alloc (⟨b50, b51, b52, b53⟩ : Bx _ _ _ _) (Obj.cells #[Value.int .i64 (x), Value.int .i64 (0)] 23)) | (go_at_call 21; refine (hmod _).mono ?_; rintro e0 w5 ⟨rfl, k5⟩; obtain ⟨a70, a71, a72, a73⟩ := Bx.on (⟨a60, a61, a62, a63⟩ : Bx _ _ _ _) k5; obtain ⟨b70, b71, b72, b73⟩ := Bx.on (⟨b60, b61, b62, b63⟩ : Bx _ _ _ _) k5; have bel5 := bT (bel4.alloc bel4.size _) k5; obtain ⟨a80, a81, a82, a83⟩ := Bx.alloc (⟨a70, a71, a72, a73⟩ : Bx _ _ _ _) (Obj.cells #[Value.int .i64 (u), Value.int .i64 (0)] 23); obtain ⟨b80, b81, b82, b83⟩ := Bx.alloc (⟨b70, b71, b72, b73⟩ : Bx _ _ _ _) (Obj.cells #[Value.int .i64 (u), Value.int .i64 (0)] 23)) | (go_at_call 19; refine (hdiv _).mono ?_; rintro e0 w6 ⟨rfl, k6⟩; obtain ⟨m60, m61, m62, m63⟩ := Bx.on (bxNew w5 (.int .i64 u) (.int .i64 0) _) k6; have bel6 := bT (bel5.alloc bel5.size _) k6))
  have hS1 := ((Sv.nil (B := w.heap.size) (o := w) (a := (w6.alloc (Obj.cells #[Value.int .i64 (c), Value.int .i64 (s)] 23))) (bel6.alloc bel6.size _)).addf (k := w6.heap.size) (x := .int .i64 c) (y := .int .i64 s) (bxNew w6 _ _ _)).addf (k := w5.heap.size) (x := .int .i64 u) (y := .int .i64 0) (Bx.alloc (⟨m60, m61, m62, m63⟩ : Bx _ _ _ _) _)
  obtain ⟨fx1, hfx1⟩ : ∃ fx : List (Nat × Value × Value), [(w5.heap.size, .int .i64 u, .int .i64 0), (w6.heap.size, .int .i64 c, .int .i64 s)] = fx := ⟨_, rfl⟩
  obtain ⟨op1, hop1⟩ : ∃ op : List Nat, [] = op := ⟨_, rfl⟩
  rw [hfx1, hop1] at hS1
  have u1_0_0 := Sv.fix0 (B := w.heap.size) (o := w) (fx := fx1) (op := op1) (k := w5.heap.size) (x := .int .i64 u) (y := .int .i64 0) (by subst hfx1; simp)
  have u1_0_1 := Sv.fix1 (B := w.heap.size) (o := w) (fx := fx1) (op := op1) (k := w5.heap.size) (x := .int .i64 u) (y := .int .i64 0) (by subst hfx1; simp)
  have u1_1_0 := Sv.fix0 (B := w.heap.size) (o := w) (fx := fx1) (op := op1) (k := w6.heap.size) (x := .int .i64 c) (y := .int .i64 s) (by subst hfx1; simp)
  have u1_1_1 := Sv.fix1 (B := w.heap.size) (o := w) (fx := fx1) (op := op1) (k := w6.heap.size) (x := .int .i64 c) (y := .int .i64 s) (by subst hfx1; simp)
  have mf1_0 : (w5.heap.size, .int .i64 u, .int .i64 0) ∈ fx1 := by subst hfx1; simp
  have mf1_1 : (w6.heap.size, .int .i64 c, .int .i64 s) ∈ fx1 := by subst hfx1; simp
  clear hfx1 hop1
  have HS1 := Lib.hid hS1
  clear hS1
  clear a10 a11 a12 a13 b10 b11 b12 b13 a1n0 a1n1 a1n2 a1n3 b1n0 b1n1 b1n2 b1n3 a20 a21 a22 a23 b20 b21 b22 b23 s20 s21 s22 s23 a2n0 a2n1 a2n2 a2n3 b2n0 b2n1 b2n2 b2n3 s2n0 s2n1 s2n2 s2n3 a30 a31 a32 a33 b30 b31 b32 b33 s30 s31 s32 s33 d30 d31 d32 d33 a40 a41 a42 a43 b40 b41 b42 b43 s40 s41 s42 s43 d40 d41 d42 d43 a50 a51 a52 a53 b50 b51 b52 b53 a60 a61 a62 a63 b60 b61 b62 b63 a70 a71 a72 a73 b70 b71 b72 b73 a80 a81 a82 a83 b80 b81 b82 b83 m60 m61 m62 m63 hadd hsub hmul hint hmod hdiv
  refine wp_region_held_drew (S := Sv w.heap.size w fx1 op1) (by kernel_rfl) HS1.out.drew (fun hHeld => ?_)
  refine take_put (i := 0) (d := 139) (oi := _) (v := ?v0) rfl rfl (by kernel_rfl) (by kernel_rfl) (by kernel_rfl) (fun _ _ _ h => h) (Or.inl ⟨by rfl, ?y0⟩) hHeld ?r0
  case y0 => (intro w hSw; (try dsimp only at hSw); go_simp; try with_reducible rfl)
  simp only [Act.put, List.setIfInBounds_toArray, List.set_cons_zero, List.set_cons_succ]
  refine take_put (i := 1) (d := 140) (oi := _) (v := ?v1) rfl rfl (by kernel_rfl) (by kernel_rfl) (by kernel_rfl) (fun _ _ _ h => h) (Or.inl ⟨by rfl, ?y1⟩) hHeld ?r1
  case y1 => (intro w hSw; (try dsimp only at hSw); go_simp; try with_reducible rfl)
  simp only [Act.put, List.setIfInBounds_toArray, List.set_cons_zero, List.set_cons_succ]
  refine take_put (i := 2) (d := 141) (oi := _) (v := ?v2) rfl rfl (by kernel_rfl) (by kernel_rfl) (by kernel_rfl) (fun _ _ _ h => h) (Or.inl ⟨by rfl, ?y2⟩) hHeld ?r2
  case y2 => (intro w hSw; (try dsimp only at hSw); go_simp; try with_reducible rfl)
  simp only [Act.put, List.setIfInBounds_toArray, List.set_cons_zero, List.set_cons_succ]
  refine take_put (i := 3) (d := 142) (oi := _) (v := ?v3) rfl rfl (by kernel_rfl) (by kernel_rfl) (by kernel_rfl) (fun _ _ _ h => h) (Or.inl ⟨by rfl, ?y3⟩) hHeld ?r3
  case y3 => (intro w hSw; (try dsimp only at hSw); go_simp; try with_reducible rfl)
  simp only [Act.put, List.setIfInBounds_toArray, List.set_cons_zero, List.set_cons_succ]
  refine take_put (i := 4) (d := 143) (oi := _) (v := ?v4) rfl rfl (by kernel_rfl) (by kernel_rfl) (by kernel_rfl) (fun _ _ _ h => h) (Or.inl ⟨by rfl, ?y4⟩) hHeld ?r4
  case y4 => (intro w hSw; (try dsimp only at hSw); go_simp; try with_reducible rfl)
  simp only [Act.put, List.setIfInBounds_toArray, List.set_cons_zero, List.set_cons_succ]
  refine take_put (i := 5) (d := 144) (oi := _) (v := ?v5) rfl rfl (by kernel_rfl) (by kernel_rfl) (by kernel_rfl) (fun _ _ _ h => h) (Or.inl ⟨by rfl, ?y5⟩) hHeld ?r5
  case y5 => (intro w hSw; (try dsimp only at hSw); go_simp; try with_reducible rfl)
  simp only [Act.put, List.setIfInBounds_toArray, List.set_cons_zero, List.set_cons_succ]
  refine take_put (i := 6) (d := 145) (oi := _) (v := ?v6) rfl rfl (by kernel_rfl) (by kernel_rfl) (by kernel_rfl) (fun _ _ _ h => h) (Or.inl ⟨by rfl, ?y6⟩) hHeld ?r6
  case y6 => (intro w hSw; (try dsimp only at hSw); go_simp; try with_reducible rfl)
  simp only [Act.put, List.setIfInBounds_toArray, List.set_cons_zero, List.set_cons_succ]
  refine take_put (i := 7) (d := 146) (oi := _) (v := ?v7) rfl rfl (by kernel_rfl) (by kernel_rfl) (by kernel_rfl) (fun _ _ _ h => h) (Or.inl ⟨by rfl, ?y7⟩) hHeld ?r7
  case y7 => (intro w hSw; (try dsimp only at hSw); go_simp; try with_reducible rfl)
  simp only [Act.put, List.setIfInBounds_toArray, List.set_cons_zero, List.set_cons_succ]
  refine take_put (i := 8) (d := 147) (oi := _) (v := ?v8) rfl rfl (by kernel_rfl) (by kernel_rfl) (by kernel_rfl) (fun _ _ _ h => h) (Or.inl ⟨by rfl, ?y8⟩) hHeld ?r8
  case y8 => (intro w hSw; (try dsimp only at hSw); go_simp; try with_reducible rfl)
  simp only [Act.put, List.setIfInBounds_toArray, List.set_cons_zero, List.set_cons_succ]
  refine take_put (i := 9) (d := 148) (oi := _) (v := ?v9) rfl rfl (by kernel_rfl) (by kernel_rfl) (by kernel_rfl) (fun _ _ _ h => h) (Or.inl ⟨by rfl, ?y9⟩) hHeld ?r9
  case y9 => (intro w hSw; (try dsimp only at hSw); go_simp; try with_reducible rfl)
  simp only [Act.put, List.setIfInBounds_toArray, List.set_cons_zero, List.set_cons_succ]
  refine take_put (i := 10) (d := 149) (oi := _) (v := ?v10) rfl rfl (by kernel_rfl) (by kernel_rfl) (by kernel_rfl) (fun _ _ _ h => h) (Or.inl ⟨by rfl, ?y10⟩) hHeld ?r10
  case y10 => (intro w hSw; (try dsimp only at hSw); go_simp; try with_reducible rfl)
  simp only [Act.put, List.setIfInBounds_toArray, List.set_cons_zero, List.set_cons_succ]
  refine take_put (i := 11) (d := 150) (oi := _) (v := ?v11) rfl rfl (by kernel_rfl) (by kernel_rfl) (by kernel_rfl) (fun _ _ _ h => h) (Or.inl ⟨by rfl, ?y11⟩) hHeld ?r11
  case y11 => (intro w hSw; (try dsimp only at hSw); go_simp; try with_reducible rfl)
  simp only [Act.put, List.setIfInBounds_toArray, List.set_cons_zero, List.set_cons_succ]
  refine take_put (i := 12) (d := 151) (oi := _) (v := ?v12) rfl rfl (by kernel_rfl) (by kernel_rfl) (by kernel_rfl) (fun _ _ _ h => h) (Or.inl ⟨by rfl, ?y12⟩) hHeld ?r12
  case y12 => (intro w hSw; (try dsimp only at hSw); go_simp; try with_reducible rfl)
  simp only [Act.put, List.setIfInBounds_toArray, List.set_cons_zero, List.set_cons_succ]
  refine take_put (i := 13) (d := 152) (oi := _) (v := ?v13) rfl rfl (by kernel_rfl) (by kernel_rfl) (by kernel_rfl) (fun _ _ _ h => h) (Or.inl ⟨by rfl, ?y13⟩) hHeld ?r13
  case y13 => (intro w hSw; (try dsimp only at hSw); go_simp; try with_reducible rfl)
  simp only [Act.put, List.setIfInBounds_toArray, List.set_cons_zero, List.set_cons_succ]
  refine take_put (i := 14) (d := 153) (oi := _) (v := ?v14) rfl rfl (by kernel_rfl) (by kernel_rfl) (by kernel_rfl) (fun _ _ _ h => h) (Or.inl ⟨by rfl, ?y14⟩) hHeld ?r14
  case y14 => (intro w hSw; (try dsimp only at hSw); go_simp; try with_reducible rfl)
  simp only [Act.put, List.setIfInBounds_toArray, List.set_cons_zero, List.set_cons_succ]
  refine take_put (i := 15) (d := 154) (oi := _) (v := ?v15) rfl rfl (by kernel_rfl) (by kernel_rfl) (by kernel_rfl) (fun _ _ _ h => h) (Or.inl ⟨by rfl, ?y15⟩) hHeld ?r15
  case y15 => (intro w hSw; (try dsimp only at hSw); go_simp; try with_reducible rfl)
  simp only [Act.put, List.setIfInBounds_toArray, List.set_cons_zero, List.set_cons_succ]
  refine take_put (i := 16) (d := 155) (oi := _) (v := undef) rfl rfl (by kernel_rfl) (by kernel_rfl) (by kernel_rfl) (fun _ _ _ h => h) (Or.inr ⟨by rfl, rfl⟩) hHeld ?r16
  simp only [Act.put, List.setIfInBounds_toArray, List.set_cons_zero, List.set_cons_succ]
  refine take_put (i := 17) (d := 156) (oi := _) (v := undef) rfl rfl (by kernel_rfl) (by kernel_rfl) (by kernel_rfl) (fun _ _ _ h => h) (Or.inr ⟨by rfl, rfl⟩) hHeld ?r17
  simp only [Act.put, List.setIfInBounds_toArray, List.set_cons_zero, List.set_cons_succ]
  refine take_put (i := 18) (d := 157) (oi := _) (v := undef) rfl rfl (by kernel_rfl) (by kernel_rfl) (by kernel_rfl) (fun _ _ _ h => h) (Or.inr ⟨by rfl, rfl⟩) hHeld ?r18
  simp only [Act.put, List.setIfInBounds_toArray, List.set_cons_zero, List.set_cons_succ]
  refine take_put (i := 19) (d := 158) (oi := _) (v := undef) rfl rfl (by kernel_rfl) (by kernel_rfl) (by kernel_rfl) (fun _ _ _ h => h) (Or.inr ⟨by rfl, rfl⟩) hHeld ?r19
  simp only [Act.put, List.setIfInBounds_toArray, List.set_cons_zero, List.set_cons_succ]
  refine take_put (i := 20) (d := 159) (oi := _) (v := undef) rfl rfl (by kernel_rfl) (by kernel_rfl) (by kernel_rfl) (fun _ _ _ h => h) (Or.inr ⟨by rfl, rfl⟩) hHeld ?r20
  simp only [Act.put, List.setIfInBounds_toArray, List.set_cons_zero, List.set_cons_succ]
  refine take_put (i := 21) (d := 160) (oi := _) (v := undef) rfl rfl (by kernel_rfl) (by kernel_rfl) (by kernel_rfl) (fun _ _ _ h => h) (Or.inr ⟨by rfl, rfl⟩) hHeld ?r21
  simp only [Act.put, List.setIfInBounds_toArray, List.set_cons_zero, List.set_cons_succ]
  refine take_put (i := 22) (d := 161) (oi := _) (v := undef) rfl rfl (by kernel_rfl) (by kernel_rfl) (by kernel_rfl) (fun _ _ _ h => h) (Or.inr ⟨by rfl, rfl⟩) hHeld ?r22
  simp only [Act.put, List.setIfInBounds_toArray, List.set_cons_zero, List.set_cons_succ]
  refine take_put (i := 23) (d := 162) (oi := _) (v := undef) rfl rfl (by kernel_rfl) (by kernel_rfl) (by kernel_rfl) (fun _ _ _ h => h) (Or.inr ⟨by rfl, rfl⟩) hHeld ?r23
  simp only [Act.put, List.setIfInBounds_toArray, List.set_cons_zero, List.set_cons_succ]
  refine take_put (i := 24) (d := 163) (oi := _) (v := undef) rfl rfl (by kernel_rfl) (by kernel_rfl) (by kernel_rfl) (fun _ _ _ h => h) (Or.inr ⟨by rfl, rfl⟩) hHeld ?r24
  simp only [Act.put, List.setIfInBounds_toArray, List.set_cons_zero, List.set_cons_succ]
  refine take_put (i := 25) (d := 164) (oi := _) (v := undef) rfl rfl (by kernel_rfl) (by kernel_rfl) (by kernel_rfl) (fun _ _ _ h => h) (Or.inr ⟨by rfl, rfl⟩) hHeld ?r25
  simp only [Act.put, List.setIfInBounds_toArray, List.set_cons_zero, List.set_cons_succ]
  refine take_put (i := 26) (d := 165) (oi := _) (v := ?v26) rfl rfl (by kernel_rfl) (by kernel_rfl) (by kernel_rfl) (fun _ _ _ h => h) (Or.inl ⟨by rfl, ?y26⟩) hHeld ?r26
  case y26 => (intro w hSw; (try dsimp only at hSw); go_simp; try with_reducible rfl)
  simp only [Act.put, List.setIfInBounds_toArray, List.set_cons_zero, List.set_cons_succ]
  refine take_put (i := 27) (d := 166) (oi := _) (v := ?v27) rfl rfl (by kernel_rfl) (by kernel_rfl) (by kernel_rfl) (fun _ _ _ h => h) (Or.inl ⟨by rfl, ?y27⟩) hHeld ?r27
  case y27 => (intro w hSw; (try dsimp only at hSw); go_simp; try with_reducible rfl)
  simp only [Act.put, List.setIfInBounds_toArray, List.set_cons_zero, List.set_cons_succ]
  refine take_put (i := 28) (d := 167) (oi := _) (v := ?v28) rfl rfl (by kernel_rfl) (by kernel_rfl) (by kernel_rfl) (fun _ _ _ h => h) (Or.inl ⟨by rfl, ?y28⟩) hHeld ?r28
  case y28 => (intro w hSw; (try dsimp only at hSw); go_simp; try with_reducible rfl)
  simp only [Act.put, List.setIfInBounds_toArray, List.set_cons_zero, List.set_cons_succ]
  refine wpAnyH_ready (rs := [29]) (by kernel_rfl) (by simp) (AllReadyH.cons (o := _) rfl (fun K hK => ?_) AllReadyH.nil)
  go_simp
  refine (hlv _ (Lib.hid hHeld.1)).mono ?_
  rintro e wl ⟨rfl, bl⟩
  (try dsimp only)
  refine hK.out _ _ (hHeld.call bl (Nat.le_refl _)) (fun hHeld => ?_)
  clear hK K
  refine take_put (i := 30) (d := 169) (oi := _) (v := ?v30) rfl rfl (by kernel_rfl) (by kernel_rfl) (by kernel_rfl) (fun _ _ _ h => h) (Or.inl ⟨by rfl, ?y30⟩) hHeld ?r30
  case y30 => (intro w hSw; (try dsimp only at hSw); go_simp; try with_reducible rfl)
  simp only [Act.put, List.setIfInBounds_toArray, List.set_cons_zero, List.set_cons_succ]
  refine take_put (i := 31) (d := 4) (oi := _) (v := ?v31) rfl rfl (by kernel_rfl) (by kernel_rfl) (by kernel_rfl) (fun _ _ _ h => h) (Or.inl ⟨by rfl, ?y31⟩) hHeld ?r31
  case y31 => (intro w hSw; (try dsimp only at hSw); go_simp; try with_reducible rfl)
  simp only [Act.put, List.setIfInBounds_toArray, List.set_cons_zero, List.set_cons_succ]
  refine wpAnyH_done (by kernel_rfl) ?_ _
  have HF3 := Lib.hid hHeld
  clear hHeld
  clear u1_0_0 u1_0_1 u1_1_0 u1_1_1
  go_wp2
  go_ret
  exact ⟨rfl, HF3.out.1⟩
end Nm
end Go.Proofs.YtkamjjkpaampcaaDoor
