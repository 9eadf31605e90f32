/- math/bits.Div64 for every dividend whose upper half is below the divisor. -/
import Derived.Test.YtpddkchnogfjkaaDoorNmDivMath
import Derived.Test.YtpddkchnogfjkaaDoorNmWide
import Derived.Test.YtpddkchnogfjkaaDoorShelf
import Derived.Lib.ItoaNum
import Derived.Outline
import Derived.LoopTactic
namespace Go.Proofs.YtpddkchnogfjkaaDoor
open Go.RowKit
namespace Nm
set_option maxRecDepth 100000 in
theorem div64_low (l d : Int) (w : World) (l0 : 0 ≤ l) (l1 : l < 18446744073709551616) (d0 : 0 < d) (d1 : d < 18446744073709551616) :
    Calls Tryd.prog 85 #[.int .u64 0, .int .u64 l, .int .u64 d] w fun e w' => e = .returned (.tuple #[.int .u64 (l / d), .int .u64 (l % d)]) ∧ Below w.heap.size w w' := by
  have hd : (d == 0) = false := by simp; omega
  have q0 : 0 ≤ l / d := Int.ediv_nonneg l0 (by omega)
  have q1 : l / d ≤ l := Int.ediv_le_self _ l0
  have r0 : 0 ≤ l % d := Int.emod_nonneg _ (by omega)
  have r1 : l % d < d := Int.emod_lt_of_pos _ d0
  go_enter Tryd.func85, Tryd.ntmps85
  go_wp2
  go_quiet (fail)
  go_wp2
  go_ret2
  exact ⟨rfl, ⟨rfl, rfl, rfl, Nat.le_refl _, fun _ _ => rfl⟩⟩
set_option maxRecDepth 100000 in
set_option maxHeartbeats 2000000 in
theorem div64_high (h l d : Int) (w : World) (h0 : 0 < h) (h1 : h < d)
    (n m : Nat) (hnm : n + m = 64) (hn : n < 64) (hl : ∀ w, Calls Tryd.prog 94 #[.int .u64 d] w fun e w' => e = .returned (.int .i64 (n : Int)) ∧ w' = w)
    (Y Y1 Y0 H L U T T1 T0 q r P : Int) (e1 : IntKind.u64.wrap (d * 2 ^ n) = Y) (e2 : Y / 4294967296 = Y1) (e3 : bits .and .u64 Y 4294967295 = Y0)
    (e4 : IntKind.u64.wrap (h * 2 ^ n) = H) (e5 : l / 2 ^ m = L) (e6 : bits .or .u64 H L = U) (e7 : IntKind.u64.wrap (l * 2 ^ n) = T) (e8 : T / 4294967296 = T1) (e9 : bits .and .u64 T 4294967295 = T0)
    (e10 : U / Y1 = q) (e11 : q * Y1 = P) (e12 : U - P = r) (p0 : 0 ≤ P) (p1 : P ≤ U) (u0 : 0 ≤ U) (u1 : U < 18446744073709551616)
    (y1 : 2147483648 ≤ Y1) (y1' : Y1 < 4294967296) (y0 : 0 ≤ Y0) (y0' : Y0 < 4294967296) (hY : Y = Y1 * 4294967296 + Y0) (hYd : Y = d * 2 ^ n) (hX : (h * 18446744073709551616 + l) * 2 ^ n = (U * 4294967296 + T1) * 4294967296 + T0) (hUY : U < Y) (t1 : 0 ≤ T1) (t1' : T1 < 4294967296) (t0 : 0 ≤ T0) (t0' : T0 < 4294967296) :
    Calls Tryd.prog 85 #[.int .u64 h, .int .u64 l, .int .u64 d] w fun e w' => e = .returned (.tuple #[.int .u64 ((h * 18446744073709551616 + l) / d), .int .u64 ((h * 18446744073709551616 + l) % d)]) ∧ Below w.heap.size w w' := by
  have hd : (d == 0) = false := by simp; omega
  have hh : (h == 0) = false := by simp; omega
  have em : (64 : Int) - (n : Int) = (m : Int) := by omega
  have hm : m ≤ 64 := by omega
  have hdp : 0 < d := by omega
  have yM : Y < 18446744073709551616 := by rw [hY]; omega
  have HY := Lib.hid hY
  have HYd := Lib.hid hYd
  have HX := Lib.hid hX
  have hst := dstart (U := U) (u := T1) y1 y0 y0' t1' u0 (by omega)
  have HS := Lib.hid hst
  have HE := Lib.hid (show U / Y1 * Y1 = P by rw [e10, e11])
  have Hr := Lib.hid e12
  have Hn : Hid ((0 : Int) < 2 ^ n) := Lib.hid (Int.pow_pos (by decide))
  obtain ⟨X, hXX⟩ : ∃ X, h * 18446744073709551616 + l = X := ⟨_, rfl⟩
  rw [hXX] at HX ⊢
  clear hXX
  clear hY hYd hX hst hnm
  go_enter Tryd.func85, Tryd.ntmps85
  go_wp2_with (go_at_call 94; refine (hl _).mono ?_; rintro e w' ⟨rfl, rfl⟩)
  go_loop [15, 16] (fun x y => ∃ (q r : Int), x = .int .u64 q ∧ y = .int .u64 r ∧ 0 ≤ q ∧ q ≤ 4294967297 ∧ 0 ≤ r ∧ r < 4294967296 ∧ Hid (U = q * Y1 + r ∧ U * 4294967296 + T1 < (q + 1) * (Y1 * 4294967296 + Y0))) (fun x _ => (intOf x).toNat)
  case atStart => exact ⟨U / Y1, r, rfl, rfl, HS.out.2.2.1, HS.out.2.1, by omega, by have := HS.out.2.2.2.2.2; have := HS.out.2.2.2.1; have := HE.out; have := Hr.out; omega, Lib.hid ⟨by have := HS.out.2.2.2.1; have := HE.out; have := Hr.out; omega, HS.out.1⟩⟩
  case round =>
    clear HS HE Hr e1 e2 e3 e4 e5 e6 e7 e8 e9 e10 e11 e12 p0 p1
    obtain ⟨q, r, rfl, rfl, q0, q1, r0, r1, HIq⟩ := hrel
    obtain ⟨R, hR⟩ : ∃ R, q * Y0 = R := ⟨_, rfl⟩
    have hgo : Hid ((4294967296 ≤ q ∨ 4294967296 * r + T1 < R) → (U * 4294967296 + T1 < (q - 1 + 1) * (Y1 * 4294967296 + Y0) ∧ U = (q - 1) * Y1 + (r + Y1))) := Lib.hid (fun h => dgo (by omega) y0 t1' (by rw [← HY.out]; exact hUY) HIq.out.1 (by rw [hR]; exact h))
    by_cases hq : 4294967296 ≤ q
    · have hn := Lib.hid (hgo.out (Or.inl hq))
      by_cases hb : r + Y1 < 4294967296
      · clear hR
        go_wp2
        go_round
        case rel => exact ⟨q - 1, r + Y1, by go_num, by go_num, by omega, by omega, by omega, by omega, Lib.hid ⟨hn.out.2, hn.out.1⟩⟩
        case measure => simp [intOf]; omega
      · clear hR
        obtain ⟨kq, hk⟩ : ∃ k, q - 1 = k := ⟨_, rfl⟩
        have HF : Hid (kq * Y ≤ U * 4294967296 + T1 ∧ U * 4294967296 + T1 < (kq + 1) * Y) := Lib.hid (by
          have h := hn.out
          rw [hk] at h
          rw [HY.out]
          exact ⟨dbreak y0 y0' t1 (by omega) (by omega) h.2, h.1⟩)
        have k0 : 0 ≤ kq := by omega
        clear HIq hn hgo

        have k1 := (Lib.hid (dlt (U := U) (u := T1) (y := Y) hUY t1' (by omega) HF.out.1)).out
        obtain ⟨Z, hZ⟩ : ∃ Z, kq * Y = Z := ⟨_, rfl⟩
        obtain ⟨A1, a1⟩ : ∃ A1, IntKind.u64.wrap (U * 4294967296) = A1 := ⟨_, rfl⟩
        obtain ⟨A2, a2⟩ : ∃ A2, IntKind.u64.wrap (A1 + T1) = A2 := ⟨_, rfl⟩
        obtain ⟨A3, a3⟩ : ∃ A3, IntKind.u64.wrap Z = A3 := ⟨_, rfl⟩
        obtain ⟨V, hV⟩ : ∃ V, IntKind.u64.wrap (A2 - A3) = V := ⟨_, rfl⟩
        have hVV : V = U * 4294967296 + T1 - Z ∧ 0 ≤ V ∧ V < Y := by
          have hz := HF.out
          rw [succ_mul', hZ] at hz
          have a1' := a1
          have a2' := a2
          have a3' := a3
          have hV' := hV
          simp only [IntKind.wrap_u64] at a1' a2' a3' hV'
          omega
        obtain ⟨hV1, v0, v1⟩ := hVV
        rw [← hZ] at hV1
        have HV := Lib.hid hV1
        clear hV1
        have hst := dstart (U := V) (u := T0) y1 y0 y0' t0' v0 (by rw [← HY.out]; exact v1)
        obtain ⟨P2, hP2⟩ : ∃ P2, V / Y1 * Y1 = P2 := ⟨_, rfl⟩
        obtain ⟨r2, hr2⟩ : ∃ r2, V - P2 = r2 := ⟨_, rfl⟩
        have hr2' : r2 = V % Y1 := by omega
        have hp0 : 0 ≤ P2 := by rw [← hP2]; exact Int.mul_nonneg hst.2.2.1 (by omega)
        have hp1 : P2 ≤ V := by omega
        have HR2 := Lib.hid hr2'
        have HS2 := Lib.hid hst
        have HP2 := Lib.hid hP2
        clear hst hr2' HF
        go_wp2
        go_loop [18, 16] (fun x y => ∃ (g f : Int), x = .int .u64 g ∧ y = .int .u64 f ∧ 0 ≤ g ∧ g ≤ 4294967297 ∧ 0 ≤ f ∧ f < 4294967296 ∧ Hid (V = g * Y1 + f ∧ V * 4294967296 + T0 < (g + 1) * (Y1 * 4294967296 + Y0))) (fun x _ => (intOf x).toNat)
        case atStart => exact ⟨V / Y1, r2, rfl, rfl, HS2.out.2.2.1, HS2.out.2.1, by rw [HR2.out]; exact HS2.out.2.2.2.2.1, by have := HS2.out.2.2.2.2.2; rw [← HR2.out] at this; omega, Lib.hid ⟨by rw [HR2.out]; exact HS2.out.2.2.2.1, HS2.out.1⟩⟩
        case round =>
          clear HS2 HR2 hP2 hr2
          obtain ⟨g, f, rfl, rfl, q0, q1, r0, r1, HIg⟩ := hrel
          obtain ⟨R, hR⟩ : ∃ R, g * Y0 = R := ⟨_, rfl⟩
          have hgo : Hid ((4294967296 ≤ g ∨ 4294967296 * f + T0 < R) → (V * 4294967296 + T0 < (g - 1 + 1) * (Y1 * 4294967296 + Y0) ∧ V = (g - 1) * Y1 + (f + Y1))) := Lib.hid (fun h => dgo (by omega) y0 t0' (by rw [← HY.out]; exact v1) HIg.out.1 (by rw [hR]; exact h))
          by_cases hq : 4294967296 ≤ g
          · have hn := Lib.hid (hgo.out (Or.inl hq))
            by_cases hb : f + Y1 < 4294967296
            · clear hR
              go_wp2
              go_round
              case rel => exact ⟨g - 1, f + Y1, by go_num, by go_num, by omega, by omega, by omega, by omega, Lib.hid ⟨hn.out.2, hn.out.1⟩⟩
              case measure => simp [intOf]; omega
            · clear hR
              obtain ⟨kg, hk⟩ : ∃ k, g - 1 = k := ⟨_, rfl⟩
              have HF : Hid (kg * Y ≤ V * 4294967296 + T0 ∧ V * 4294967296 + T0 < (kg + 1) * Y) := Lib.hid (by
                have h := hn.out
                rw [hk] at h
                rw [HY.out]
                exact ⟨dbreak y0 y0' t0 (by omega) (by omega) h.2, h.1⟩)
              have k0 : 0 ≤ kg := by omega
              clear HIg hn hgo

              have k2 := (Lib.hid (dlt (U := V) (u := T0) (y := Y) v1 t0' (by omega) HF.out.1)).out
              obtain ⟨Z2, hZ2⟩ : ∃ Z, kg * Y = Z := ⟨_, rfl⟩
              obtain ⟨B1, b1⟩ : ∃ B1, IntKind.u64.wrap (V * 4294967296) = B1 := ⟨_, rfl⟩
              obtain ⟨B2, b2⟩ : ∃ B2, IntKind.u64.wrap (B1 + T0) = B2 := ⟨_, rfl⟩
              obtain ⟨B3, b3⟩ : ∃ B3, IntKind.u64.wrap Z2 = B3 := ⟨_, rfl⟩
              obtain ⟨W, hW⟩ : ∃ W, IntKind.u64.wrap (B2 - B3) = W := ⟨_, rfl⟩
              have hend : Hid (kq * 4294967296 + kg = X / d ∧ W / 2 ^ n = X % d) := Lib.hid (by
                have hz := HF.out
                rw [succ_mul', hZ2] at hz
                have b1' := b1
                have b2' := b2
                have b3' := b3
                have hW' := hW
                simp only [IntKind.wrap_u64] at b1' b2' b3' hW'
                have hWv : W = V * 4294967296 + T0 - Z2 := by omega
                have := dboth (X := X) (y := d) (q1 := kq) (q0 := kg) (s := 2 ^ n) (U := U) (u := T1) (v := T0) (un := V) Hn.out hdp HX.out (by rw [← HYd.out]; exact HV.out) (by rw [← HYd.out, hZ2]; omega) (by rw [← HYd.out, hZ2]; omega)
                rw [← HYd.out, hZ2, ← hWv] at this
                exact this)
              clear HF
              go_wp2
              go_ret2
              exact ⟨by rw [← hend.out.1, ← hend.out.2]; rfl, Below.refl _ _⟩
          · have R0 : 0 ≤ R := by rw [← hR]; exact Int.mul_nonneg q0 y0
            have R1 : R < 18446744073709551616 := by
              have a := mul_le_of g 4294967296 Y0 (by omega) y0
              omega
            by_cases hRr : 4294967296 * f + T0 < R
            · have hn := Lib.hid (hgo.out (Or.inr hRr))
              have hq1 : 1 ≤ g := by
                rcases Int.lt_or_le 0 g with h | h
                · omega
                · obtain rfl : g = 0 := by omega
                  simp at hR
                  omega
              by_cases hb : f + Y1 < 4294967296
              · skip
                go_wp2
                go_round
                case rel => exact ⟨g - 1, f + Y1, by go_num, by go_num, by omega, by omega, by omega, by omega, Lib.hid ⟨hn.out.2, hn.out.1⟩⟩
                case measure => simp [intOf]; omega
              · skip
                obtain ⟨kg, hk⟩ : ∃ k, g - 1 = k := ⟨_, rfl⟩
                have HF : Hid (kg * Y ≤ V * 4294967296 + T0 ∧ V * 4294967296 + T0 < (kg + 1) * Y) := Lib.hid (by
                  have h := hn.out
                  rw [hk] at h
                  rw [HY.out]
                  exact ⟨dbreak y0 y0' t0 (by omega) (by omega) h.2, h.1⟩)
                have k0 : 0 ≤ kg := by omega
                clear HIg hn hgo

                have k2 := (Lib.hid (dlt (U := V) (u := T0) (y := Y) v1 t0' (by omega) HF.out.1)).out
                obtain ⟨Z2, hZ2⟩ : ∃ Z, kg * Y = Z := ⟨_, rfl⟩
                obtain ⟨B1, b1⟩ : ∃ B1, IntKind.u64.wrap (V * 4294967296) = B1 := ⟨_, rfl⟩
                obtain ⟨B2, b2⟩ : ∃ B2, IntKind.u64.wrap (B1 + T0) = B2 := ⟨_, rfl⟩
                obtain ⟨B3, b3⟩ : ∃ B3, IntKind.u64.wrap Z2 = B3 := ⟨_, rfl⟩
                obtain ⟨W, hW⟩ : ∃ W, IntKind.u64.wrap (B2 - B3) = W := ⟨_, rfl⟩
                have hend : Hid (kq * 4294967296 + kg = X / d ∧ W / 2 ^ n = X % d) := Lib.hid (by
                  have hz := HF.out
                  rw [succ_mul', hZ2] at hz
                  have b1' := b1
                  have b2' := b2
                  have b3' := b3
                  have hW' := hW
                  simp only [IntKind.wrap_u64] at b1' b2' b3' hW'
                  have hWv : W = V * 4294967296 + T0 - Z2 := by omega
                  have := dboth (X := X) (y := d) (q1 := kq) (q0 := kg) (s := 2 ^ n) (U := U) (u := T1) (v := T0) (un := V) Hn.out hdp HX.out (by rw [← HYd.out]; exact HV.out) (by rw [← HYd.out, hZ2]; omega) (by rw [← HYd.out, hZ2]; omega)
                  rw [← HYd.out, hZ2, ← hWv] at this
                  exact this)
                clear HF
                go_wp2
                go_ret2
                exact ⟨by rw [← hend.out.1, ← hend.out.2]; rfl, Below.refl _ _⟩
            · skip
              have HF : Hid (g * Y ≤ V * 4294967296 + T0 ∧ V * 4294967296 + T0 < (g + 1) * Y) := Lib.hid (by
                rw [HY.out]
                exact ⟨dstop HIg.out.1 (by rw [hR]; omega), HIg.out.2⟩)
              clear HIg hgo

              have k2 := (Lib.hid (dlt (U := V) (u := T0) (y := Y) v1 t0' (by omega) HF.out.1)).out
              obtain ⟨Z2, hZ2⟩ : ∃ Z, g * Y = Z := ⟨_, rfl⟩
              obtain ⟨B1, b1⟩ : ∃ B1, IntKind.u64.wrap (V * 4294967296) = B1 := ⟨_, rfl⟩
              obtain ⟨B2, b2⟩ : ∃ B2, IntKind.u64.wrap (B1 + T0) = B2 := ⟨_, rfl⟩
              obtain ⟨B3, b3⟩ : ∃ B3, IntKind.u64.wrap Z2 = B3 := ⟨_, rfl⟩
              obtain ⟨W, hW⟩ : ∃ W, IntKind.u64.wrap (B2 - B3) = W := ⟨_, rfl⟩
              have hend : Hid (kq * 4294967296 + g = X / d ∧ W / 2 ^ n = X % d) := Lib.hid (by
                have hz := HF.out
                rw [succ_mul', hZ2] at hz
                have b1' := b1
                have b2' := b2
                have b3' := b3
                have hW' := hW
                simp only [IntKind.wrap_u64] at b1' b2' b3' hW'
                have hWv : W = V * 4294967296 + T0 - Z2 := by omega
                have := dboth (X := X) (y := d) (q1 := kq) (q0 := g) (s := 2 ^ n) (U := U) (u := T1) (v := T0) (un := V) Hn.out hdp HX.out (by rw [← HYd.out]; exact HV.out) (by rw [← HYd.out, hZ2]; omega) (by rw [← HYd.out, hZ2]; omega)
                rw [← HYd.out, hZ2, ← hWv] at this
                exact this)
              clear HF
              go_wp2
              go_ret2
              exact ⟨by rw [← hend.out.1, ← hend.out.2]; rfl, Below.refl _ _⟩
    · have R0 : 0 ≤ R := by rw [← hR]; exact Int.mul_nonneg q0 y0
      have R1 : R < 18446744073709551616 := by
        have a := mul_le_of q 4294967296 Y0 (by omega) y0
        omega
      by_cases hRr : 4294967296 * r + T1 < R
      · have hn := Lib.hid (hgo.out (Or.inr hRr))
        have hq1 : 1 ≤ q := by
          rcases Int.lt_or_le 0 q with h | h
          · omega
          · obtain rfl : q = 0 := by omega
            simp at hR
            omega
        by_cases hb : r + Y1 < 4294967296
        · skip
          go_wp2
          go_round
          case rel => exact ⟨q - 1, r + Y1, by go_num, by go_num, by omega, by omega, by omega, by omega, Lib.hid ⟨hn.out.2, hn.out.1⟩⟩
          case measure => simp [intOf]; omega
        · skip
          obtain ⟨kq, hk⟩ : ∃ k, q - 1 = k := ⟨_, rfl⟩
          have HF : Hid (kq * Y ≤ U * 4294967296 + T1 ∧ U * 4294967296 + T1 < (kq + 1) * Y) := Lib.hid (by
            have h := hn.out
            rw [hk] at h
            rw [HY.out]
            exact ⟨dbreak y0 y0' t1 (by omega) (by omega) h.2, h.1⟩)
          have k0 : 0 ≤ kq := by omega
          clear HIq hn hgo

          have k1 := (Lib.hid (dlt (U := U) (u := T1) (y := Y) hUY t1' (by omega) HF.out.1)).out
          obtain ⟨Z, hZ⟩ : ∃ Z, kq * Y = Z := ⟨_, rfl⟩
          obtain ⟨A1, a1⟩ : ∃ A1, IntKind.u64.wrap (U * 4294967296) = A1 := ⟨_, rfl⟩
          obtain ⟨A2, a2⟩ : ∃ A2, IntKind.u64.wrap (A1 + T1) = A2 := ⟨_, rfl⟩
          obtain ⟨A3, a3⟩ : ∃ A3, IntKind.u64.wrap Z = A3 := ⟨_, rfl⟩
          obtain ⟨V, hV⟩ : ∃ V, IntKind.u64.wrap (A2 - A3) = V := ⟨_, rfl⟩
          have hVV : V = U * 4294967296 + T1 - Z ∧ 0 ≤ V ∧ V < Y := by
            have hz := HF.out
            rw [succ_mul', hZ] at hz
            have a1' := a1
            have a2' := a2
            have a3' := a3
            have hV' := hV
            simp only [IntKind.wrap_u64] at a1' a2' a3' hV'
            omega
          obtain ⟨hV1, v0, v1⟩ := hVV
          rw [← hZ] at hV1
          have HV := Lib.hid hV1
          clear hV1
          have hst := dstart (U := V) (u := T0) y1 y0 y0' t0' v0 (by rw [← HY.out]; exact v1)
          obtain ⟨P2, hP2⟩ : ∃ P2, V / Y1 * Y1 = P2 := ⟨_, rfl⟩
          obtain ⟨r2, hr2⟩ : ∃ r2, V - P2 = r2 := ⟨_, rfl⟩
          have hr2' : r2 = V % Y1 := by omega
          have hp0 : 0 ≤ P2 := by rw [← hP2]; exact Int.mul_nonneg hst.2.2.1 (by omega)
          have hp1 : P2 ≤ V := by omega
          have HR2 := Lib.hid hr2'
          have HS2 := Lib.hid hst
          have HP2 := Lib.hid hP2
          clear hst hr2' HF
          go_wp2
          go_loop [18, 16] (fun x y => ∃ (g f : Int), x = .int .u64 g ∧ y = .int .u64 f ∧ 0 ≤ g ∧ g ≤ 4294967297 ∧ 0 ≤ f ∧ f < 4294967296 ∧ Hid (V = g * Y1 + f ∧ V * 4294967296 + T0 < (g + 1) * (Y1 * 4294967296 + Y0))) (fun x _ => (intOf x).toNat)
          case atStart => exact ⟨V / Y1, r2, rfl, rfl, HS2.out.2.2.1, HS2.out.2.1, by rw [HR2.out]; exact HS2.out.2.2.2.2.1, by have := HS2.out.2.2.2.2.2; rw [← HR2.out] at this; omega, Lib.hid ⟨by rw [HR2.out]; exact HS2.out.2.2.2.1, HS2.out.1⟩⟩
          case round =>
            clear HS2 HR2 hP2 hr2
            obtain ⟨g, f, rfl, rfl, q0, q1, r0, r1, HIg⟩ := hrel
            obtain ⟨R, hR⟩ : ∃ R, g * Y0 = R := ⟨_, rfl⟩
            have hgo : Hid ((4294967296 ≤ g ∨ 4294967296 * f + T0 < R) → (V * 4294967296 + T0 < (g - 1 + 1) * (Y1 * 4294967296 + Y0) ∧ V = (g - 1) * Y1 + (f + Y1))) := Lib.hid (fun h => dgo (by omega) y0 t0' (by rw [← HY.out]; exact v1) HIg.out.1 (by rw [hR]; exact h))
            by_cases hq : 4294967296 ≤ g
            · have hn := Lib.hid (hgo.out (Or.inl hq))
              by_cases hb : f + Y1 < 4294967296
              · clear hR
                go_wp2
                go_round
                case rel => exact ⟨g - 1, f + Y1, by go_num, by go_num, by omega, by omega, by omega, by omega, Lib.hid ⟨hn.out.2, hn.out.1⟩⟩
                case measure => simp [intOf]; omega
              · clear hR
                obtain ⟨kg, hk⟩ : ∃ k, g - 1 = k := ⟨_, rfl⟩
                have HF : Hid (kg * Y ≤ V * 4294967296 + T0 ∧ V * 4294967296 + T0 < (kg + 1) * Y) := Lib.hid (by
                  have h := hn.out
                  rw [hk] at h
                  rw [HY.out]
                  exact ⟨dbreak y0 y0' t0 (by omega) (by omega) h.2, h.1⟩)
                have k0 : 0 ≤ kg := by omega
                clear HIg hn hgo

                have k2 := (Lib.hid (dlt (U := V) (u := T0) (y := Y) v1 t0' (by omega) HF.out.1)).out
                obtain ⟨Z2, hZ2⟩ : ∃ Z, kg * Y = Z := ⟨_, rfl⟩
                obtain ⟨B1, b1⟩ : ∃ B1, IntKind.u64.wrap (V * 4294967296) = B1 := ⟨_, rfl⟩
                obtain ⟨B2, b2⟩ : ∃ B2, IntKind.u64.wrap (B1 + T0) = B2 := ⟨_, rfl⟩
                obtain ⟨B3, b3⟩ : ∃ B3, IntKind.u64.wrap Z2 = B3 := ⟨_, rfl⟩
                obtain ⟨W, hW⟩ : ∃ W, IntKind.u64.wrap (B2 - B3) = W := ⟨_, rfl⟩
                have hend : Hid (kq * 4294967296 + kg = X / d ∧ W / 2 ^ n = X % d) := Lib.hid (by
                  have hz := HF.out
                  rw [succ_mul', hZ2] at hz
                  have b1' := b1
                  have b2' := b2
                  have b3' := b3
                  have hW' := hW
                  simp only [IntKind.wrap_u64] at b1' b2' b3' hW'
                  have hWv : W = V * 4294967296 + T0 - Z2 := by omega
                  have := dboth (X := X) (y := d) (q1 := kq) (q0 := kg) (s := 2 ^ n) (U := U) (u := T1) (v := T0) (un := V) Hn.out hdp HX.out (by rw [← HYd.out]; exact HV.out) (by rw [← HYd.out, hZ2]; omega) (by rw [← HYd.out, hZ2]; omega)
                  rw [← HYd.out, hZ2, ← hWv] at this
                  exact this)
                clear HF
                go_wp2
                go_ret2
                exact ⟨by rw [← hend.out.1, ← hend.out.2]; rfl, Below.refl _ _⟩
            · have R0 : 0 ≤ R := by rw [← hR]; exact Int.mul_nonneg q0 y0
              have R1 : R < 18446744073709551616 := by
                have a := mul_le_of g 4294967296 Y0 (by omega) y0
                omega
              by_cases hRr : 4294967296 * f + T0 < R
              · have hn := Lib.hid (hgo.out (Or.inr hRr))
                have hq1 : 1 ≤ g := by
                  rcases Int.lt_or_le 0 g with h | h
                  · omega
                  · obtain rfl : g = 0 := by omega
                    simp at hR
                    omega
                by_cases hb : f + Y1 < 4294967296
                · skip
                  go_wp2
                  go_round
                  case rel => exact ⟨g - 1, f + Y1, by go_num, by go_num, by omega, by omega, by omega, by omega, Lib.hid ⟨hn.out.2, hn.out.1⟩⟩
                  case measure => simp [intOf]; omega
                · skip
                  obtain ⟨kg, hk⟩ : ∃ k, g - 1 = k := ⟨_, rfl⟩
                  have HF : Hid (kg * Y ≤ V * 4294967296 + T0 ∧ V * 4294967296 + T0 < (kg + 1) * Y) := Lib.hid (by
                    have h := hn.out
                    rw [hk] at h
                    rw [HY.out]
                    exact ⟨dbreak y0 y0' t0 (by omega) (by omega) h.2, h.1⟩)
                  have k0 : 0 ≤ kg := by omega
                  clear HIg hn hgo

                  have k2 := (Lib.hid (dlt (U := V) (u := T0) (y := Y) v1 t0' (by omega) HF.out.1)).out
                  obtain ⟨Z2, hZ2⟩ : ∃ Z, kg * Y = Z := ⟨_, rfl⟩
                  obtain ⟨B1, b1⟩ : ∃ B1, IntKind.u64.wrap (V * 4294967296) = B1 := ⟨_, rfl⟩
                  obtain ⟨B2, b2⟩ : ∃ B2, IntKind.u64.wrap (B1 + T0) = B2 := ⟨_, rfl⟩
                  obtain ⟨B3, b3⟩ : ∃ B3, IntKind.u64.wrap Z2 = B3 := ⟨_, rfl⟩
                  obtain ⟨W, hW⟩ : ∃ W, IntKind.u64.wrap (B2 - B3) = W := ⟨_, rfl⟩
                  have hend : Hid (kq * 4294967296 + kg = X / d ∧ W / 2 ^ n = X % d) := Lib.hid (by
                    have hz := HF.out
                    rw [succ_mul', hZ2] at hz
                    have b1' := b1
                    have b2' := b2
                    have b3' := b3
                    have hW' := hW
                    simp only [IntKind.wrap_u64] at b1' b2' b3' hW'
                    have hWv : W = V * 4294967296 + T0 - Z2 := by omega
                    have := dboth (X := X) (y := d) (q1 := kq) (q0 := kg) (s := 2 ^ n) (U := U) (u := T1) (v := T0) (un := V) Hn.out hdp HX.out (by rw [← HYd.out]; exact HV.out) (by rw [← HYd.out, hZ2]; omega) (by rw [← HYd.out, hZ2]; omega)
                    rw [← HYd.out, hZ2, ← hWv] at this
                    exact this)
                  clear HF
                  go_wp2
                  go_ret2
                  exact ⟨by rw [← hend.out.1, ← hend.out.2]; rfl, Below.refl _ _⟩
              · skip
                have HF : Hid (g * Y ≤ V * 4294967296 + T0 ∧ V * 4294967296 + T0 < (g + 1) * Y) := Lib.hid (by
                  rw [HY.out]
                  exact ⟨dstop HIg.out.1 (by rw [hR]; omega), HIg.out.2⟩)
                clear HIg hgo

                have k2 := (Lib.hid (dlt (U := V) (u := T0) (y := Y) v1 t0' (by omega) HF.out.1)).out
                obtain ⟨Z2, hZ2⟩ : ∃ Z, g * Y = Z := ⟨_, rfl⟩
                obtain ⟨B1, b1⟩ : ∃ B1, IntKind.u64.wrap (V * 4294967296) = B1 := ⟨_, rfl⟩
                obtain ⟨B2, b2⟩ : ∃ B2, IntKind.u64.wrap (B1 + T0) = B2 := ⟨_, rfl⟩
                obtain ⟨B3, b3⟩ : ∃ B3, IntKind.u64.wrap Z2 = B3 := ⟨_, rfl⟩
                obtain ⟨W, hW⟩ : ∃ W, IntKind.u64.wrap (B2 - B3) = W := ⟨_, rfl⟩
                have hend : Hid (kq * 4294967296 + g = X / d ∧ W / 2 ^ n = X % d) := Lib.hid (by
                  have hz := HF.out
                  rw [succ_mul', hZ2] at hz
                  have b1' := b1
                  have b2' := b2
                  have b3' := b3
                  have hW' := hW
                  simp only [IntKind.wrap_u64] at b1' b2' b3' hW'
                  have hWv : W = V * 4294967296 + T0 - Z2 := by omega
                  have := dboth (X := X) (y := d) (q1 := kq) (q0 := g) (s := 2 ^ n) (U := U) (u := T1) (v := T0) (un := V) Hn.out hdp HX.out (by rw [← HYd.out]; exact HV.out) (by rw [← HYd.out, hZ2]; omega) (by rw [← HYd.out, hZ2]; omega)
                  rw [← HYd.out, hZ2, ← hWv] at this
                  exact this)
                clear HF
                go_wp2
                go_ret2
                exact ⟨by rw [← hend.out.1, ← hend.out.2]; rfl, Below.refl _ _⟩
      · skip
        have HF : Hid (q * Y ≤ U * 4294967296 + T1 ∧ U * 4294967296 + T1 < (q + 1) * Y) := Lib.hid (by
          rw [HY.out]
          exact ⟨dstop HIq.out.1 (by rw [hR]; omega), HIq.out.2⟩)
        clear HIq hgo

        have k1 := (Lib.hid (dlt (U := U) (u := T1) (y := Y) hUY t1' (by omega) HF.out.1)).out
        obtain ⟨Z, hZ⟩ : ∃ Z, q * Y = Z := ⟨_, rfl⟩
        obtain ⟨A1, a1⟩ : ∃ A1, IntKind.u64.wrap (U * 4294967296) = A1 := ⟨_, rfl⟩
        obtain ⟨A2, a2⟩ : ∃ A2, IntKind.u64.wrap (A1 + T1) = A2 := ⟨_, rfl⟩
        obtain ⟨A3, a3⟩ : ∃ A3, IntKind.u64.wrap Z = A3 := ⟨_, rfl⟩
        obtain ⟨V, hV⟩ : ∃ V, IntKind.u64.wrap (A2 - A3) = V := ⟨_, rfl⟩
        have hVV : V = U * 4294967296 + T1 - Z ∧ 0 ≤ V ∧ V < Y := by
          have hz := HF.out
          rw [succ_mul', hZ] at hz
          have a1' := a1
          have a2' := a2
          have a3' := a3
          have hV' := hV
          simp only [IntKind.wrap_u64] at a1' a2' a3' hV'
          omega
        obtain ⟨hV1, v0, v1⟩ := hVV
        rw [← hZ] at hV1
        have HV := Lib.hid hV1
        clear hV1
        have hst := dstart (U := V) (u := T0) y1 y0 y0' t0' v0 (by rw [← HY.out]; exact v1)
        obtain ⟨P2, hP2⟩ : ∃ P2, V / Y1 * Y1 = P2 := ⟨_, rfl⟩
        obtain ⟨r2, hr2⟩ : ∃ r2, V - P2 = r2 := ⟨_, rfl⟩
        have hr2' : r2 = V % Y1 := by omega
        have hp0 : 0 ≤ P2 := by rw [← hP2]; exact Int.mul_nonneg hst.2.2.1 (by omega)
        have hp1 : P2 ≤ V := by omega
        have HR2 := Lib.hid hr2'
        have HS2 := Lib.hid hst
        have HP2 := Lib.hid hP2
        clear hst hr2' HF
        go_wp2
        go_loop [18, 16] (fun x y => ∃ (g f : Int), x = .int .u64 g ∧ y = .int .u64 f ∧ 0 ≤ g ∧ g ≤ 4294967297 ∧ 0 ≤ f ∧ f < 4294967296 ∧ Hid (V = g * Y1 + f ∧ V * 4294967296 + T0 < (g + 1) * (Y1 * 4294967296 + Y0))) (fun x _ => (intOf x).toNat)
        case atStart => exact ⟨V / Y1, r2, rfl, rfl, HS2.out.2.2.1, HS2.out.2.1, by rw [HR2.out]; exact HS2.out.2.2.2.2.1, by have := HS2.out.2.2.2.2.2; rw [← HR2.out] at this; omega, Lib.hid ⟨by rw [HR2.out]; exact HS2.out.2.2.2.1, HS2.out.1⟩⟩
        case round =>
          clear HS2 HR2 hP2 hr2
          obtain ⟨g, f, rfl, rfl, q0, q1, r0, r1, HIg⟩ := hrel
          obtain ⟨R, hR⟩ : ∃ R, g * Y0 = R := ⟨_, rfl⟩
          have hgo : Hid ((4294967296 ≤ g ∨ 4294967296 * f + T0 < R) → (V * 4294967296 + T0 < (g - 1 + 1) * (Y1 * 4294967296 + Y0) ∧ V = (g - 1) * Y1 + (f + Y1))) := Lib.hid (fun h => dgo (by omega) y0 t0' (by rw [← HY.out]; exact v1) HIg.out.1 (by rw [hR]; exact h))
          by_cases hq : 4294967296 ≤ g
          · have hn := Lib.hid (hgo.out (Or.inl hq))
            by_cases hb : f + Y1 < 4294967296
            · clear hR
              go_wp2
              go_round
              case rel => exact ⟨g - 1, f + Y1, by go_num, by go_num, by omega, by omega, by omega, by omega, Lib.hid ⟨hn.out.2, hn.out.1⟩⟩
              case measure => simp [intOf]; omega
            · clear hR
              obtain ⟨kg, hk⟩ : ∃ k, g - 1 = k := ⟨_, rfl⟩
              have HF : Hid (kg * Y ≤ V * 4294967296 + T0 ∧ V * 4294967296 + T0 < (kg + 1) * Y) := Lib.hid (by
                have h := hn.out
                rw [hk] at h
                rw [HY.out]
                exact ⟨dbreak y0 y0' t0 (by omega) (by omega) h.2, h.1⟩)
              have k0 : 0 ≤ kg := by omega
              clear HIg hn hgo

              have k2 := (Lib.hid (dlt (U := V) (u := T0) (y := Y) v1 t0' (by omega) HF.out.1)).out
              obtain ⟨Z2, hZ2⟩ : ∃ Z, kg * Y = Z := ⟨_, rfl⟩
              obtain ⟨B1, b1⟩ : ∃ B1, IntKind.u64.wrap (V * 4294967296) = B1 := ⟨_, rfl⟩
              obtain ⟨B2, b2⟩ : ∃ B2, IntKind.u64.wrap (B1 + T0) = B2 := ⟨_, rfl⟩
              obtain ⟨B3, b3⟩ : ∃ B3, IntKind.u64.wrap Z2 = B3 := ⟨_, rfl⟩
              obtain ⟨W, hW⟩ : ∃ W, IntKind.u64.wrap (B2 - B3) = W := ⟨_, rfl⟩
              have hend : Hid (q * 4294967296 + kg = X / d ∧ W / 2 ^ n = X % d) := Lib.hid (by
                have hz := HF.out
                rw [succ_mul', hZ2] at hz
                have b1' := b1
                have b2' := b2
                have b3' := b3
                have hW' := hW
                simp only [IntKind.wrap_u64] at b1' b2' b3' hW'
                have hWv : W = V * 4294967296 + T0 - Z2 := by omega
                have := dboth (X := X) (y := d) (q1 := q) (q0 := kg) (s := 2 ^ n) (U := U) (u := T1) (v := T0) (un := V) Hn.out hdp HX.out (by rw [← HYd.out]; exact HV.out) (by rw [← HYd.out, hZ2]; omega) (by rw [← HYd.out, hZ2]; omega)
                rw [← HYd.out, hZ2, ← hWv] at this
                exact this)
              clear HF
              go_wp2
              go_ret2
              exact ⟨by rw [← hend.out.1, ← hend.out.2]; rfl, Below.refl _ _⟩
          · have R0 : 0 ≤ R := by rw [← hR]; exact Int.mul_nonneg q0 y0
            have R1 : R < 18446744073709551616 := by
              have a := mul_le_of g 4294967296 Y0 (by omega) y0
              omega
            by_cases hRr : 4294967296 * f + T0 < R
            · have hn := Lib.hid (hgo.out (Or.inr hRr))
              have hq1 : 1 ≤ g := by
                rcases Int.lt_or_le 0 g with h | h
                · omega
                · obtain rfl : g = 0 := by omega
                  simp at hR
                  omega
              by_cases hb : f + Y1 < 4294967296
              · skip
                go_wp2
                go_round
                case rel => exact ⟨g - 1, f + Y1, by go_num, by go_num, by omega, by omega, by omega, by omega, Lib.hid ⟨hn.out.2, hn.out.1⟩⟩
                case measure => simp [intOf]; omega
              · skip
                obtain ⟨kg, hk⟩ : ∃ k, g - 1 = k := ⟨_, rfl⟩
                have HF : Hid (kg * Y ≤ V * 4294967296 + T0 ∧ V * 4294967296 + T0 < (kg + 1) * Y) := Lib.hid (by
                  have h := hn.out
                  rw [hk] at h
                  rw [HY.out]
                  exact ⟨dbreak y0 y0' t0 (by omega) (by omega) h.2, h.1⟩)
                have k0 : 0 ≤ kg := by omega
                clear HIg hn hgo

                have k2 := (Lib.hid (dlt (U := V) (u := T0) (y := Y) v1 t0' (by omega) HF.out.1)).out
                obtain ⟨Z2, hZ2⟩ : ∃ Z, kg * Y = Z := ⟨_, rfl⟩
                obtain ⟨B1, b1⟩ : ∃ B1, IntKind.u64.wrap (V * 4294967296) = B1 := ⟨_, rfl⟩
                obtain ⟨B2, b2⟩ : ∃ B2, IntKind.u64.wrap (B1 + T0) = B2 := ⟨_, rfl⟩
                obtain ⟨B3, b3⟩ : ∃ B3, IntKind.u64.wrap Z2 = B3 := ⟨_, rfl⟩
                obtain ⟨W, hW⟩ : ∃ W, IntKind.u64.wrap (B2 - B3) = W := ⟨_, rfl⟩
                have hend : Hid (q * 4294967296 + kg = X / d ∧ W / 2 ^ n = X % d) := Lib.hid (by
                  have hz := HF.out
                  rw [succ_mul', hZ2] at hz
                  have b1' := b1
                  have b2' := b2
                  have b3' := b3
                  have hW' := hW
                  simp only [IntKind.wrap_u64] at b1' b2' b3' hW'
                  have hWv : W = V * 4294967296 + T0 - Z2 := by omega
                  have := dboth (X := X) (y := d) (q1 := q) (q0 := kg) (s := 2 ^ n) (U := U) (u := T1) (v := T0) (un := V) Hn.out hdp HX.out (by rw [← HYd.out]; exact HV.out) (by rw [← HYd.out, hZ2]; omega) (by rw [← HYd.out, hZ2]; omega)
                  rw [← HYd.out, hZ2, ← hWv] at this
                  exact this)
                clear HF
                go_wp2
                go_ret2
                exact ⟨by rw [← hend.out.1, ← hend.out.2]; rfl, Below.refl _ _⟩
            · skip
              have HF : Hid (g * Y ≤ V * 4294967296 + T0 ∧ V * 4294967296 + T0 < (g + 1) * Y) := Lib.hid (by
                rw [HY.out]
                exact ⟨dstop HIg.out.1 (by rw [hR]; omega), HIg.out.2⟩)
              clear HIg hgo

              have k2 := (Lib.hid (dlt (U := V) (u := T0) (y := Y) v1 t0' (by omega) HF.out.1)).out
              obtain ⟨Z2, hZ2⟩ : ∃ Z, g * Y = Z := ⟨_, rfl⟩
              obtain ⟨B1, b1⟩ : ∃ B1, IntKind.u64.wrap (V * 4294967296) = B1 := ⟨_, rfl⟩
              obtain ⟨B2, b2⟩ : ∃ B2, IntKind.u64.wrap (B1 + T0) = B2 := ⟨_, rfl⟩
              obtain ⟨B3, b3⟩ : ∃ B3, IntKind.u64.wrap Z2 = B3 := ⟨_, rfl⟩
              obtain ⟨W, hW⟩ : ∃ W, IntKind.u64.wrap (B2 - B3) = W := ⟨_, rfl⟩
              have hend : Hid (q * 4294967296 + g = X / d ∧ W / 2 ^ n = X % d) := Lib.hid (by
                have hz := HF.out
                rw [succ_mul', hZ2] at hz
                have b1' := b1
                have b2' := b2
                have b3' := b3
                have hW' := hW
                simp only [IntKind.wrap_u64] at b1' b2' b3' hW'
                have hWv : W = V * 4294967296 + T0 - Z2 := by omega
                have := dboth (X := X) (y := d) (q1 := q) (q0 := g) (s := 2 ^ n) (U := U) (u := T1) (v := T0) (un := V) Hn.out hdp HX.out (by rw [← HYd.out]; exact HV.out) (by rw [← HYd.out, hZ2]; omega) (by rw [← HYd.out, hZ2]; omega)
                rw [← HYd.out, hZ2, ← hWv] at this
                exact this)
              clear HF
              go_wp2
              go_ret2
              exact ⟨by rw [← hend.out.1, ← hend.out.2]; rfl, Below.refl _ _⟩
theorem maskI (a : Int) (h0 : 0 ≤ a) (h1 : a < 18446744073709551616) : bits .and .u64 a 4294967295 = a % 4294967296 := by
  obtain ⟨n, rfl⟩ := Int.eq_ofNat_of_zero_le h0
  have h := bits_and_u64_nat n 4294967295 (by omega) (by omega)
  have e : n &&& 4294967295 = n % 4294967296 := Nat.and_two_pow_sub_one_eq_mod n 32
  rw [e] at h
  exact h
theorem orI (a b : Int) (n : Nat) (ha : 0 ≤ a) (hb : 0 ≤ b) (hb' : b < 2 ^ n) (hs : a * 2 ^ n + b < 18446744073709551616) : bits .or .u64 (a * 2 ^ n) b = a * 2 ^ n + b := by
  obtain ⟨x, rfl⟩ := Int.eq_ofNat_of_zero_le ha
  obtain ⟨y, rfl⟩ := Int.eq_ofNat_of_zero_le hb
  have e : ((x : Int) * 2 ^ n) = ((2 ^ n * x : Nat) : Int) := by rw [Int.natCast_mul, Int.natCast_pow, Int.mul_comm]; rfl
  have hy : y < 2 ^ n := by
    have : ((y : Nat) : Int) < ((2 ^ n : Nat) : Int) := by rw [Int.natCast_pow]; exact hb'
    omega
  rw [e] at hs ⊢
  have h := bits_or_u64_nat (2 ^ n * x) y (by omega) (by omega)
  rw [← Nat.two_pow_add_eq_or_of_lt hy] at h
  rw [h, Int.natCast_add]
theorem powI (n : Nat) : ((2 ^ n : Nat) : Int) = (2 : Int) ^ n := by rw [Int.natCast_pow]; rfl
theorem div64_any (h l d : Int) (w : World) (h0 : 0 ≤ h) (h1 : h < d) (l0 : 0 ≤ l) (l1 : l < 18446744073709551616) (d0 : 0 < d) (d1 : d < 18446744073709551616) :
    Calls Tryd.prog 85 #[.int .u64 h, .int .u64 l, .int .u64 d] w fun e w' => e = .returned (.tuple #[.int .u64 ((h * 18446744073709551616 + l) / d), .int .u64 ((h * 18446744073709551616 + l) % d)]) ∧ Below w.heap.size w w' := by
  rcases Int.lt_or_le 0 h with hp | hp
  case inr =>
    obtain rfl : h = 0 := by omega
    rw [Int.zero_mul, Int.zero_add]
    exact div64_low l d w l0 l1 d0 d1
  obtain ⟨k1, k2, k3⟩ := Lib.bitLenAux_bounds 64 d.toNat (by omega) (by omega)
  have k4 : Lib.bitLen d.toNat ≤ 64 := Lib.bitLen_le _ 64 (by omega) (by omega)
  have hl := fun w => Tryd.bits_LeadingZeros64 d w (by omega) (by omega)
  change 1 ≤ Lib.bitLen d.toNat at k1
  change 2 ^ (Lib.bitLen d.toNat - 1) ≤ d.toNat at k2
  change d.toNat < 2 ^ Lib.bitLen d.toNat at k3
  obtain ⟨m, hm⟩ : ∃ m, Lib.bitLen d.toNat = m := ⟨_, rfl⟩
  rw [hm] at k1 k2 k3 k4 hl
  clear hm
  obtain ⟨n, hn⟩ : ∃ n, n + m = 64 := ⟨64 - m, by omega⟩
  rw [show (64 : Int) - (m : Int) = (n : Int) by omega] at hl
  have E1 : (2 : Int) ^ n * 2 ^ m = 18446744073709551616 := by rw [← Int.pow_add, hn]; rfl
  have E2 : (2 : Int) ^ m = 2 ^ (m - 1) * 2 := by rw [← Int.pow_succ]; congr 1; omega
  have E3 : (2 : Int) ^ (m - 1) ≤ d := by have := powI (m - 1); omega
  have E4 : d < (2 : Int) ^ m := by have := powI m; omega
  have c0 : (0 : Int) < 2 ^ n := Int.pow_pos (by decide)
  have b0 : (0 : Int) < 2 ^ m := Int.pow_pos (by decide)
  have n64 : n < 64 := by omega
  generalize hc : (2 : Int) ^ n = c at *
  generalize hb : (2 : Int) ^ m = b at *
  have Y2 : d * c < 18446744073709551616 := by
    have := (Int.mul_lt_mul_right c0).2 E4
    rw [Int.mul_comm b] at this
    omega
  have Y3 : 9223372036854775808 ≤ d * c := by
    have a := mul_le_of _ _ c E3 (by omega)
    have a2 : c * b = (2 : Int) ^ (m - 1) * c * 2 := by rw [E2, ← Int.mul_assoc, Int.mul_comm c]
    omega
  have Y4 : (h + 1) * c ≤ d * c := mul_le_of _ _ c (by omega) (by omega)
  rw [succ_mul'] at Y4
  have H0 : 0 ≤ h * c := Int.mul_nonneg h0 (by omega)
  have L0 : 0 ≤ l / b := Int.ediv_nonneg l0 (by omega)
  have L1 : l / b < c := Int.ediv_lt_of_lt_mul b0 (by rw [E1]; exact l1)
  have L2 := Int.mul_ediv_add_emod l b
  have L3 := Int.emod_nonneg l (show b ≠ 0 by omega)
  have L4 := Int.emod_lt_of_pos l b0
  have R0 : 0 ≤ l % b * c := Int.mul_nonneg L3 (by omega)
  have R1 : l % b * c < 18446744073709551616 := by
    have := (Int.mul_lt_mul_right c0).2 L4
    rw [Int.mul_comm b] at this
    omega
  have R2 : l * c = l / b * 18446744073709551616 + l % b * c := by
    have : l * c = (b * (l / b) + l % b) * c := by rw [L2]
    rw [this, Int.add_mul, ← E1, Int.mul_comm b, Int.mul_assoc, Int.mul_comm b c]
  have TT : l * c % 18446744073709551616 = l % b * c := by omega
  have e6 := orI h (l / b) n h0 L0 (by rw [hc]; exact L1) (by rw [hc]; omega)
  rw [hc] at e6
  have hY : d * c = d * c / 4294967296 * 4294967296 + d * c % 4294967296 := by omega
  have q0 : 0 ≤ (h * c + l / b) / (d * c / 4294967296) := Int.ediv_nonneg (by omega) (by omega)
  refine div64_high h l d w hp h1 n m hn n64 hl (d * c) (d * c / 4294967296) (d * c % 4294967296) (h * c) (l / b) (h * c + l / b) (l % b * c) (l % b * c / 4294967296) (l % b * c % 4294967296)
    ((h * c + l / b) / (d * c / 4294967296)) _ ((h * c + l / b) / (d * c / 4294967296) * (d * c / 4294967296))
    (by rw [hc, IntKind.wrap_u64]; omega) rfl (maskI _ (by omega) (by omega)) (by rw [hc, IntKind.wrap_u64]; omega) (by rw [hb]) e6 (by rw [hc, IntKind.wrap_u64]; exact TT) rfl (maskI _ R0 R1)
    rfl rfl rfl (Int.mul_nonneg q0 (by omega)) (Int.ediv_mul_le _ (by omega)) (by omega) (by omega) (by omega) (by omega) (by omega) (by omega) hY (by rw [hc]) ?_ (by omega) (by omega) (by omega) (by omega) (by omega)
  rw [hc]
  have z : (h * 18446744073709551616 + l) * c = h * c * 18446744073709551616 + l * c := by rw [Int.add_mul, Int.mul_right_comm]
  rw [z]
  omega
end Nm
end Go.Proofs.YtpddkchnogfjkaaDoor
