/- Powers of ten, which numbers may be, and the number that holds one of 128 bits at a scale. -/
import Derived.Test.YtpddkchnogfjkaaDoorNmProd
import Derived.Deep.LoopGhost
import Derived.Deep.Cut
import Derived.Deep.DeepCutAuto
namespace Go.Proofs.YtpddkchnogfjkaaDoor
open Go.RowKit
namespace Nm
theorem tenI (k : Nat) (h : k ≤ 18) : (1 : Int) ≤ ((10 ^ k : Nat) : Int) ∧ ((10 ^ k : Nat) : Int) ≤ 1000000000000000000 := by
  have a : 10 ^ k ≤ 10 ^ 18 := Nat.pow_le_pow_right (by decide) h
  have b : 0 < 10 ^ k := Nat.pow_pos (by decide)
  omega
set_option maxRecDepth 100000 in
theorem ten_any (n : Nat) (w : World) (hn : n ≤ 18) :
    Calls Tryd.prog 45 #[.int .i64 (n : Int)] w fun e w' => e = .returned (.int .i64 ((10 ^ n : Nat) : Int)) ∧ w = w' := by
  obtain ⟨P, hP⟩ : ∃ P : Int, ((10 ^ n : Nat) : Int) = P := ⟨_, rfl⟩
  rw [hP]
  have HP := Lib.hid hP
  clear hP
  go_enter Tryd.func45, Tryd.ntmps45
  go_wp2
  go_loop [3, 5] (fun p i => ∃ (k : Nat) (x : Int), i = .int .i64 (k : Int) ∧ p = .int .i64 x ∧ k ≤ n ∧ Hid (x = ((10 ^ k : Nat) : Int))) (fun _ i => n - (intOf i).toNat)
  case atStart => exact ⟨0, 1, rfl, rfl, by omega, Lib.hid rfl⟩
  case round =>
    obtain ⟨k, x, rfl, rfl, hk, HX⟩ := hrel
    by_cases hlt : k < n
    · have b := tenI k (by omega)
      rw [← HX.out] at b
      obtain ⟨b1, b2⟩ := b
      have c : x ≤ 100000000000000000 := by
        have a : 10 ^ k ≤ 10 ^ 17 := Nat.pow_le_pow_right (by decide) (by omega)
        have := HX.out
        omega
      go_wp2
      go_round
      case rel => exact ⟨k + 1, x * 10, by go_num, by go_num, by omega, Lib.hid (by rw [HX.out, Nat.pow_succ, Int.natCast_mul]; rfl)⟩
      case measure => simp [intOf]; omega
    · obtain rfl : k = n := by omega
      go_wp2
      go_ret
      exact ⟨by rw [← HP.out, ← HX.out]; rfl, rfl⟩
/-- a number -/
def nv (c s : Int) : Value := .agg #[.int .i64 c, .int .i64 s]
/-- may a number be? -/
def isB (c s : Int) : Bool := decide ((0 ≤ s ∧ s ≤ 9) ∧ (-1000000000000000 < c ∧ c < 1000000000000000) ∧ (s = 0 ∨ c.tmod 10 ≠ 0))
/-- noughts struck off, as many as the scale allows -/
def strip : Nat → Nat → Nat × Nat
  | 0, c => (c, 0)
  | s + 1, c => if c % 10 = 0 then strip s (c / 10) else (c, s + 1)
/-- the number that holds x by ten to the power of -s -/
def hold (x : Int) (s : Nat) : Option (Int × Nat) :=
  if 9 < (strip s x.natAbs).2 ∨ 1000000000000000 ≤ (strip s x.natAbs).1 then none
  else some (if x < 0 then -((strip s x.natAbs).1 : Int) else ((strip s x.natAbs).1 : Int), (strip s x.natAbs).2)
/-- a number, or that there is none -/
def ans : Option (Int × Nat) → Value
  | some (c, s) => .tuple #[nv c s, .int .i64 0]
  | none => .tuple #[nv 0 0, .int .i64 8]
/-- a block of two cells -/
def Bx (w : World) (k : Nat) (x y : Value) : Prop := w.cell? ⟨k, 0, none⟩ = some x ∧ w.cell? ⟨k, 1, none⟩ = some y ∧ w.frozen? ⟨k, 0, none⟩ = false ∧ w.frozen? ⟨k, 1, none⟩ = false
theorem Bx.on {a b : World} {k : Nat} {x y : Value} (h : Bx a k x y) (hb : Below a.heap.size a b) : Bx b k x y := boxed hb k x y h.1 h.2.1 h.2.2.1 h.2.2.2
theorem Bx.alloc {a : World} {k : Nat} {x y : Value} (h : Bx a k x y) (o : Obj) : Bx (a.alloc o) k x y := h.on (bA1 a o)
theorem Bx.far {a : World} {k : Nat} {x y : Value} (h : Bx a k x y) {p : Addr} (hp : p.block ≠ k) (v : Value) : Bx (a.setCell p v) k x y := by
  refine ⟨?_, ?_, ?_, ?_⟩
  · rw [World.cell?_setCell_far _ _ _ _ hp]; exact h.1
  · rw [World.cell?_setCell_far _ _ _ _ hp]; exact h.2.1
  · rw [World.frozen?_setCell]; exact h.2.2.1
  · rw [World.frozen?_setCell]; exact h.2.2.2
theorem Bx.put {a : World} {k : Nat} {x y : Value} (h : Bx a k x y) (v1 v2 : Value) : Bx ((a.setCell ⟨k, 0, none⟩ v1).setCell ⟨k, 1, none⟩ v2) k v1 v2 := by
  have n1 : (⟨k, 0, none⟩ : Addr) ≠ ⟨k, 1, none⟩ := by simp
  have n2 : (⟨k, 1, none⟩ : Addr) ≠ ⟨k, 0, none⟩ := by simp
  have e : (a.setCell ⟨k, 0, none⟩ v1).cell? ⟨k, 1, none⟩ = some y := by rw [World.cell?_setCell_other (h := n1)]; exact h.2.1
  refine ⟨?_, World.cell?_setCell_same _ _ _ e, ?_, ?_⟩
  · rw [World.cell?_setCell_other (h := n2)]; exact World.cell?_setCell_same _ _ _ h.1
  · rw [World.frozen?_setCell, World.frozen?_setCell]; exact h.2.2.1
  · rw [World.frozen?_setCell, World.frozen?_setCell]; exact h.2.2.2
theorem strip_end {t c : Nat} (h : t = 0 ∨ c % 10 ≠ 0) : strip t c = (c, t) := by
  cases t with
  | zero => rfl
  | succ t => unfold strip; rw [if_neg (by omega)]
theorem strip_go {t c : Nat} (h : c % 10 = 0) (ht : 0 < t) : strip (t - 1) (c / 10) = strip t c := by
  obtain ⟨t, rfl⟩ : ∃ k, t = k + 1 := ⟨t - 1, by omega⟩
  conv => rhs; unfold strip
  rw [if_pos h]; rfl
/-- a number's halves -/
def Hl (c : Nat) (p q : Int) : Prop := wd (c : Int) = .agg #[.int .u64 p, .int .u64 q] ∧ (c : Int) = p * 18446744073709551616 + q ∧ 0 ≤ p ∧ 0 ≤ q ∧ q < 18446744073709551616
theorem Hl.mk' (c : Nat) (h : c < 340282366920938463463374607431768211456) : ∃ p q, Hl c p q := by
  refine ⟨(c : Int) / 18446744073709551616, (c : Int) % 18446744073709551616, (wd_eq (by omega) (by omega)).symm, ?_, ?_, ?_, ?_⟩ <;> omega
set_option maxRecDepth 100000 in
set_option maxHeartbeats 4000000 in
theorem held_any (x : Int) (s : Nat) (w : World) (x0 : -170141183460469231731687303715884105728 ≤ x) (x1 : x < 170141183460469231731687303715884105728) (hs : s ≤ 30) :
    Calls Tryd.prog 43 #[wd x, .int .i64 (s : Int)] w fun e w' => e = .returned (ans (hold x s)) ∧ Below w.heap.size w w' := by
  have hsz := fun w => size_wd x w x0 x1
  have hn := fun w => negative_wd x w x0 x1
  obtain ⟨N, hN⟩ : ∃ N, x.natAbs = N := ⟨_, rfl⟩
  have hN1 : N < 340282366920938463463374607431768211456 := by omega
  obtain ⟨p0, q0, HP0⟩ := Hl.mk' N hN1
  rw [hN, HP0.1] at hsz
  have HN := Lib.hid hN
  have HN1 := Lib.hid hN1
  have HH0 := Lib.hid HP0
  have HX := Lib.hid (And.intro x0 x1)
  clear hN hN1 HP0 x0 x1
  obtain ⟨a, b, hA⟩ := wd_form x
  rw [hA] at hsz hn ⊢
  clear hA
  go_enter Tryd.func43, Tryd.ntmps43
  go_wp2_with (go_at_call 66; refine (hsz _).mono ?_; rintro e w1 ⟨rfl, b1⟩; obtain ⟨c0, c1, f0, f1⟩ := boxed b1 w.heap.size (.int .u64 a) (.int .u64 b) (by simp [go_sem]) (by simp [go_sem]) (by simp [go_sem]) (by simp [go_sem]); obtain ⟨d0, d1, g0, g1⟩ := boxed b1 (w.heap.size + 1) (.int .i64 0) (.int .i64 0) (by simp [go_sem]) (by simp [go_sem]) (by simp [go_sem]) (by simp [go_sem]))
  have hk : w.heap.size + 2 ≤ w1.heap.size := by have := b1.size; simp at this; omega
  have bw := bT (bA2 _ _ _) b1
  go_loopw [1, 7, 8] (fun sl _ _ wr => ∃ (t c : Nat) (p q : Int), sl = .int .i64 (t : Int) ∧ t ≤ s ∧ c ≤ N ∧ Hid (Hl c p q) ∧ Hid (strip t c = strip s N) ∧ Bx wr w.heap.size (.int .u64 a) (.int .u64 b) ∧ Bx wr (w.heap.size + 1) (.int .i64 0) (.int .i64 0) ∧ Bx wr w1.heap.size (.int .u64 p) (.int .u64 q) ∧ Below w.heap.size w wr) (fun sl _ _ _ => (intOf sl).toNat)
  case atStart => exact ⟨s, N, p0, q0, rfl, Nat.le_refl _, Nat.le_refl _, HH0, Lib.hid rfl, Bx.alloc ⟨c0, c1, f0, f1⟩ _, Bx.alloc ⟨d0, d1, g0, g1⟩ _, ⟨by simp [go_sem], by simp [go_sem], by simp [go_sem], by simp [go_sem]⟩, bw.alloc bw.size _⟩
  case round =>
    clear c0 c1 f0 f1 d0 d1 g0 g1 HH0 hsz
    obtain ⟨t, c, p, q, rfl, ht, hc, HP, HS, ⟨c0, c1, f0, f1⟩, ⟨d0, d1, g0, g1⟩, ⟨e0, e1, i0, i1⟩, bel⟩ := hrel
    have P0 : 0 ≤ p := HP.out.2.2.1
    have Q0 : 0 ≤ q := HP.out.2.2.2.1
    by_cases t0 : t = 0
    · subst t0
      have hend : strip 0 c = (c, 0) := strip_end (Or.inl rfl)
      have D0 := d0
      have D1 := d1
      have G0 := g0
      have G1 := g1

      have hst : strip s x.natAbs = (c, 0) := by rw [HN.out, ← HS.out]; exact hend
      have HA := Lib.hid (show hold x s = if 9 < 0 ∨ 1000000000000000 ≤ c then none else some (if x < 0 then -(c : Int) else (c : Int), 0) by unfold hold; rw [hst])
      clear hst hend HS HN
      have gg1 : ¬ 9 < 0 := by omega
      by_cases g2 : p = 0
      case neg =>
        have e : Hid (hold x s = none) := Lib.hid (by rw [HA.out, if_pos (Or.inr (by have := HP.out.2; omega))])
        have g2' : (p != 0) = true := by simp; omega
        clear HA HP hn
        go_wp2
        simp [bodyPost, results, Tryd.results43, go_sem, D0, D1]
        exact ⟨by rw [e.out]; rfl, ((bel).setCell (by simp) _).setCell (by simp) _⟩
      subst g2
      by_cases g3 : 1000000000000000 ≤ q
      · have e : Hid (hold x s = none) := Lib.hid (by rw [HA.out, if_pos (Or.inr (by have := HP.out.2; omega))])
        clear HA HP hn
        go_wp2
        simp [bodyPost, results, Tryd.results43, go_sem, D0, D1]
        exact ⟨by rw [e.out]; rfl, ((bel).setCell (by simp) _).setCell (by simp) _⟩
      by_cases g4 : x < 0
      · have e : Hid (hold x s = some (-q, 0)) := Lib.hid (by have hh := HP.out.2; rw [HA.out, if_neg (by omega), if_pos g4, show (c : Int) = q by omega])
        rw [decide_eq_true g4] at hn
        clear HA HP g4
        go_wp2_with (go_at_call 68; refine (hn _).mono ?_; rintro e w4 ⟨rfl, b4⟩; obtain ⟨D0', D1', G0', G1'⟩ := boxed b4 _ _ _ D0 D1 G0 G1)
        simp [bodyPost, results, Tryd.results43, go_sem, D0', D1']
        exact ⟨by rw [e.out]; rfl, ((bT (bel) b4).setCell (by simp) _).setCell (by simp) _⟩
      · have e : Hid (hold x s = some (q, 0)) := Lib.hid (by have hh := HP.out.2; rw [HA.out, if_neg (by omega), if_neg g4, show (c : Int) = q by omega])
        rw [decide_eq_false g4] at hn
        clear HA HP g4
        go_wp2_with (go_at_call 68; refine (hn _).mono ?_; rintro e w4 ⟨rfl, b4⟩; obtain ⟨D0', D1', G0', G1'⟩ := boxed b4 _ _ _ D0 D1 G0 G1)
        simp [bodyPost, results, Tryd.results43, go_sem, D0', D1']
        exact ⟨by rw [e.out]; rfl, ((bT (bel) b4).setCell (by simp) _).setCell (by simp) _⟩
    have hov := fun w => over_any (c : Int) 10 w (by omega) (by have := HN1.out; omega) (by decide) (by decide)
    obtain ⟨p', q', hP'⟩ := Hl.mk' (c / 10) (by have := HN1.out; omega)
    rw [show (c : Int) / 10 = ((c / 10 : Nat) : Int) by omega, hP'.1, HP.out.1] at hov
    by_cases c10 : c % 10 = 0
    · rw [show (c : Int) % 10 = 0 by omega] at hov
      have hS' : Hid (strip (t - 1) (c / 10) = strip s N) := Lib.hid (by rw [strip_go c10 (by omega)]; exact HS.out)
      have HP' := Lib.hid hP'
      clear hP' HS
      go_wp2_with (go_at_call 67; refine (hov _).mono ?_; rintro e w2 ⟨rfl, b2⟩; obtain ⟨c0', c1', f0', f1'⟩ := boxed b2 _ _ _ c0 c1 f0 f1; obtain ⟨d0', d1', g0', g1'⟩ := boxed b2 _ _ _ d0 d1 g0 g1; obtain ⟨e0', e1', i0', i1'⟩ := boxed b2 _ _ _ e0 e1 i0 i1; have hk2 := kl e0')
      go_roundw
      case rel =>
        exact ⟨t - 1, c / 10, p', q', by go_num, by omega, by omega, HP', hS', ((Bx.far ⟨c0', c1', f0', f1'⟩ (by simp; omega) _).far (by simp; omega) _).alloc _, ((Bx.far ⟨d0', d1', g0', g1'⟩ (by simp; omega) _).far (by simp; omega) _).alloc _, (Bx.put ⟨e0', e1', i0', i1'⟩ _ _).alloc _, (((bT bel b2).setCell (by simp; omega) _).setCell (by simp; omega) _).alloc (by have := (bT bel b2).size; simp; omega) _⟩
      case measure => simp [intOf]; omega
    · have hend : strip t c = (c, t) := strip_end (Or.inr c10)
      obtain ⟨z, hz⟩ : ∃ z, (c : Int) % 10 = z := ⟨_, rfl⟩
      have hz' : (z != 0) = true := by simp; omega
      have hzz : (z == 0) = false := by simp; omega
      rw [hz] at hov
      clear hz c10 hP'
      have hst : strip s x.natAbs = (c, t) := by rw [HN.out, ← HS.out]; exact hend
      have HA := Lib.hid (show hold x s = if 9 < t ∨ 1000000000000000 ≤ c then none else some (if x < 0 then -(c : Int) else (c : Int), t) by unfold hold; rw [hst])
      clear hst hend HS HN
      by_cases gg1 : 9 < t
      · have e : Hid (hold x s = none) := Lib.hid (by rw [HA.out, if_pos (Or.inl gg1)])
        clear HA HP hn
        go_wp2_with ((go_at_call 67; refine (hov _).mono ?_; rintro e w2 ⟨rfl, b2⟩; obtain ⟨c0', c1', f0', f1'⟩ := boxed b2 _ _ _ c0 c1 f0 f1; obtain ⟨d0', d1', g0', g1'⟩ := boxed b2 _ _ _ d0 d1 g0 g1; obtain ⟨e0', e1', i0', i1'⟩ := boxed b2 _ _ _ e0 e1 i0 i1; have hk2 := kl e0'; obtain ⟨C0, C1, F0, F1⟩ := Bx.alloc ⟨c0', c1', f0', f1'⟩ (Obj.cells #[Value.int .u64 p', Value.int .u64 q'] 60); obtain ⟨D0, D1, G0, G1⟩ := Bx.alloc ⟨d0', d1', g0', g1'⟩ (Obj.cells #[Value.int .u64 p', Value.int .u64 q'] 60); obtain ⟨E0, E1, I0, I1⟩ := Bx.alloc ⟨e0', e1', i0', i1'⟩ (Obj.cells #[Value.int .u64 p', Value.int .u64 q'] 60)))
        simp [bodyPost, results, Tryd.results43, go_sem, D0, D1]
        exact ⟨by rw [e.out]; rfl, (((bT bel b2).alloc (bT bel b2).size _).setCell (by simp) _).setCell (by simp) _⟩
      by_cases g2 : p = 0
      case neg =>
        have e : Hid (hold x s = none) := Lib.hid (by rw [HA.out, if_pos (Or.inr (by have := HP.out.2; omega))])
        have g2' : (p != 0) = true := by simp; omega
        clear HA HP hn
        go_wp2_with ((go_at_call 67; refine (hov _).mono ?_; rintro e w2 ⟨rfl, b2⟩; obtain ⟨c0', c1', f0', f1'⟩ := boxed b2 _ _ _ c0 c1 f0 f1; obtain ⟨d0', d1', g0', g1'⟩ := boxed b2 _ _ _ d0 d1 g0 g1; obtain ⟨e0', e1', i0', i1'⟩ := boxed b2 _ _ _ e0 e1 i0 i1; have hk2 := kl e0'; obtain ⟨C0, C1, F0, F1⟩ := Bx.alloc ⟨c0', c1', f0', f1'⟩ (Obj.cells #[Value.int .u64 p', Value.int .u64 q'] 60); obtain ⟨D0, D1, G0, G1⟩ := Bx.alloc ⟨d0', d1', g0', g1'⟩ (Obj.cells #[Value.int .u64 p', Value.int .u64 q'] 60); obtain ⟨E0, E1, I0, I1⟩ := Bx.alloc ⟨e0', e1', i0', i1'⟩ (Obj.cells #[Value.int .u64 p', Value.int .u64 q'] 60)))
        simp [bodyPost, results, Tryd.results43, go_sem, D0, D1]
        exact ⟨by rw [e.out]; rfl, (((bT bel b2).alloc (bT bel b2).size _).setCell (by simp) _).setCell (by simp) _⟩
      subst g2
      by_cases g3 : 1000000000000000 ≤ q
      · have e : Hid (hold x s = none) := Lib.hid (by rw [HA.out, if_pos (Or.inr (by have := HP.out.2; omega))])
        clear HA HP hn
        go_wp2_with ((go_at_call 67; refine (hov _).mono ?_; rintro e w2 ⟨rfl, b2⟩; obtain ⟨c0', c1', f0', f1'⟩ := boxed b2 _ _ _ c0 c1 f0 f1; obtain ⟨d0', d1', g0', g1'⟩ := boxed b2 _ _ _ d0 d1 g0 g1; obtain ⟨e0', e1', i0', i1'⟩ := boxed b2 _ _ _ e0 e1 i0 i1; have hk2 := kl e0'; obtain ⟨C0, C1, F0, F1⟩ := Bx.alloc ⟨c0', c1', f0', f1'⟩ (Obj.cells #[Value.int .u64 p', Value.int .u64 q'] 60); obtain ⟨D0, D1, G0, G1⟩ := Bx.alloc ⟨d0', d1', g0', g1'⟩ (Obj.cells #[Value.int .u64 p', Value.int .u64 q'] 60); obtain ⟨E0, E1, I0, I1⟩ := Bx.alloc ⟨e0', e1', i0', i1'⟩ (Obj.cells #[Value.int .u64 p', Value.int .u64 q'] 60)))
        simp [bodyPost, results, Tryd.results43, go_sem, D0, D1]
        exact ⟨by rw [e.out]; rfl, (((bT bel b2).alloc (bT bel b2).size _).setCell (by simp) _).setCell (by simp) _⟩
      by_cases g4 : x < 0
      · have e : Hid (hold x s = some (-q, t)) := Lib.hid (by have hh := HP.out.2; rw [HA.out, if_neg (by omega), if_pos g4, show (c : Int) = q by omega])
        rw [decide_eq_true g4] at hn
        clear HA HP g4
        go_wp2_with (first | (go_at_call 67; refine (hov _).mono ?_; rintro e w2 ⟨rfl, b2⟩; obtain ⟨c0', c1', f0', f1'⟩ := boxed b2 _ _ _ c0 c1 f0 f1; obtain ⟨d0', d1', g0', g1'⟩ := boxed b2 _ _ _ d0 d1 g0 g1; obtain ⟨e0', e1', i0', i1'⟩ := boxed b2 _ _ _ e0 e1 i0 i1; have hk2 := kl e0'; obtain ⟨C0, C1, F0, F1⟩ := Bx.alloc ⟨c0', c1', f0', f1'⟩ (Obj.cells #[Value.int .u64 p', Value.int .u64 q'] 60); obtain ⟨D0, D1, G0, G1⟩ := Bx.alloc ⟨d0', d1', g0', g1'⟩ (Obj.cells #[Value.int .u64 p', Value.int .u64 q'] 60); obtain ⟨E0, E1, I0, I1⟩ := Bx.alloc ⟨e0', e1', i0', i1'⟩ (Obj.cells #[Value.int .u64 p', Value.int .u64 q'] 60)) | (go_at_call 68; refine (hn _).mono ?_; rintro e w4 ⟨rfl, b4⟩; obtain ⟨D0', D1', G0', G1'⟩ := boxed b4 _ _ _ D0 D1 G0 G1))
        simp [bodyPost, results, Tryd.results43, go_sem, D0', D1']
        exact ⟨by rw [e.out]; rfl, ((bT ((bT bel b2).alloc (bT bel b2).size _) b4).setCell (by simp) _).setCell (by simp) _⟩
      · have e : Hid (hold x s = some (q, t)) := Lib.hid (by have hh := HP.out.2; rw [HA.out, if_neg (by omega), if_neg g4, show (c : Int) = q by omega])
        rw [decide_eq_false g4] at hn
        clear HA HP g4
        go_wp2_with (first | (go_at_call 67; refine (hov _).mono ?_; rintro e w2 ⟨rfl, b2⟩; obtain ⟨c0', c1', f0', f1'⟩ := boxed b2 _ _ _ c0 c1 f0 f1; obtain ⟨d0', d1', g0', g1'⟩ := boxed b2 _ _ _ d0 d1 g0 g1; obtain ⟨e0', e1', i0', i1'⟩ := boxed b2 _ _ _ e0 e1 i0 i1; have hk2 := kl e0'; obtain ⟨C0, C1, F0, F1⟩ := Bx.alloc ⟨c0', c1', f0', f1'⟩ (Obj.cells #[Value.int .u64 p', Value.int .u64 q'] 60); obtain ⟨D0, D1, G0, G1⟩ := Bx.alloc ⟨d0', d1', g0', g1'⟩ (Obj.cells #[Value.int .u64 p', Value.int .u64 q'] 60); obtain ⟨E0, E1, I0, I1⟩ := Bx.alloc ⟨e0', e1', i0', i1'⟩ (Obj.cells #[Value.int .u64 p', Value.int .u64 q'] 60)) | (go_at_call 68; refine (hn _).mono ?_; rintro e w4 ⟨rfl, b4⟩; obtain ⟨D0', D1', G0', G1'⟩ := boxed b4 _ _ _ D0 D1 G0 G1))
        simp [bodyPost, results, Tryd.results43, go_sem, D0', D1']
        exact ⟨by rw [e.out]; rfl, ((bT ((bT bel b2).alloc (bT bel b2).size _) b4).setCell (by simp) _).setCell (by simp) _⟩
end Nm
end Go.Proofs.YtpddkchnogfjkaaDoor
