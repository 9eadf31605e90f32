/- The order of values goes through thirds; OrderTotal answers true for every three values and every list. -/
import Derived.Test.YtkmfoclhhnhkdaaOdSort2
namespace Go.Proofs.Ytkmfoclhhnhkdaa
open Go.RowKit
namespace Od
open _root_.Go.Proofs.Ytkmfoclhhnhkdaa.Nm _root_.Go.Proofs.Ytkmfoclhhnhkdaa.Jv
theorem up_up {c s : Int} {m : Nat} (hs : s ≤ m) (hm : m ≤ 9) : up c s 9 = up c s m * ((10 ^ (9 - m) : Nat) : Int) := by
  unfold up
  rw [Int.mul_assoc, ← Int.natCast_mul, ← Nat.pow_add]
  congr 3
  omega
theorem mul_ltI {a b k : Int} (hk : 0 < k) : a * k < b * k ↔ a < b := Int.mul_lt_mul_right hk
theorem mul_eqI {a b k : Int} (hk : 0 < k) : a * k = b * k ↔ a = b := Int.mul_eq_mul_right_iff (by omega)
theorem cmp_scale {x y k : Int} (hk : 0 < k) : cmpI (x * k) (y * k) = cmpI x y := by
  unfold cmpI
  by_cases h : x = y
  · rw [if_pos h, if_pos (by rw [h])]
  · rw [if_neg h, if_neg (fun e => h ((mul_eqI hk).1 e))]
    by_cases h2 : x < y
    · rw [if_pos h2, if_pos ((mul_ltI hk).2 h2)]
    · rw [if_neg h2, if_neg (fun e => h2 ((mul_ltI hk).1 e))]
theorem mx_le {ca sa cb sb : Int} (ia : isB ca sa = true) (ib : isB cb sb = true) : sa ≤ mx sa sb ∧ sb ≤ mx sa sb ∧ mx sa sb ≤ 9 := by
  rw [isB_iff] at ia ib
  unfold mx; omega
theorem cmp_nine {ca sa cb sb : Int} (ia : isB ca sa = true) (ib : isB cb sb = true) : cmpI (up ca sa (mx sa sb)) (up cb sb (mx sa sb)) = cmpI (up ca sa 9) (up cb sb 9) := by
  obtain ⟨h1, h2, h3⟩ := mx_le ia ib
  rw [up_up h1 h3, up_up h2 h3]
  exact (cmp_scale (by have : 0 < 10 ^ (9 - mx sa sb) := Nat.pow_pos (by decide); omega)).symm
theorem cmp_form (x y : Int) : cmpI x y = -1 ∧ x < y ∨ cmpI x y = 0 ∧ x = y ∨ cmpI x y = 1 ∧ y < x := by
  unfold cmpI
  by_cases h : x = y
  · simp [h]
  · by_cases h2 : x < y
    · simp [h, h2]
    · simp [h, h2]; omega
/-- what a first one is against a second one, that one against a third one, and the first one against the third one -/
def Tr (a c d : Int) : Prop := a ≤ 0 → c ≤ 0 → (a = 0 ∧ c = 0 ∧ d = 0) ∨ ((a < 0 ∨ c < 0) ∧ d < 0)
theorem sgn_form (a b : Int) : sgn a b = -1 ∧ a < b ∨ sgn a b = 0 ∧ a = b ∨ sgn a b = 1 ∧ b < a := by
  unfold sgn
  by_cases h1 : a < b
  · rw [if_pos h1]; exact Or.inl ⟨rfl, h1⟩
  · rw [if_neg h1]
    by_cases h2 : b < a
    · rw [if_pos h2]; exact Or.inr (Or.inr ⟨rfl, h2⟩)
    · rw [if_neg h2]; exact Or.inr (Or.inl ⟨rfl, by omega⟩)
theorem sgn_tr (x y z : Int) : Tr (sgn x y) (sgn y z) (sgn x z) := by
  intro h1 h2
  rcases sgn_form x y with ⟨e1, f1⟩ | ⟨e1, f1⟩ | ⟨e1, f1⟩ <;> rcases sgn_form y z with ⟨e2, f2⟩ | ⟨e2, f2⟩ | ⟨e2, f2⟩ <;> rcases sgn_form x z with ⟨e3, f3⟩ | ⟨e3, f3⟩ | ⟨e3, f3⟩ <;> omega
theorem tx_form (a b : ByteArray) : txC a b = -1 ∧ ltB a b = true ∨ txC a b = 0 ∧ a = b ∨ txC a b = 1 ∧ ltB b a = true := by
  unfold txC
  by_cases h1 : ltB a b = true
  · rw [if_pos h1]; exact Or.inl ⟨rfl, h1⟩
  · rw [if_neg h1]
    by_cases h2 : a = b
    · rw [if_pos h2]; exact Or.inr (Or.inl ⟨rfl, h2⟩)
    · rw [if_neg h2]; exact Or.inr (Or.inr ⟨rfl, (ltB_total h2).resolve_left h1⟩)
theorem txC_lt {a b : ByteArray} (h : ltB a b = true) : txC a b = -1 := by unfold txC; rw [if_pos h]
theorem txC_self (a : ByteArray) : txC a a = 0 := by unfold txC; rw [if_neg (by rw [ltB_irrefl]; decide), if_pos rfl]
theorem txC_tr (x y z : ByteArray) : Tr (txC x y) (txC y z) (txC x z) := by
  intro h1 h2
  rcases tx_form x y with ⟨e1, f1⟩ | ⟨e1, f1⟩ | ⟨e1, f1⟩
  · rcases tx_form y z with ⟨e2, f2⟩ | ⟨e2, f2⟩ | ⟨e2, f2⟩
    · have := txC_lt (ltB_trans f1 f2); omega
    · subst f2; omega
    · omega
  · subst f1
    rw [txC_self] at h1 ⊢
    omega
  · omega
theorem nmC_tr (a b c d e f : Int) : Tr (nmC a b c d) (nmC c d e f) (nmC a b e f) := by
  unfold nmC
  rw [cmp_nine (cl_is a b) (cl_is c d), cmp_nine (cl_is c d) (cl_is e f), cmp_nine (cl_is a b) (cl_is e f)]
  intro h1 h2
  rcases cmp_form (up (clC a b) (clS a b) 9) (up (clC c d) (clS c d) 9) with ⟨e1, f1⟩ | ⟨e1, f1⟩ | ⟨e1, f1⟩ <;> rcases cmp_form (up (clC c d) (clS c d) 9) (up (clC e f) (clS e f) 9) with ⟨e2, f2⟩ | ⟨e2, f2⟩ | ⟨e2, f2⟩ <;> rcases cmp_form (up (clC a b) (clS a b) 9) (up (clC e f) (clS e f) 9) with ⟨e3, f3⟩ | ⟨e3, f3⟩ | ⟨e3, f3⟩ <;> omega
theorem ksC_tr : ∀ ts us vs : List ByteArray, Tr (ksC ts us) (ksC us vs) (ksC ts vs)
  | [], [], [] => fun _ _ => Or.inl ⟨rfl, rfl, rfl⟩
  | [], [], v :: vs => fun _ _ => Or.inr ⟨Or.inr (by simp [ksC]), by simp [ksC]⟩
  | [], u :: us, [] => fun _ h => absurd h (by simp [ksC])
  | [], u :: us, v :: vs => fun _ _ => Or.inr ⟨Or.inl (by simp [ksC]), by simp [ksC]⟩
  | t :: ts, [], vs => fun h _ => absurd h (by simp [ksC])
  | t :: ts, u :: us, [] => fun _ h => absurd h (by simp [ksC])
  | t :: ts, u :: us, v :: vs => by
    have h0 := txC_tr t u v
    have h1 := ksC_tr ts us vs
    rw [ksC, ksC, ksC]
    unfold Tr at h0 h1 ⊢
    intro ha hc
    by_cases q1 : txC t u = 0
    · by_cases q2 : txC u v = 0
      · have q3 : txC t v = 0 := by rcases h0 (by omega) (by omega) with h | h <;> omega
        rw [if_pos q1] at ha ⊢
        rw [if_pos q2] at hc ⊢
        rw [if_pos q3]
        exact h1 ha hc
      · rw [if_neg q2] at hc ⊢
        rcases h0 (by omega) hc with h | h
        · omega
        · rw [if_neg (show ¬ txC t v = 0 by omega)]
          right
          exact ⟨Or.inr (by omega), h.2⟩
    · rw [if_neg q1] at ha ⊢
      by_cases q2 : txC u v = 0
      · rcases h0 ha (by omega) with h | h
        · omega
        · rw [if_neg (show ¬ txC t v = 0 by omega)]
          right
          exact ⟨Or.inl (by omega), h.2⟩
      · rw [if_neg q2] at hc ⊢
        rcases h0 ha hc with h | h
        · omega
        · rw [if_neg (show ¬ txC t v = 0 by omega)]
          right
          exact ⟨Or.inl (by omega), h.2⟩
theorem inj1 {x y : Int} {M N : Nat} (h : some (x, M) = some (y, N)) : x = y := (Prod.mk.inj (Option.some.inj h)).1
mutual
theorem cmpV_tr : ∀ (t u v : JV) (L1 L2 L3 : Nat) (a c d : Int) (M1 M2 M3 : Nat), cmpV t u L1 = some (a, M1) → cmpV u v L2 = some (c, M2) → cmpV t v L3 = some (d, M3) → Tr a c d
  | .mk k c0 s st is ks, u, v, 0, L2, L3, a, c, d, M1, M2, M3, h, _, _ => by simp [cmpV] at h
  | .mk k c0 s st is ks, u, v, L1 + 1, 0, L3, a, c, d, M1, M2, M3, _, h, _ => by rw [cmpV_zero] at h; cases h
  | .mk k c0 s st is ks, u, v, L1 + 1, L2 + 1, 0, a, c, d, M1, M2, M3, _, _, h => by rw [cmpV_zero] at h; cases h
  | .mk k c0 s st is ks, u, v, L1 + 1, L2 + 1, L3 + 1, a, c, d, M1, M2, M3, h1, h2, h3 => by
    have hl0 := cmpL_tr is u.items v.items
    obtain ⟨t, ht⟩ : ∃ t, JV.mk k c0 s st is ks = t := ⟨_, rfl⟩
    have hi : is = t.items := by rw [← ht]; rfl
    rw [hi] at hl0
    rw [ht] at h1 h3
    clear ht hi
    rw [cmpV_is] at h1 h2 h3
    by_cases q1 : rk t.k = rk u.k
    · rw [if_pos q1] at h1
      by_cases q2 : rk u.k = rk v.k
      · rw [if_pos q2] at h2
        rw [if_pos (q1.trans q2)] at h3
        have e3 := rk_same q1 (m := 3) (by decide) (by decide)
        have e4 := rk_same q1 (m := 4) (by decide) (by decide)
        have e5 := rk_same q1 (m := 5) (by decide) (by decide)
        have e6 := rk_same q1 (m := 6) (by decide) (by decide)
        have e7 := rk_same q1 (m := 7) (by decide) (by decide)
        by_cases p1 : t.k = 3
        · rw [if_pos p1] at h1 h3
          rw [if_pos (e3.1 p1)] at h2
          rw [← inj1 h1, ← inj1 h2, ← inj1 h3]
          exact nmC_tr _ _ _ _ _ _
        rw [if_neg p1] at h1 h3
        rw [if_neg (fun h => p1 (e3.2 h))] at h2
        by_cases p2 : t.k = 4 ∨ t.k = 7
        · have p2' : u.k = 4 ∨ u.k = 7 := by rw [← e4, ← e7]; exact p2
          rw [if_pos p2] at h1 h3
          rw [if_pos p2'] at h2
          rw [← inj1 h1, ← inj1 h2, ← inj1 h3]
          exact txC_tr _ _ _
        have p2' : ¬ (u.k = 4 ∨ u.k = 7) := by rw [← e4, ← e7]; exact p2
        rw [if_neg p2] at h1 h3
        rw [if_neg p2'] at h2
        by_cases p3 : t.k = 5
        · rw [if_pos p3] at h1 h3
          rw [if_pos (e5.1 p3)] at h2
          exact hl0 _ _ _ _ _ _ _ _ _ h1 h2 h3
        rw [if_neg p3] at h1 h3
        rw [if_neg (fun h => p3 (e5.2 h))] at h2
        by_cases p4 : t.k = 6
        · rw [if_pos p4] at h1 h3
          rw [if_pos (e6.1 p4)] at h2
          have hk := ksC_tr t.keys u.keys v.keys
          by_cases z1 : ksC t.keys u.keys = 0
          · rw [if_pos z1] at h1
            by_cases z2 : ksC u.keys v.keys = 0
            · rw [if_pos z2] at h2
              have z3 : ksC t.keys v.keys = 0 := by rcases hk (by omega) (by omega) with h | h <;> omega
              rw [if_pos z3] at h3
              exact hl0 _ _ _ _ _ _ _ _ _ h1 h2 h3
            · rw [if_neg z2] at h2
              have i2 := inj1 h2
              intro ha hc
              rcases hk (by omega) (by omega) with h | h
              · omega
              · rw [if_neg (show ¬ ksC t.keys v.keys = 0 by omega)] at h3
                have i3 := inj1 h3
                exact Or.inr ⟨Or.inr (by omega), by omega⟩
          · rw [if_neg z1] at h1
            have i1 := inj1 h1
            intro ha hc
            by_cases z2 : ksC u.keys v.keys = 0
            · rcases hk (by omega) (by omega) with h | h
              · omega
              · rw [if_neg (show ¬ ksC t.keys v.keys = 0 by omega)] at h3
                have i3 := inj1 h3
                exact Or.inr ⟨Or.inl (by omega), by omega⟩
            · rw [if_neg z2] at h2
              have i2 := inj1 h2
              rcases hk (by omega) (by omega) with h | h
              · omega
              · rw [if_neg (show ¬ ksC t.keys v.keys = 0 by omega)] at h3
                have i3 := inj1 h3
                exact Or.inr ⟨Or.inl (by omega), by omega⟩
        · rw [if_neg p4] at h1 h3
          rw [if_neg (fun h => p4 (e6.2 h))] at h2
          exact fun _ _ => Or.inl ⟨(inj1 h1).symm, (inj1 h2).symm, (inj1 h3).symm⟩
      · rw [if_neg q2] at h2
        rw [if_neg (fun h => q2 (q1.symm.trans h)), q1] at h3
        have i2 := inj1 h2
        have i3 := inj1 h3
        intro ha hc
        rcases sgn_form (rk u.k) (rk v.k) with ⟨f1, f2⟩ | ⟨f1, f2⟩ | ⟨f1, f2⟩
        · exact Or.inr ⟨Or.inr (by omega), by omega⟩
        · exact absurd f2 q2
        · omega
    · rw [if_neg q1] at h1
      have i1 := inj1 h1
      intro ha hc
      by_cases q2 : rk u.k = rk v.k
      · rw [if_neg (fun h => q1 (h.trans q2.symm)), ← q2] at h3
        have i3 := inj1 h3
        rcases sgn_form (rk t.k) (rk u.k) with ⟨f1, f2⟩ | ⟨f1, f2⟩ | ⟨f1, f2⟩
        · exact Or.inr ⟨Or.inl (by omega), by omega⟩
        · exact absurd f2 q1
        · omega
      · rw [if_neg q2] at h2
        have i2 := inj1 h2
        rcases sgn_tr (rk t.k) (rk u.k) (rk v.k) (by omega) (by omega) with h | h
        · rcases sgn_form (rk t.k) (rk u.k) with ⟨f1, f2⟩ | ⟨f1, f2⟩ | ⟨f1, f2⟩ <;> omega
        · have q3 : ¬ rk t.k = rk v.k := fun e => by
            rcases sgn_form (rk t.k) (rk v.k) with ⟨f1, f2⟩ | ⟨f1, f2⟩ | ⟨f1, f2⟩ <;> omega
          rw [if_neg q3] at h3
          have i3 := inj1 h3
          exact Or.inr ⟨by omega, by omega⟩
theorem cmpL_tr : ∀ (ts us vs : List JV) (L1 L2 L3 : Nat) (a c d : Int) (M1 M2 M3 : Nat), cmpL ts us L1 = some (a, M1) → cmpL us vs L2 = some (c, M2) → cmpL ts vs L3 = some (d, M3) → Tr a c d
  | [], [], [], L1, L2, L3, a, c, d, M1, M2, M3, h1, h2, h3 => by
    rw [cmpL] at h1 h2 h3
    have i1 := inj1 h1
    have i2 := inj1 h2
    have i3 := inj1 h3
    rw [if_pos rfl] at i1 i2 i3
    exact fun _ _ => Or.inl ⟨i1.symm, i2.symm, i3.symm⟩
  | [], [], v :: vs, L1, L2, L3, a, c, d, M1, M2, M3, h1, h2, h3 => by
    rw [cmpL] at h1 h2 h3
    have i2 := inj1 h2
    have i3 := inj1 h3
    rw [if_neg (by simp)] at i2 i3
    exact fun _ _ => Or.inr ⟨Or.inr (by omega), by omega⟩
  | [], u :: us, [], L1, L2, L3, a, c, d, M1, M2, M3, h1, h2, h3 => by
    rw [cmpL] at h2
    have i2 := inj1 h2
    intro _ hc
    omega
  | [], u :: us, v :: vs, L1, L2, L3, a, c, d, M1, M2, M3, h1, h2, h3 => by
    rw [cmpL] at h1 h3
    have i1 := inj1 h1
    have i3 := inj1 h3
    rw [if_neg (by simp)] at i1 i3
    exact fun _ _ => Or.inr ⟨Or.inl (by omega), by omega⟩
  | t :: ts, [], vs, L1, L2, L3, a, c, d, M1, M2, M3, h1, h2, h3 => by
    rw [cmpL] at h1
    have i1 := inj1 h1
    intro ha _
    omega
  | t :: ts, u :: us, [], L1, L2, L3, a, c, d, M1, M2, M3, h1, h2, h3 => by
    rw [cmpL] at h2
    have i2 := inj1 h2
    intro _ hc
    omega
  | t :: ts, u :: us, v :: vs, L1, L2, L3, a, c, d, M1, M2, M3, h1, h2, h3 => by
    have hv := cmpV_tr t u v L1 L2 L3
    have hl := cmpL_tr ts us vs
    rw [cmpL] at h1 h2 h3
    cases g1 : cmpV t u L1 with
    | none => rw [g1] at h1; cases h1
    | some p1 =>
    cases g2 : cmpV u v L2 with
    | none => rw [g2] at h2; cases h2
    | some p2 =>
    cases g3 : cmpV t v L3 with
    | none => rw [g3] at h3; cases h3
    | some p3 =>
    obtain ⟨a0, N1⟩ := p1
    obtain ⟨c0, N2⟩ := p2
    obtain ⟨d0, N3⟩ := p3
    have h0 := hv a0 c0 d0 N1 N2 N3 g1 g2 g3
    rw [g1] at h1
    rw [g2] at h2
    rw [g3] at h3
    simp only at h1 h2 h3
    unfold Tr at h0
    by_cases z1 : a0 = 0
    · rw [if_pos z1] at h1
      by_cases z2 : c0 = 0
      · rw [if_pos z2] at h2
        have z3 : d0 = 0 := by rcases h0 (by omega) (by omega) with h | h <;> omega
        rw [if_pos z3] at h3
        exact hl _ _ _ _ _ _ _ _ _ h1 h2 h3
      · rw [if_neg z2] at h2
        have i2 := inj1 h2
        intro ha hc
        rcases h0 (by omega) (by omega) with h | h
        · omega
        · rw [if_neg (show ¬ d0 = 0 by omega)] at h3
          have i3 := inj1 h3
          exact Or.inr ⟨Or.inr (by omega), by omega⟩
    · rw [if_neg z1] at h1
      have i1 := inj1 h1
      intro ha hc
      by_cases z2 : c0 = 0
      · rcases h0 (by omega) (by omega) with h | h
        · omega
        · rw [if_neg (show ¬ d0 = 0 by omega)] at h3
          have i3 := inj1 h3
          exact Or.inr ⟨Or.inl (by omega), by omega⟩
      · rw [if_neg z2] at h2
        have i2 := inj1 h2
        rcases h0 (by omega) (by omega) with h | h
        · omega
        · rw [if_neg (show ¬ d0 = 0 by omega)] at h3
          have i3 := inj1 h3
          exact Or.inr ⟨Or.inl (by omega), by omega⟩
end
theorem cmpR_tr {t u v : JV} (h1 : (cmpR t u).2 = true) (h2 : (cmpR u v).2 = true) (h3 : (cmpR t v).2 = true) : Tr (cmpR t u).1 (cmpR u v).1 (cmpR t v).1 := by
  have key : ∀ x y : JV, (cmpR x y).2 = true → ∃ M, cmpV x y 4096 = some ((cmpR x y).1, M) := fun x y h => by
    unfold cmpR at h ⊢
    cases hq : cmpV x y 4096 with
    | none => rw [hq] at h; cases h
    | some p => exact ⟨p.2, rfl⟩
  obtain ⟨M1, g1⟩ := key t u h1
  obtain ⟨M2, g2⟩ := key u v h2
  obtain ⟨M3, g3⟩ := key t v h3
  exact cmpV_tr t u v 4096 4096 4096 _ _ _ M1 M2 M3 g1 g2 g3
theorem cmpR_self (t : JV) : (cmpR t t).1 = 0 := by
  have h := cmpR_neg t t
  have h1 := congrArg Prod.fst h
  simp only at h1
  omega
def Bo (c : Int) : Prop := -1 ≤ c ∧ c ≤ 1
theorem ksC_bd : ∀ ts us : List ByteArray, Bo (ksC ts us)
  | [], [] => by simp [ksC, Bo]
  | [], _ :: _ => by simp [ksC, Bo]
  | _ :: _, [] => by simp [ksC, Bo]
  | t :: ts, u :: us => by
    rw [ksC]
    by_cases h : txC t u = 0
    · rw [if_pos h]; exact ksC_bd ts us
    · rw [if_neg h]
      unfold Bo
      rcases tx_form t u with ⟨e, _⟩ | ⟨e, _⟩ | ⟨e, _⟩ <;> omega
mutual
theorem cmpV_bd : ∀ (t u : JV) (L : Nat) (c : Int) (M : Nat), cmpV t u L = some (c, M) → Bo c
  | .mk k c s st is ks, u, 0, c', M, h => by simp [cmpV] at h
  | .mk k c s st is ks, u, L + 1, c', M, h => by
    have hl := cmpL_bd is u.items L c' M
    have fin : ∀ x : Int, Bo x → some (x, L) = some (c', M) → Bo c' := fun x hx h => by rw [← inj1 h]; exact hx
    rw [cmpV] at h
    by_cases q0 : rk k = rk u.k
    · rw [if_pos q0] at h
      by_cases q1 : k = 3
      · rw [if_pos q1] at h
        refine fin _ ?_ h
        unfold nmC Bo
        rcases cmp_form (up (clC c s) (clS c s) (mx (clS c s) (clS u.c u.s))) (up (clC u.c u.s) (clS u.c u.s) (mx (clS c s) (clS u.c u.s))) with ⟨e, _⟩ | ⟨e, _⟩ | ⟨e, _⟩ <;> omega
      rw [if_neg q1] at h
      by_cases q2 : k = 4 ∨ k = 7
      · rw [if_pos q2] at h
        refine fin _ ?_ h
        unfold Bo
        rcases tx_form st u.st with ⟨e, _⟩ | ⟨e, _⟩ | ⟨e, _⟩ <;> omega
      rw [if_neg q2] at h
      by_cases q3 : k = 5
      · rw [if_pos q3] at h; exact hl h
      rw [if_neg q3] at h
      by_cases q4 : k = 6
      · rw [if_pos q4] at h
        by_cases q5 : ksC ks u.keys = 0
        · rw [if_pos q5] at h; exact hl h
        · rw [if_neg q5] at h; exact fin _ (ksC_bd _ _) h
      · rw [if_neg q4] at h; exact fin _ (by unfold Bo; omega) h
    · rw [if_neg q0] at h
      refine fin _ ?_ h
      unfold Bo
      rcases sgn_form (rk k) (rk u.k) with ⟨e, _⟩ | ⟨e, _⟩ | ⟨e, _⟩ <;> omega
theorem cmpL_bd : ∀ (ts us : List JV) (L : Nat) (c : Int) (M : Nat), cmpL ts us L = some (c, M) → Bo c
  | [], us, L, c, M, h => by
    rw [cmpL] at h
    have := inj1 h
    unfold Bo
    split at this <;> omega
  | _ :: _, [], L, c, M, h => by
    rw [cmpL] at h
    have := inj1 h
    unfold Bo
    omega
  | t :: ts, u :: us, L, c, M, h => by
    rw [cmpL] at h
    have h1 := cmpV_bd t u L
    have h2 := cmpL_bd ts us
    cases hr : cmpV t u L with
    | none => rw [hr] at h; cases h
    | some p =>
      obtain ⟨c1, M1⟩ := p
      rw [hr] at h
      have := h1 c1 M1 hr
      simp only at h
      by_cases q : c1 = 0
      · rw [if_pos q] at h; exact h2 M1 c M h
      · rw [if_neg q] at h; rw [← inj1 h]; exact this
end
theorem cmpR_bd (t u : JV) : Bo (cmpR t u).1 := by
  unfold cmpR
  cases hq : cmpV t u 4096 with
  | none => exact ⟨by decide, by decide⟩
  | some p => exact cmpV_bd t u 4096 p.1 p.2 hq
set_option maxRecDepth 100000 in
set_option maxHeartbeats 4000000 in
theorem samel_any (v v' : Value) (l l' : List Six) (ts : List JV) (w : World) (hv : Vs w v l) (hv' : Vs w v' l') (hl : l.length = ts.length) (hl' : l'.length = ts.length) (ht : ∀ (j : Nat) (y : Six) (z : JV), l[j]? = some y → ts[j]? = some z → ∃ n, VT w n y z) (ht2 : ∀ (j : Nat) (y : Six) (z : JV), l'[j]? = some y → ts[j]? = some z → ∃ n, VT w n y z) :
    Calls Try.prog 20 #[v, v'] w fun e w' => e = .returned (.bool true) ∧ Below w.heap.size w w' := by
  have hm1 : l.length ≤ maxLen := by obtain ⟨_, _, q1, q2, q3, _⟩ := hv; omega
  unfold maxLen at hm1
  obtain ⟨ao, cap, rfl, hc, h⟩ := hv.form
  obtain ⟨ao', cap', rfl, hc', h'⟩ := hv'.form
  have H := Lib.hid h
  have H' := Lib.hid h'
  have HL := Lib.hid hl
  have HT := Lib.hid ht
  have HT2 := Lib.hid ht2
  have q1 : l.length ≤ l'.length := by omega
  have q2 : l'.length ≤ l.length := by omega
  have q3 : ((l.length : Int) != (l'.length : Int)) = false := by simp; omega
  have q4 : ((l.length : Int) == (l'.length : Int)) = true := by simp; omega
  clear h h' hl hl' ht ht2 hv hv'
  go_enter Try.func20, Try.ntmps20
  go_wp2
  go_loopw [5] (fun iv wr => ∃ j : Nat, iv = .int .i64 (j : Nat) ∧ j ≤ l.length ∧ Hid (Below w.heap.size w wr)) (fun iv _ => l.length - (intOf iv).toNat)
  case atStart => exact ⟨0, rfl, by omega, Lib.hid (Below.refl _ _)⟩
  case round =>
    obtain ⟨j, rfl, hj, HB⟩ := hrel
    by_cases hlt : j < l.length
    · obtain ⟨y1, hy1⟩ : ∃ x, l[j]? = some x := ⟨_, List.getElem?_eq_getElem hlt⟩
      obtain ⟨y2, hy2⟩ : ∃ x, l'[j]? = some x := ⟨_, List.getElem?_eq_getElem (by omega)⟩
      obtain ⟨t1, ht1⟩ : ∃ x, ts[j]? = some x := ⟨_, List.getElem?_eq_getElem (by have := HL.out; omega)⟩
      obtain ⟨g, o, rfl, hg, hcl⟩ := H.out (by omega)
      obtain ⟨g', o', rfl, hg', hcl'⟩ := H'.out (by omega)
      have A1 := (hcl j y1 hy1).on hg HB.out
      have A2 := (hcl' j y2 hy2).on hg' HB.out
      obtain ⟨n, hvt⟩ := HT.out j y1 t1 hy1 ht1
      obtain ⟨m, hvt2⟩ := HT2.out j y2 t1 hy2 ht1
      have hsm := rsame_any n m y1 y2 t1 t1 wr.drew (VT.on HB.out.drew n hvt) (VT.on HB.out.drew m hvt2)
      rw [sameB_refl] at hsm
      obtain ⟨k1, k2, k3, k4, k5, k6⟩ := y1
      obtain ⟨m1, m2, m3, m4, m5, m6⟩ := y2
      obtain ⟨c0, c1, c2, c3, c4, c5⟩ := A1
      obtain ⟨a0, a1, a2, a3, a4, a5⟩ := A2
      unfold Six.val vV at hsm
      simp only at hsm c0 c1 c2 c3 c4 c5 a0 a1 a2 a3 a4 a5
      have HSM := Lib.hid hsm
      have i1 : (j : Int) < (l.length : Int) := by omega
      have i2 : (j : Int) < (l'.length : Int) := by omega
      clear hcl hcl' hy1 hy2 ht1 hvt hvt2 H H' hsm
      go_wp2
      go_still_tail 8, (by kernel_rfl)
      change wpList _ _ _ _ _ wr.drew
      go_wp2_with (go_at_call 12; refine HSM.out.mono ?_; rintro e w1 ⟨rfl, b1⟩; have HB1 := Lib.hid (bT HB.out.drew b1); clear b1)
      go_roundw
      case rel => exact ⟨j + 1, by go_num, by omega, HB1⟩
      case measure => simp [intOf]; omega
    · go_wp2
      go_ret
      exact ⟨rfl, HB.out⟩
/-- a box of three values -/
def B3 (w : World) (k : Nat) (x0 x1 x2 : Six) : Prop := w.heap[k]? = some (.cells #[.int .i64 x0.k, .int .i64 x0.c, .int .i64 x0.s, .string x0.st, x0.iv, x0.kv, .int .i64 x1.k, .int .i64 x1.c, .int .i64 x1.s, .string x1.st, x1.iv, x1.kv, .int .i64 x2.k, .int .i64 x2.c, .int .i64 x2.s, .string x2.st, x2.iv, x2.kv] 42 (0, 0))
theorem B3.on {w w' : World} {k : Nat} {x0 x1 x2 : Six} (h : B3 w k x0 x1 x2) (hb : Below w.heap.size w w') : B3 w' k x0 x1 x2 := (hb.block k (Array.getElem?_eq_some_iff.1 h).1).trans h
theorem B3.cells {w : World} {k : Nat} {x0 x1 x2 : Six} (h : B3 w k x0 x1 x2) : (w.cell? ⟨k, 0, none⟩ = some (.int .i64 x0.k) ∧ w.cell? ⟨k, 1, none⟩ = some (.int .i64 x0.c) ∧ w.cell? ⟨k, 2, none⟩ = some (.int .i64 x0.s) ∧ w.cell? ⟨k, 3, none⟩ = some (.string x0.st) ∧ w.cell? ⟨k, 4, none⟩ = some x0.iv ∧ w.cell? ⟨k, 5, none⟩ = some x0.kv) ∧ (w.cell? ⟨k, 6, none⟩ = some (.int .i64 x1.k) ∧ w.cell? ⟨k, 7, none⟩ = some (.int .i64 x1.c) ∧ w.cell? ⟨k, 8, none⟩ = some (.int .i64 x1.s) ∧ w.cell? ⟨k, 9, none⟩ = some (.string x1.st) ∧ w.cell? ⟨k, 10, none⟩ = some x1.iv ∧ w.cell? ⟨k, 11, none⟩ = some x1.kv) ∧ w.cell? ⟨k, 12, none⟩ = some (.int .i64 x2.k) ∧ w.cell? ⟨k, 13, none⟩ = some (.int .i64 x2.c) ∧ w.cell? ⟨k, 14, none⟩ = some (.int .i64 x2.s) ∧ w.cell? ⟨k, 15, none⟩ = some (.string x2.st) ∧ w.cell? ⟨k, 16, none⟩ = some x2.iv ∧ w.cell? ⟨k, 17, none⟩ = some x2.kv :=
  ⟨⟨cell_of_row w k 0 _ _ _ h, cell_of_row w k 1 _ _ _ h, cell_of_row w k 2 _ _ _ h, cell_of_row w k 3 _ _ _ h, cell_of_row w k 4 _ _ _ h, cell_of_row w k 5 _ _ _ h⟩, ⟨cell_of_row w k 6 _ _ _ h, cell_of_row w k 7 _ _ _ h, cell_of_row w k 8 _ _ _ h, cell_of_row w k 9 _ _ _ h, cell_of_row w k 10 _ _ _ h, cell_of_row w k 11 _ _ _ h⟩, cell_of_row w k 12 _ _ _ h, cell_of_row w k 13 _ _ _ h, cell_of_row w k 14 _ _ _ h, cell_of_row w k 15 _ _ _ h, cell_of_row w k 16 _ _ _ h, cell_of_row w k 17 _ _ _ h⟩
theorem B3.row {w : World} {k : Nat} {x0 x1 x2 : Six} (h : B3 w k x0 x1 x2) : Vs w (.slice (some ⟨k, 0, none⟩) 3 3) [x0, x1, x2] := by
  obtain ⟨g0, g1, g2⟩ := h.cells
  refine ⟨some ⟨k, 0, none⟩, 3, rfl, by simp, by decide, (fun h => by cases h), fun _ => ⟨k, 0, rfl, (Array.getElem?_eq_some_iff.1 h).1, fun j z hj => ?_⟩⟩
  match j, hj with
  | 0, hj => obtain rfl := Option.some.inj hj; exact g0
  | 1, hj => obtain rfl := Option.some.inj hj; exact g1
  | 2, hj => obtain rfl := Option.some.inj hj; exact g2
set_option maxRecDepth 100000 in
set_option maxHeartbeats 16000000 in
theorem total_any (n : Nat) (x0 x1 x2 : Six) (t0 t1 t2 : JV) (v : Value) (l : List Six) (ts : List JV) (w : World) (hx0 : VT w n x0 t0) (hx1 : VT w n x1 t1) (hx2 : VT w n x2 t2) (hv : Vs w v l) (hl : l.length = ts.length) (ht : ∀ (j : Nat) (y : Six) (z : JV), l[j]? = some y → ts[j]? = some z → ∃ n, VT w n y z) :
    Calls Try.prog 6 #[.agg #[.int .i64 x0.k, .int .i64 x0.c, .int .i64 x0.s, .string x0.st, x0.iv, x0.kv, .int .i64 x1.k, .int .i64 x1.c, .int .i64 x1.s, .string x1.st, x1.iv, x1.kv, .int .i64 x2.k, .int .i64 x2.c, .int .i64 x2.s, .string x2.st, x2.iv, x2.kv], v] w fun e w' => e = .returned (.bool true) ∧ Below w.heap.size w w' := by
  have hm1 : l.length ≤ maxLen := by obtain ⟨_, _, q1, q2, q3, _⟩ := hv; omega
  unfold maxLen at hm1
  have hc0 := fun wx (h : Below w.heap.size w wx) => compare_any n n x0 x1 t0 t1 wx (VT.on h n hx0) (VT.on h n hx1)
  have hc1 := fun wx (h : Below w.heap.size w wx) => compare_any n n x1 x0 t1 t0 wx (VT.on h n hx1) (VT.on h n hx0)
  have hc2 := fun wx (h : Below w.heap.size w wx) => compare_any n n x1 x2 t1 t2 wx (VT.on h n hx1) (VT.on h n hx2)
  have hc3 := fun wx (h : Below w.heap.size w wx) => compare_any n n x0 x2 t0 t2 wx (VT.on h n hx0) (VT.on h n hx2)
  have hc4 := fun wx (h : Below w.heap.size w wx) => compare_any n n x0 x0 t0 t0 wx (VT.on h n hx0) (VT.on h n hx0)
  have hr1 := cmpR_neg t0 t1
  have htr := fun h1 h2 h3 => cmpR_tr (t := t0) (u := t1) (v := t2) h1 h2 h3
  have hself := cmpR_self t0
  have hbo := cmpR_bd t0 t1
  obtain ⟨a, ha⟩ : ∃ a, (cmpR t0 t1).1 = a := ⟨_, rfl⟩
  obtain ⟨x, hx⟩ : ∃ a, (cmpR t0 t1).2 = a := ⟨_, rfl⟩
  obtain ⟨c, hc⟩ : ∃ a, (cmpR t1 t2).1 = a := ⟨_, rfl⟩
  obtain ⟨z, hz⟩ : ∃ a, (cmpR t1 t2).2 = a := ⟨_, rfl⟩
  obtain ⟨d, hd⟩ : ∃ a, (cmpR t0 t2).1 = a := ⟨_, rfl⟩
  obtain ⟨y, hy⟩ : ∃ a, (cmpR t0 t2).2 = a := ⟨_, rfl⟩
  obtain ⟨u, hu⟩ : ∃ a, (cmpR t0 t0).2 = a := ⟨_, rfl⟩
  rw [hr1] at hc1
  simp only [ha, hx] at hc0 hc1
  simp only [hc, hz] at hc2
  simp only [hd, hy] at hc3
  simp only [hself, hu] at hc4
  rw [ha, hx, hc, hz, hd, hy] at htr
  rw [ha] at hbo
  have hab : -1 ≤ a := hbo.1
  have hab2 : a ≤ 1 := hbo.2
  unfold Six.val vV at hc0 hc1 hc2 hc3 hc4
  have HC0 := Lib.hid hc0
  have HC1 := Lib.hid hc1
  have HC2 := Lib.hid hc2
  have HC3 := Lib.hid hc3
  have HC4 := Lib.hid hc4
  have HTR := Lib.hid htr
  have hlg1 := fun wx (h : Below w.heap.size w wx) (hb : B3 wx w.heap.size x0 x1 x2) => light07_any (.slice (some ⟨w.heap.size, 0, none⟩) 3 3) [x0, x1, x2] [t0, t1, t2] wx hb.row rfl (fun j p q hp hq => by
    match j, hp, hq with
    | 0, hp, hq => obtain rfl := Option.some.inj hp; obtain rfl := Option.some.inj hq; exact ⟨n, VT.on h n hx0⟩
    | 1, hp, hq => obtain rfl := Option.some.inj hp; obtain rfl := Option.some.inj hq; exact ⟨n, VT.on h n hx1⟩
    | 2, hp, hq => obtain rfl := Option.some.inj hp; obtain rfl := Option.some.inj hq; exact ⟨n, VT.on h n hx2⟩)
  have hlg2 := fun wx (h : Below w.heap.size w wx) => light07_any v l ts wx (hv.on h) hl (fun j y z h1 h2 => by obtain ⟨n, hh⟩ := ht j y z h1 h2; exact ⟨n, VT.on h n hh⟩)
  have hso := fun wx (h : Below w.heap.size w wx) (hn : l.length ≤ 12) => sort_any v l ts wx (hv.on h) hl (fun j y z h1 h2 => by obtain ⟨n, hh⟩ := ht j y z h1 h2; exact ⟨n, VT.on h n hh⟩) hn
  obtain ⟨bo, bcap, rfl, _, _⟩ := hv.form
  have HLG1 := Lib.hid hlg1
  have HLG2 := Lib.hid hlg2
  have HSO := Lib.hid hso
  have HL := Lib.hid hl
  have HB0 : Hid (Below w.heap.size w (w.alloc (Obj.cells #[.int .i64 x0.k, .int .i64 x0.c, .int .i64 x0.s, .string x0.st, x0.iv, x0.kv, .int .i64 x1.k, .int .i64 x1.c, .int .i64 x1.s, .string x1.st, x1.iv, x1.kv, .int .i64 x2.k, .int .i64 x2.c, .int .i64 x2.s, .string x2.st, x2.iv, x2.kv] 42))) := Lib.hid (bA1 _ _)
  have HQ0 : Hid (B3 (w.alloc (Obj.cells #[.int .i64 x0.k, .int .i64 x0.c, .int .i64 x0.s, .string x0.st, x0.iv, x0.kv, .int .i64 x1.k, .int .i64 x1.c, .int .i64 x1.s, .string x1.st, x1.iv, x1.kv, .int .i64 x2.k, .int .i64 x2.c, .int .i64 x2.s, .string x2.st, x2.iv, x2.kv] 42)) w.heap.size x0 x1 x2) := Lib.hid (heap_alloc_new w _)
  clear hbo hlg1 hlg2 hso hl ht hv hc0 hc1 hc2 hc3 hc4 htr hr1 hself ha hx hc hz hd hy hu hx0 hx1 hx2
  go_enter Try.func6, Try.ntmps6
  go_upto_if 26 with (first
    | (go_at_call 15; have _ := HBa; refine (HLG2.out _ HBa.out).mono ?_; rintro e wb ⟨lb, rfl, hlb, bb⟩; have HLB := Lib.hid hlb; have HBb := Lib.hid (bT HBa.out bb); have HQb := Lib.hid (HQa.out.on bb); clear hlb bb)
    | (go_at_call 15; refine (HLG1.out _ HB0.out HQ0.out).mono ?_; rintro e wa ⟨la, rfl, _, ba⟩; have HBa := Lib.hid (bT HB0.out ba); have HQa := Lib.hid (HQ0.out.on ba); clear ba; cases la))
  · go_wp2_with (go_at_call 16; refine (lives07_any _).mono ?_; rintro e w9 ⟨rfl, b9⟩)
    go_ret
    exact ⟨rfl, bT HBa.out b9⟩
  cases lb
  · go_wp2_with (go_at_call 16; refine (lives07_any _).mono ?_; rintro e w9 ⟨rfl, b9⟩)
    go_ret
    exact ⟨rfl, bT HBb.out b9⟩
  have hn12 := HLB.out rfl
  have HB := HBb
  have HQ := HQb
  clear HLB HLG1 HLG2 HBa HQa HB0 HQ0 HBb HQb
  obtain ⟨⟨c0_0, c0_1, c0_2, c0_3, c0_4, c0_5⟩, ⟨c0_6, c0_7, c0_8, c0_9, c0_10, c0_11⟩, c0_12, c0_13, c0_14, c0_15, c0_16, c0_17⟩ := HQ.out.cells
  go_upto_region 8 with (first
    | (go_at_call 23; have _ := b4; (fail_if_success have _ := b5); refine (HC4.out _ HB4.out).mono ?_; rintro e w5 ⟨rfl, b5⟩; have HB5 := Lib.hid (bT HB4.out b5); have HQ5 := Lib.hid (HQ4.out.on b5); obtain ⟨⟨c5_0, c5_1, c5_2, c5_3, c5_4, c5_5⟩, ⟨c5_6, c5_7, c5_8, c5_9, c5_10, c5_11⟩, c5_12, c5_13, c5_14, c5_15, c5_16, c5_17⟩ := HQ5.out.cells)
    | (go_at_call 23; have _ := b3; (fail_if_success have _ := b4); refine (HC3.out _ HB3.out).mono ?_; rintro e w4 ⟨rfl, b4⟩; have HB4 := Lib.hid (bT HB3.out b4); have HQ4 := Lib.hid (HQ3.out.on b4); obtain ⟨⟨c4_0, c4_1, c4_2, c4_3, c4_4, c4_5⟩, ⟨c4_6, c4_7, c4_8, c4_9, c4_10, c4_11⟩, c4_12, c4_13, c4_14, c4_15, c4_16, c4_17⟩ := HQ4.out.cells)
    | (go_at_call 23; have _ := b2; (fail_if_success have _ := b3); refine (HC2.out _ HB2.out).mono ?_; rintro e w3 ⟨rfl, b3⟩; have HB3 := Lib.hid (bT HB2.out b3); have HQ3 := Lib.hid (HQ2.out.on b3); obtain ⟨⟨c3_0, c3_1, c3_2, c3_3, c3_4, c3_5⟩, ⟨c3_6, c3_7, c3_8, c3_9, c3_10, c3_11⟩, c3_12, c3_13, c3_14, c3_15, c3_16, c3_17⟩ := HQ3.out.cells)
    | (go_at_call 23; have _ := b1; (fail_if_success have _ := b2); refine (HC1.out _ HB1.out).mono ?_; rintro e w2 ⟨rfl, b2⟩; have HB2 := Lib.hid (bT HB1.out b2); have HQ2 := Lib.hid (HQ1.out.on b2); obtain ⟨⟨c2_0, c2_1, c2_2, c2_3, c2_4, c2_5⟩, ⟨c2_6, c2_7, c2_8, c2_9, c2_10, c2_11⟩, c2_12, c2_13, c2_14, c2_15, c2_16, c2_17⟩ := HQ2.out.cells)
    | (go_at_call 23; (fail_if_success have _ := b1); refine (HC0.out _ HB.out).mono ?_; rintro e w1 ⟨rfl, b1⟩; have HB1 := Lib.hid (bT HB.out b1); have HQ1 := Lib.hid (HQ.out.on b1); obtain ⟨⟨c1_0, c1_1, c1_2, c1_3, c1_4, c1_5⟩, ⟨c1_6, c1_7, c1_8, c1_9, c1_10, c1_11⟩, c1_12, c1_13, c1_14, c1_15, c1_16, c1_17⟩ := HQ1.out.cells))
  clear b1 b2 b3 b4 b5 HB1 HB2 HB3 HB4 HQ1 HQ2 HQ3 HQ4 HQ5 HQ HC0 HC1 HC2 HC3 HC4 c0_0 c0_1 c0_2 c0_3 c0_4 c0_5 c0_6 c0_7 c0_8 c0_9 c0_10 c0_11 c0_12 c0_13 c0_14 c0_15 c0_16 c0_17 c1_0 c1_1 c1_2 c1_3 c1_4 c1_5 c1_6 c1_7 c1_8 c1_9 c1_10 c1_11 c1_12 c1_13 c1_14 c1_15 c1_16 c1_17 c2_0 c2_1 c2_2 c2_3 c2_4 c2_5 c2_6 c2_7 c2_8 c2_9 c2_10 c2_11 c2_12 c2_13 c2_14 c2_15 c2_16 c2_17 c3_0 c3_1 c3_2 c3_3 c3_4 c3_5 c3_6 c3_7 c3_8 c3_9 c3_10 c3_11 c3_12 c3_13 c3_14 c3_15 c3_16 c3_17 c4_0 c4_1 c4_2 c4_3 c4_4 c4_5 c4_6 c4_7 c4_8 c4_9 c4_10 c4_11 c4_12 c4_13 c4_14 c4_15 c4_16 c4_17 c5_0 c5_1 c5_2 c5_3 c5_4 c5_5 c5_6 c5_7 c5_8 c5_9 c5_10 c5_11 c5_12 c5_13 c5_14 c5_15 c5_16 c5_17
  have hn1 : (a != - -a) = false := by simp
  have hn2 : (x != x) = false := by simp
  have hn3 : (a != a) = false := by simp
  go_cut [116] (fun s wx => s = .bool false ∧ w5 = wx)
  case first =>
    by_cases hxyz : x = true ∧ z = true ∧ y = true
    · obtain ⟨rfl, rfl, rfl⟩ := hxyz
      have htr := HTR.out rfl rfl rfl
      by_cases p1 : 0 < a
      · have g1 : decide (a ≤ 0) = false := decide_eq_false (by omega)
        have g2 : decide (a < 0) = false := decide_eq_false (by omega)
        clear htr
        cases u
        · go_wp2
          go_meet
          exact ⟨rfl, rfl⟩
        · go_wp2
          go_meet
          exact ⟨rfl, rfl⟩
      have g1 : decide (a ≤ 0) = true := decide_eq_true (by omega)
      by_cases p2 : 0 < c
      · have g3 : decide (c ≤ 0) = false := decide_eq_false (by omega)
        clear htr
        by_cases p3 : a < 0
        · cases u
          · go_wp2
            go_meet
            exact ⟨rfl, rfl⟩
          · go_wp2
            go_meet
            exact ⟨rfl, rfl⟩
        · have g2 : decide (a < 0) = false := decide_eq_false p3
          cases u
          · go_wp2
            go_meet
            exact ⟨rfl, rfl⟩
          · go_wp2
            go_meet
            exact ⟨rfl, rfl⟩
      rcases htr (by omega) (by omega) with ⟨rfl, rfl, rfl⟩ | ⟨_, h2⟩
      · cases u
        · go_wp2
          go_meet
          exact ⟨rfl, rfl⟩
        · go_wp2
          go_meet
          exact ⟨rfl, rfl⟩
      · have g4 : decide (0 < d) = false := decide_eq_false (by omega)
        have g5 : (d == 0) = false := by rw [beq_eq_false_iff_ne]; omega
        by_cases p3 : a < 0
        · cases u
          · go_wp2
            go_meet
            exact ⟨rfl, rfl⟩
          · go_wp2
            go_meet
            exact ⟨rfl, rfl⟩
        · have g2 : decide (a < 0) = false := decide_eq_false p3
          cases u
          · go_wp2
            go_meet
            exact ⟨rfl, rfl⟩
          · go_wp2
            go_meet
            exact ⟨rfl, rfl⟩
    · clear HTR
      cases u <;> cases x <;> cases z <;> cases y
      all_goals first
        | exact absurd ⟨rfl, rfl, rfl⟩ hxyz
        | (go_wp2
           go_meet
           exact ⟨rfl, rfl⟩)
  case rest =>
  obtain ⟨rfl, rfl⟩ := hcut
  clear HTR hn1 hn2 hn3
  go_upto_region 11 with (go_at_call 17; refine (HSO.out _ HB5.out hn12).mono ?_; rintro e w6 ⟨ao, nn, cap, ok, rfl, hsr⟩; have HSR := Lib.hid hsr; clear hsr)
  have HB6 := Lib.hid (bT HB5.out HSR.out.1)
  cases ok with
  | false =>
    have he := HSR.out.2.1 rfl
    injection he with e1 e2 e3
    subst e1 e2 e3
    have hs2 := sort_any (.slice none 0 0) [] [] w6 (Vs.nil0 w6) rfl (fun j y z h => by simp at h) (by decide)
    have HS2 := Lib.hid hs2
    clear HSR HSO hs2
    go_wp2_with (first | (go_at_call 16; refine (lives07_any _).mono ?_; rintro e w9 ⟨rfl, b9⟩) | (go_at_call 17; refine HS2.out.mono ?_; rintro e w7 ⟨ao2, n2, cap2, ok2, rfl, hsr2⟩; have HB7 := Lib.hid (bT HB6.out hsr2.1); clear hsr2))
    go_ret
    exact ⟨rfl, bT HB7.out b9⟩
  | true =>
  obtain ⟨l', ts', hv', hl', ht', hp, hch, _⟩ := HSR.out.2.2.2 rfl
  have hll : l'.length = l.length := by rw [hl', hp.length_eq]; exact HL.out.symm
  have hs2 := sort_any (.slice ao nn cap) l' ts' w6 hv' hl' ht' (by omega)
  obtain ⟨ao', cap', he, _, _⟩ := hv'.form
  injection he with e1 e2 e3
  subst e1 e2 e3
  have HV := Lib.hid hv'
  have HT := Lib.hid ht'
  have HLL := Lib.hid hl'
  have HCH := Lib.hid hch
  have HS2 := Lib.hid hs2
  have hq1 : ((l'.length : Int) == (l.length : Int)) = true := by rw [hll]; simp
  clear hv' hl' ht' hp hch hs2 hll HSR HSO
  go_upto_region 12 with (go_at_call 17; refine HS2.out.mono ?_; rintro e w7 ⟨ao2, n2, cap2, ok2, rfl, hsr2⟩; have HSR2 := Lib.hid hsr2; clear hsr2)
  have HB7 := Lib.hid (bT HB6.out HSR2.out.1)
  obtain rfl := HSR2.out.2.2.1 HCH.out
  obtain ⟨l2, ts2, hv2, hl2, ht2, _, _, hsame⟩ := HSR2.out.2.2.2 rfl
  obtain rfl := hsame HCH.out
  have hsm := samel_any (.slice ao l'.length cap) (.slice ao2 n2 cap2) l' l2 ts2 w7 (HV.out.on HSR2.out.1) hv2 HLL.out hl2 (fun j y z h1 h2 => by obtain ⟨n, hh⟩ := HT.out j y z h1 h2; exact ⟨n, VT.on HSR2.out.1 n hh⟩) ht2
  have HSM := Lib.hid hsm
  clear hsm hv2 hl2 ht2 hsame HSR2 HS2 HV HT HLL HCH
  go_wp2_with (first | (go_at_call 16; refine (lives07_any _).mono ?_; rintro e w9 ⟨rfl, b9⟩) | (go_at_call 20; refine HSM.out.mono ?_; rintro e w8 ⟨rfl, b8⟩; have HB8 := Lib.hid (bT HB7.out b8); clear b8))
  go_ret
  exact ⟨rfl, bT HB8.out b9⟩
end Od
end Go.Proofs.Ytkmfoclhhnhkdaa
