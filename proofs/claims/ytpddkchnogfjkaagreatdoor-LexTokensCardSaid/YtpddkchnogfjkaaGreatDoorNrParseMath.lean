/- What the document's Parse answers is what Parse answers (no walk in it). -/
import Derived.Test.YtpddkchnogfjkaaGreatDoorNrLine
import Derived.Test.YtpddkchnogfjkaaGreatDoorNmParse
import Derived.Test.YtpddkchnogfjkaaGreatDoorNmBackMath
namespace Go.Proofs.YtpddkchnogfjkaaGreatDoor
open Go.RowKit
namespace Nm
theorem vl_acc (t : List UInt8) : ∀ a : Nat, t.foldl (fun n b => n * 10 + (b.toNat - 48)) a = a * 10 ^ t.length + vl t := by
  induction t with
  | nil => intro a; simp [vl]
  | cons c t ih =>
    intro a
    have e : vl (c :: t) = t.foldl (fun n b => n * 10 + (b.toNat - 48)) (c.toNat - 48) := by
      show t.foldl _ (0 * 10 + (c.toNat - 48)) = _
      rw [Nat.zero_mul, Nat.zero_add]
    rw [List.foldl_cons, ih, e, ih, List.length_cons, Nat.pow_succ, Nat.add_mul]
    have h : a * 10 * 10 ^ t.length = a * (10 ^ t.length * 10) := by rw [Nat.mul_assoc, Nat.mul_comm 10]
    rw [h]
    omega
theorem vl_cons (c : UInt8) (t : List UInt8) : vl (c :: t) = (c.toNat - 48) * 10 ^ t.length + vl t := by
  have e : vl (c :: t) = t.foldl (fun n b => n * 10 + (b.toNat - 48)) (0 * 10 + (c.toNat - 48)) := rfl
  rw [e, vl_acc]; simp
theorem vl_left (l : List UInt8) : vl (Lib.trimLeftB l 48) = vl l := by
  unfold Lib.trimLeftB
  induction l with
  | nil => rfl
  | cons c t ih =>
    by_cases h : c = 48
    · subst h
      rw [List.dropWhile_cons_of_pos (by simp), ih, vl_cons]
      simp
    · rw [List.dropWhile_cons_of_neg (by simpa using h)]
theorem right_eq (l : List UInt8) : l = Lib.trimRightB l 48 ++ List.replicate (l.length - (Lib.trimRightB l 48).length) 48 := by
  unfold Lib.trimRightB
  obtain ⟨r, rfl⟩ : ∃ r, l = r.reverse := ⟨l.reverse, by simp⟩
  rw [List.reverse_reverse, List.length_reverse, List.length_reverse]
  have e1 := List.takeWhile_append_dropWhile (p := fun x => x == (48 : UInt8)) (l := r)
  have e2 : r.takeWhile (fun x => x == (48 : UInt8)) = List.replicate (r.takeWhile (fun x => x == (48 : UInt8))).length 48 := by
    refine List.eq_replicate_iff.2 ⟨rfl, fun b hb => ?_⟩
    have := mem_tw _ r b hb
    simpa using this
  have e3 : r.length - (r.dropWhile (fun x => x == (48 : UInt8))).length = (r.takeWhile (fun x => x == (48 : UInt8))).length := by
    have := congrArg List.length e1
    rw [List.length_append] at this
    omega
  rw [e3]
  conv => lhs; rw [← e1, List.reverse_append]
  conv => lhs; rw [e2, List.reverse_replicate]
theorem right_last (l : List UInt8) : ∀ b, (Lib.trimRightB l 48).getLast? = some b → b ≠ 48 := by
  intro b hb
  unfold Lib.trimRightB at hb
  rw [List.getLast?_reverse] at hb
  have := List.head?_dropWhile_not (fun x => x == (48 : UInt8)) l.reverse
  rw [hb] at this
  simpa using this
theorem left_head (l : List UInt8) : ∀ b, (Lib.trimLeftB l 48).head? = some b → b ≠ 48 := by
  intro b hb
  unfold Lib.trimLeftB at hb
  have := List.head?_dropWhile_not (fun x => x == (48 : UInt8)) l
  rw [hb] at this
  simpa using this
theorem strip_pow (d : Nat) (hd : d % 10 ≠ 0) : ∀ s z : Nat, strip s (d * 10 ^ z) = if s ≤ z then (d * 10 ^ (z - s), 0) else (d, s - z)
  | 0, z => by rw [if_pos (Nat.zero_le _)]; rfl
  | s + 1, 0 => by
    rw [if_neg (by omega), Nat.pow_zero, Nat.mul_one]
    exact strip_end (Or.inr hd)
  | s + 1, z + 1 => by
    have e : d * 10 ^ (z + 1) = 10 * (d * 10 ^ z) := by rw [Nat.pow_succ, ← Nat.mul_assoc, Nat.mul_comm]
    have e2 : strip (s + 1) (10 * (d * 10 ^ z)) = strip s (d * 10 ^ z) := by
      conv => lhs; unfold strip
      rw [if_pos (Nat.mul_mod_right 10 _), Nat.mul_div_cancel_left _ (by decide)]
    rw [e, e2, strip_pow d hd s z]
    by_cases h : s ≤ z
    · rw [if_pos h, if_pos (by omega), show z + 1 - (s + 1) = z - s by omega]
    · rw [if_neg h, if_neg (by omega), show s + 1 - (z + 1) = s - z by omega]
theorem hold_sg (b : Bool) (v s : Nat) (hv : v ≠ 0) : hold (sg b v) s = if 9 < (strip s v).2 ∨ 1000000000000000 ≤ (strip s v).1 then none else some (sg b (strip s v).1, (strip s v).2) := by
  unfold hold
  rw [abs_sg]
  have e : (if sg b v < 0 then -((strip s v).1 : Int) else ((strip s v).1 : Int)) = sg b (strip s v).1 := by
    unfold sg
    cases b
    · rw [if_neg (by simp; try omega), if_neg (by simp)]
    · rw [if_pos (by simp; omega), if_pos rfl]
  rw [e]
theorem sg_pow (b : Bool) (v k : Nat) : sg b v * ((10 ^ k : Nat) : Int) = sg b (v * 10 ^ k) := by
  unfold sg
  cases b
  · rw [if_neg (by simp), if_neg (by simp), Int.natCast_mul]
  · rw [if_pos rfl, if_pos rfl, Int.natCast_mul, Int.neg_mul]
/-- what the document's Parse answers of digits and a scale -/
def fin (b : Bool) (v : Nat) (sc : Int) : Value :=
  if v = 0 then .tuple #[nv 0 0, .int .i64 0]
  else if (sc < -20 ∧ sc < -20 - ((dgs v).length : Int)) ∨ sc < -100 then .tuple #[nv 0 0, .int .i64 8]
  else if 0 ≤ sc then ans (hold (sg b v) sc.toNat) else ans (hold (sg b v * ((10 ^ (-sc).toNat : Nat) : Int)) 0)
theorem pow15 {k : Nat} (h : 15 ≤ k) : 1000000000000000 ≤ 10 ^ k := by
  have : 10 ^ 15 ≤ 10 ^ k := Nat.pow_le_pow_right (by decide) h
  omega
theorem fin_core (b : Bool) (d z : Nat) (D : List UInt8) (sc p : Int) (hD : vl D = d) (hd : d % 10 ≠ 0) (hl : 15 < D.length → 1000000000000000 ≤ d) (hl2 : D.length ≤ 15 → d < 1000000000000000)
    (hz : z ≤ 20000) (hp : p = z - sc ∨ (sc < -50000 ∧ 50000 < p) ∨ (50000 < sc ∧ p < -50000)) : fin b (d * 10 ^ z) sc = ans (prD b D p) := by
  have hd0 : d ≠ 0 := by omega
  have hz10 : 0 < 10 ^ z := Nat.pow_pos (by decide)
  have hv : d * 10 ^ z ≠ 0 := Nat.mul_ne_zero hd0 (by omega)
  have hsgD : (if b = true then -(vl D : Int) else (vl D : Int)) = sg b d := by rw [hD]; rfl
  unfold fin prD
  rw [if_neg hv, hsgD]
  rcases hp with hp | ⟨h1, h2⟩ | ⟨h1, h2⟩
  · by_cases g1 : (sc < -20 ∧ sc < -20 - ((dgs (d * 10 ^ z)).length : Int)) ∨ sc < -100
    · rw [if_pos g1, if_pos (by omega)]; rfl
    rw [if_neg g1]
    by_cases g2 : 0 ≤ sc
    · rw [if_pos g2]
      congr 1
      obtain ⟨s, rfl⟩ := Int.eq_ofNat_of_zero_le g2
      rw [show ((s : Nat) : Int).toNat = s by omega, hold_sg _ _ _ hv, strip_pow d hd]
      by_cases g3 : s ≤ z
      · rw [if_pos g3]
        simp only
        by_cases g4 : 15 < D.length ∨ 15 < p ∨ p < -9
        · rw [if_pos g4, if_pos]
          right
          rcases g4 with g4 | g4 | g4
          · have := Nat.le_mul_of_pos_right d (Nat.pow_pos (n := z - s) (show 0 < 10 by decide))
            have := hl g4
            omega
          · have := pow15 (show 15 ≤ z - s by omega)
            have := Nat.le_mul_of_pos_left (10 ^ (z - s)) (show 0 < d by omega)
            omega
          · omega
        · rw [if_neg g4]
          have hk : p.toNat = z - s := by omega
          by_cases g5 : 0 < p
          · rw [if_pos g5, hk, sg_pow, hold_sg _ _ _ (Nat.mul_ne_zero hd0 (by have := Nat.pow_pos (n := z - s) (show 0 < 10 by decide); omega))]
            rfl
          · rw [if_neg g5, show (-p).toNat = 0 by omega, show z - s = 0 by omega, Nat.pow_zero, Nat.mul_one, hold_sg _ _ _ hd0]
            rfl
      · rw [if_neg g3]
        simp only
        by_cases g4 : 15 < D.length ∨ 15 < p ∨ p < -9
        · rw [if_pos g4, if_pos]
          rcases g4 with g4 | g4 | g4
          · right; exact hl g4
          · omega
          · left; omega
        · rw [if_neg g4, if_neg (show ¬ 0 < p by omega), show (-p).toNat = s - z by omega, hold_sg _ _ _ hd0, strip_end (Or.inr hd)]
    · rw [if_neg g2]
      congr 1
      obtain ⟨k, hk⟩ : ∃ k : Nat, (-sc).toNat = k := ⟨_, rfl⟩
      have hpz : p = (z : Int) + k := by omega
      rw [hk, sg_pow, Nat.mul_assoc, ← Nat.pow_add, hold_sg _ _ _ (Nat.mul_ne_zero hd0 (by have := Nat.pow_pos (n := z + k) (show 0 < 10 by decide); omega))]
      have e0 : strip 0 (d * 10 ^ (z + k)) = (d * 10 ^ (z + k), 0) := rfl
      rw [e0]
      simp only
      by_cases g4 : 15 < D.length ∨ 15 < p ∨ p < -9
      · rw [if_pos g4, if_pos]
        right
        rcases g4 with g4 | g4 | g4
        · have := Nat.le_mul_of_pos_right d (Nat.pow_pos (n := z + k) (show 0 < 10 by decide))
          have := hl g4
          omega
        · have := pow15 (show 15 ≤ z + k by omega)
          have := Nat.le_mul_of_pos_left (10 ^ (z + k)) (show 0 < d by omega)
          omega
        · omega
      · rw [if_neg g4, if_pos (show 0 < p by omega), show p.toNat = z + k by omega, sg_pow, hold_sg _ _ _ (Nat.mul_ne_zero hd0 (by have := Nat.pow_pos (n := z + k) (show 0 < 10 by decide); omega)), e0]
  · rw [if_pos (Or.inr (by omega)), if_pos (by omega)]; rfl
  · rw [if_neg (by omega), if_pos (by omega), if_pos (Or.inr (Or.inr (by omega)))]
    congr 1
    obtain ⟨s, rfl⟩ := Int.eq_ofNat_of_zero_le (show 0 ≤ sc by omega)
    rw [show ((s : Nat) : Int).toNat = s by omega, hold_sg _ _ _ hv, strip_pow d hd, if_neg (show ¬ s ≤ z by omega), if_pos (Or.inl (by show 9 < s - z; omega))]
/-- the power as the document's Parse reads it -/
def rcap (l : List UInt8) : Nat := l.foldl (fun n b => if n < 100000 then 10 * n + (b.toNat - 48) else n) 0
theorem rcap_snoc (l : List UInt8) (b : UInt8) : rcap (l ++ [b]) = if rcap l < 100000 then 10 * rcap l + (b.toNat - 48) else rcap l := by
  unfold rcap
  rw [List.foldl_append]
  rfl
theorem rcap_is (l : List UInt8) (h : ∀ b, b ∈ l → isD b = true) : rcap l < 1000000 ∧ (rcap l = vl l ∨ (100000 ≤ rcap l ∧ 100000 ≤ vl l)) := by
  obtain ⟨r, rfl⟩ : ∃ r, l = r.reverse := ⟨l.reverse, by simp⟩
  induction r with
  | nil => exact ⟨by simp [rcap], Or.inl (by simp [rcap, vl])⟩
  | cons b t ih =>
    rw [List.reverse_cons, rcap_snoc, vl_snoc]
    obtain ⟨h1, h2⟩ := ih (fun c hc => h c (by simp at hc ⊢; exact Or.inl hc))
    have hb : b.toNat ≤ 57 := (of_decide_eq_true (h b (by simp))).2
    split
    · refine ⟨by omega, ?_⟩
      rcases h2 with h2 | h2
      · left; rw [h2]; omega
      · omega
    · refine ⟨by omega, ?_⟩
      rcases h2 with h2 | h2
      · right; omega
      · right; omega
/-- what the document's Parse answers -/
def refP (l : List UInt8) : Value :=
  if (spl l).2 = false then .tuple #[nv 0 0, .int .i64 3] else
  fin (spl l).1.1 (vl ((spl l).1.2.2.1 ++ (spl l).1.2.2.2.1)) (((spl l).1.2.2.2.1.length : Int) - (if (spl l).1.2.1 = true then -(rcap (spl l).1.2.2.2.2 : Int) else (rcap (spl l).1.2.2.2.2 : Int)))
theorem digits_left (l : List UInt8) (h : ∀ b, b ∈ l → isD b = true) : ∀ b, b ∈ Lib.trimLeftB l 48 → isD b = true := fun b hb => h b (trimL_sub l 48 b hb)
theorem digits_right (l : List UInt8) (h : ∀ b, b ∈ l → isD b = true) : ∀ b, b ∈ Lib.trimRightB l 48 → isD b = true := fun b hb => h b (trimR_sub l 48 b hb)
theorem refP_is (l : List UInt8) (hl : l.length ≤ 5000) : refP l = prs l := by
  unfold refP prs
  by_cases hs : (spl l).2 = false
  · rw [if_pos hs, if_pos hs]
  rw [if_neg hs, if_neg hs]
  simp only
  obtain ⟨hd1, hd2, hd3⟩ := spl_dig l
  obtain ⟨hn1, hn2, hn3⟩ := spl_len l
  obtain ⟨b, hb⟩ : ∃ b, (spl l).1.1 = b := ⟨_, rfl⟩
  obtain ⟨pb, hpb⟩ : ∃ b, (spl l).1.2.1 = b := ⟨_, rfl⟩
  obtain ⟨wh, hwh⟩ : ∃ b, (spl l).1.2.2.1 = b := ⟨_, rfl⟩
  obtain ⟨fr, hfr⟩ : ∃ b, (spl l).1.2.2.2.1 = b := ⟨_, rfl⟩
  obtain ⟨pw, hpw⟩ : ∃ b, (spl l).1.2.2.2.2 = b := ⟨_, rfl⟩
  have hshf : shf (spl l).1 = (if pb = true then -((min (vl pw) 1000000000000000 : Nat) : Int) else ((min (vl pw) 1000000000000000 : Nat) : Int)) - (fr.length : Int) := by
    unfold shf; rw [hpb, hfr, hpw]
  rw [hshf, hb, hpb, hwh, hfr, hpw]
  rw [hwh] at hd1 hn1
  rw [hfr] at hd2 hn2
  rw [hpw] at hd3
  have hA : ∀ c, c ∈ wh ++ fr → isD c = true := fun c hc => (List.mem_append.1 hc).elim (hd1 c) (hd2 c)
  have hlen : (wh ++ fr).length ≤ 10000 := by rw [List.length_append]; omega
  generalize hX : wh ++ fr = X at *
  have hall := trimL_len X 48
  have hallD := digits_left X hA
  have hvX := vl_left X
  have hhead := left_head X
  generalize Lib.trimLeftB X 48 = all at *
  have hre := right_eq all
  have hrl := right_last all
  have hrD := digits_right all hallD
  generalize Lib.trimRightB all 48 = D at *
  obtain ⟨z, hz⟩ : ∃ z, all.length - D.length = z := ⟨_, rfl⟩
  rw [hz] at hre
  have hza : all.length = D.length + z := by
    have := congrArg List.length hre
    rw [List.length_append, List.length_replicate] at this
    exact this
  have hv : vl X = vl D * 10 ^ z := by rw [← hvX, hre, vl_zeros]
  have hzz : (all.length : Int) - (D.length : Int) = z := by omega
  rw [hzz, hv]
  obtain ⟨hc1, hc2⟩ := rcap_is pw hd3
  by_cases hD0 : D = []
  · subst hD0
    rw [if_pos rfl]
    unfold fin
    rw [if_pos (by simp [vl])]
  rw [if_neg hD0]
  obtain ⟨c, hcl⟩ : ∃ c, D.getLast? = some c := ⟨D.getLast hD0, List.getLast?_eq_some_getLast hD0⟩
  obtain ⟨D', rfl⟩ : ∃ D', D = D' ++ [c] := by
    obtain ⟨ys, hy⟩ := List.getLast?_eq_some_iff.1 hcl
    exact ⟨ys, hy⟩
  have hcd := of_decide_eq_true (hrD c (by simp))
  have hc48 : c.toNat ≠ 48 := fun g => hrl c hcl (UInt8.toNat_inj.1 g)
  have hd10 : vl (D' ++ [c]) % 10 ≠ 0 := by rw [vl_snoc]; omega
  have hle := vl_le (D' ++ [c]) hrD
  have hge : 10 ^ ((D' ++ [c]).length - 1) ≤ vl (D' ++ [c]) := by
    obtain ⟨e, T, hT⟩ : ∃ e T, D' ++ [c] = e :: T := by
      cases h : D' ++ [c] with
      | nil => simp at h
      | cons e T => exact ⟨e, T, rfl⟩
    have he48 : e ≠ 48 := hhead e (by rw [hre, hT]; rfl)
    have hed := of_decide_eq_true (hrD e (by rw [hT]; simp))
    have he : e.toNat ≠ 48 := fun g => he48 (UInt8.toNat_inj.1 g)
    rw [hT, vl_cons, List.length_cons, Nat.add_sub_cancel]
    have := Nat.mul_le_mul_right (10 ^ T.length) (show 1 ≤ e.toNat - 48 by omega)
    omega
  refine fin_core b (vl (D' ++ [c])) z (D' ++ [c]) _ _ rfl hd10 (fun h => ?_) (fun h => ?_) (by omega) ?_
  · have := pow15 (show 15 ≤ (D' ++ [c]).length - 1 by omega)
    omega
  · have : 10 ^ (D' ++ [c]).length ≤ 10 ^ 15 := Nat.pow_le_pow_right (by decide) h
    omega
  · rcases hc2 with hc2 | ⟨hc3, hc4⟩
    · left
      rw [hc2]
      have : min (vl pw) 1000000000000000 = vl pw := by omega
      rw [this]
      split <;> omega
    · cases pb
      · right; left
        rw [if_neg (by simp), if_neg (by simp)]
        omega
      · right; right
        rw [if_pos rfl, if_pos rfl]
        omega
end Nm
end Go.Proofs.YtpddkchnogfjkaaGreatDoor
