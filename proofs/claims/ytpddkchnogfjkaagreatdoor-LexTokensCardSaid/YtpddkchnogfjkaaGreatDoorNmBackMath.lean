/- A number's text is parsed as it (no walk in it). -/
import Derived.Test.YtpddkchnogfjkaaGreatDoorNmParse
import Derived.Test.YtpddkchnogfjkaaGreatDoorNmText
import Derived.Test.YtpddkchnogfjkaaGreatDoorNmOrdMath
namespace Go.Proofs.YtpddkchnogfjkaaGreatDoor
open Go.RowKit
namespace Nm
theorem ofN (u : Nat) (h : u < 10) : (UInt8.ofNat (48 + u)).toNat = 48 + u := by
  rw [UInt8.toNat_ofNat']; omega
theorem dec_step (n : Nat) : ∃ l, Lib.decDigits n = l ++ [UInt8.ofNat (48 + n % 10)] ∧ ((n < 10 ∧ l = []) ∨ (10 ≤ n ∧ l = Lib.decDigits (n / 10))) := by
  rw [Lib.decDigits]
  split
  · rename_i h
    exact ⟨[], by rw [Nat.mod_eq_of_lt h]; rfl, Or.inl ⟨h, rfl⟩⟩
  · rename_i h
    exact ⟨Lib.decDigits (n / 10), rfl, Or.inr ⟨by omega, rfl⟩⟩
theorem dec_all (n : Nat) : (∀ b, b ∈ Lib.decDigits n → isD b = true) ∧ vl (Lib.decDigits n) = n ∧ (0 < n → ∃ c t, Lib.decDigits n = c :: t ∧ c ≠ 48) := by
  induction n using Nat.strongRecOn with
  | _ n ih =>
    obtain ⟨l, hl, hc⟩ := dec_step n
    have hd : isD (UInt8.ofNat (48 + n % 10)) = true := decide_eq_true (by rw [ofN _ (by omega)]; omega)
    have hv : (UInt8.ofNat (48 + n % 10)).toNat - 48 = n % 10 := by rw [ofN _ (by omega)]; omega
    rcases hc with ⟨h, rfl⟩ | ⟨h, rfl⟩
    · rw [hl]
      refine ⟨fun b hb => by rw [List.mem_singleton.1 hb]; exact hd, by rw [List.nil_append]; simp only [vl, List.foldl_cons, List.foldl_nil]; rw [hv]; omega, fun h0 => ⟨_, [], rfl, fun e => ?_⟩⟩
      have := ofN (n % 10) (by omega)
      rw [e] at this
      have h48 : (48 : UInt8).toNat = 48 := rfl
      omega
    · obtain ⟨i1, i2, i3⟩ := ih (n / 10) (by omega)
      rw [hl]
      refine ⟨fun b hb => ?_, by rw [vl_snoc, i2, hv]; omega, fun _ => ?_⟩
      · rcases List.mem_append.1 hb with hb | hb
        · exact i1 b hb
        · rw [List.mem_singleton.1 hb]; exact hd
      · obtain ⟨c, t, e, hne⟩ := i3 (by omega)
        exact ⟨c, t ++ [UInt8.ofNat (48 + n % 10)], by rw [e]; rfl, hne⟩
theorem dec_ne (n : Nat) : Lib.decDigits n ≠ [] := by
  obtain ⟨l, hl, _⟩ := dec_step n
  rw [hl]; simp
theorem tw_app (A B : List UInt8) (x : UInt8) (hA : ∀ b, b ∈ A → isD b = true) (hx : isD x = false) : (A ++ x :: B).takeWhile isD = A ∧ (A ++ x :: B).dropWhile isD = x :: B := by
  induction A with
  | nil => simp [hx]
  | cons c t ih =>
    have hc := hA c (by simp)
    have := ih (fun b hb => hA b (by simp [hb]))
    simp [hc, this]
theorem tw_all (A : List UInt8) (hA : ∀ b, b ∈ A → isD b = true) : A.takeWhile isD = A ∧ A.dropWhile isD = [] := by
  induction A with
  | nil => simp
  | cons c t ih =>
    have hc := hA c (by simp)
    have := ih (fun b hb => hA b (by simp [hb]))
    simp [List.takeWhile, List.dropWhile, hc, this]
/-- digits that a number may begin with -/
def okH (A : List UInt8) : Prop := A ≠ [] ∧ (∀ b, b ∈ A → isD b = true) ∧ ¬ (1 < A.length ∧ A.head? = some 48)
theorem pre_dig {A r : List UInt8} (h : okH A) (d : UInt8) (hd : isD d = false) : Lib.hasPrefix (A ++ r) [d] = false := by
  cases A with
  | nil => exact absurd rfl h.1
  | cons c t =>
    rw [List.cons_append, pre_cons]
    simp only [beq_eq_false_iff_ne, ne_eq]
    intro e
    rw [e, h.2.1 c (by simp)] at hd
    simp at hd
theorem spl_sgn (b : Bool) (A r : List UInt8) (h : okH A) (h1 : (A ++ r).takeWhile isD = A) (h2 : (A ++ r).dropWhile isD = r) : spl ((if b then [45] else []) ++ (A ++ r)) = splF b A r := by
  have e1 : Lib.trimPrefix ((if b then [45] else []) ++ (A ++ r)) [45] = A ++ r ∧ Lib.hasPrefix ((if b then [45] else []) ++ (A ++ r)) [45] = b := by
    cases b
    · have := pre_dig (r := r) h 45 (by decide)
      exact ⟨trim_no this, this⟩
    · exact ⟨trim_yes, by simp [pre_cons]⟩
  unfold spl
  rw [e1.1, e1.2, h1, h2, if_neg (fun g => g.elim h.1 h.2.2)]
theorem spl_int (b : Bool) (A : List UInt8) (h : okH A) : spl ((if b then [45] else []) ++ A) = ((b, false, A, [], []), true) := by
  have t := tw_all A h.2.1
  have := spl_sgn b A [] h (by rw [List.append_nil]; exact t.1) (by rw [List.append_nil]; exact t.2)
  rw [List.append_nil] at this
  rw [this]
  rfl
theorem spl_frac (b : Bool) (A B : List UInt8) (h : okH A) (hB : ∀ x, x ∈ B → isD x = true) (hn : B ≠ []) : spl ((if b then [45] else []) ++ (A ++ 46 :: B)) = ((b, false, A, B, []), true) := by
  have t := tw_app A B 46 h.2.1 (by decide)
  rw [spl_sgn b A (46 :: B) h t.1 t.2]
  have u := tw_all B hB
  unfold splF
  rw [if_pos (by simp [pre_cons]), trim_yes, u.1, if_neg hn, u.2]
  rfl
theorem vl_zeros (l : List UInt8) (k : Nat) : vl (l ++ List.replicate k 48) = vl l * 10 ^ k := by
  induction k with
  | zero => simp
  | succ k ih =>
    rw [List.replicate_succ', ← List.append_assoc, vl_snoc, ih, Nat.pow_succ]
    have : (48 : UInt8).toNat = 48 := rfl
    rw [this, ← Nat.mul_assoc]; omega
theorem trimL_zeros (k : Nat) (l : List UInt8) : Lib.trimLeftB (List.replicate k 48 ++ l) 48 = Lib.trimLeftB l 48 := by
  induction k with
  | zero => rfl
  | succ k _ => rw [List.replicate_succ, List.cons_append]; unfold Lib.trimLeftB; simp
theorem trimL_head {c : UInt8} {t : List UInt8} (h : c ≠ 48) : Lib.trimLeftB (c :: t) 48 = c :: t := by
  have hb : (c == 48) = false := by simp [h]
  unfold Lib.trimLeftB
  simp [List.dropWhile, hb]
theorem trimR_split (l : List UInt8) : ∃ k, l = Lib.trimRightB l 48 ++ List.replicate k 48 := by
  obtain ⟨r, rfl⟩ : ∃ r, l = r.reverse := ⟨l.reverse, by simp⟩
  induction r with
  | nil => exact ⟨0, rfl⟩
  | cons c t ih =>
    by_cases hc : c = 48
    · subst hc
      obtain ⟨k, hk⟩ := ih
      refine ⟨k + 1, ?_⟩
      have e : Lib.trimRightB (48 :: t).reverse 48 = Lib.trimRightB t.reverse 48 := by unfold Lib.trimRightB; simp
      rw [e, List.replicate_succ', ← List.append_assoc, ← hk]; simp
    · refine ⟨0, ?_⟩
      unfold Lib.trimRightB
      simp [hc]
theorem trimR_last {l : List UInt8} {c : UInt8} (h : c ≠ 48) : Lib.trimRightB (l ++ [c]) 48 = l ++ [c] := by
  unfold Lib.trimRightB
  simp [h]
theorem hold_can {c : Int} {s : Nat} (h : isB c s = true) : hold c s = some (c, s) := by
  have hi := isB_iff.1 h
  have hs : strip s c.natAbs = (c.natAbs, s) := by
    cases s with
    | zero => rfl
    | succ s =>
      unfold strip
      rw [if_neg]
      intro h0
      rcases hi.2.2 with h3 | h3
      · omega
      · exact h3 (Int.tmod_eq_zero_of_dvd (by omega))
  unfold hold
  rw [hs]
  simp only
  rw [if_neg (by omega)]
  congr 2
  split <;> omega
theorem dec_len15 (n : Nat) (h : n < 1000000000000000) : (Lib.decDigits n).length ≤ 15 := by
  have key : ∀ (k n : Nat), n < 10 ^ (k + 1) → (Lib.decDigits n).length ≤ k + 1 := by
    intro k
    induction k with
    | zero =>
      intro n hn
      obtain ⟨l, hl, hc⟩ := dec_step n
      rcases hc with ⟨_, rfl⟩ | ⟨h, _⟩
      · rw [hl]; simp
      · omega
    | succ k ih =>
      intro n hn
      obtain ⟨l, hl, hc⟩ := dec_step n
      rcases hc with ⟨_, rfl⟩ | ⟨h, rfl⟩
      · rw [hl]; simp
      · have := ih (n / 10) (by rw [Nat.pow_succ] at hn; omega)
        rw [hl, List.length_append]
        simp
        exact this
  exact key 14 n h
/-- what is parsed of digits, a point behind some of them -/
theorem prs_of {l wh fr d : List UInt8} {b : Bool} {n : Nat} (hs : spl l = ((b, false, wh, fr, []), true)) (ha : Lib.trimLeftB (wh ++ fr) 48 = d) (hd : d = Lib.decDigits n) (hn : 0 < n) (hn15 : n < 1000000000000000) :
    ∃ (e : List UInt8) (k : Nat), Lib.decDigits n = e ++ List.replicate k 48 ∧ Lib.trimRightB (Lib.decDigits n) 48 = e ∧ e ≠ [] ∧ prs l = ans (prD b e (-(fr.length : Int) + (k : Int))) := by
  obtain ⟨k, hk⟩ := trimR_split (Lib.decDigits n)
  refine ⟨Lib.trimRightB (Lib.decDigits n) 48, k, hk, rfl, ?_, ?_⟩
  · intro h0
    rw [h0, List.nil_append] at hk
    have hv := (dec_all n).2.1
    rw [hk] at hv
    have := vl_zeros [] k
    rw [List.nil_append] at this
    rw [this] at hv
    simp [vl] at hv
    omega
  · have hne : Lib.trimRightB (Lib.decDigits n) 48 ≠ [] := by
      intro h0
      rw [h0, List.nil_append] at hk
      have hv := (dec_all n).2.1
      rw [hk] at hv
      have := vl_zeros [] k
      rw [List.nil_append] at this
      rw [this] at hv
      simp [vl] at hv
      omega
    unfold prs
    rw [hs]
    simp only
    rw [ha, hd, if_neg (by simp), if_neg hne]
    congr 2
    have hl : (Lib.decDigits n).length = (Lib.trimRightB (Lib.decDigits n) 48).length + k := by conv => lhs; rw [hk]
                                                                                                simp
    unfold shf
    simp only [vl, List.foldl_nil]
    rw [hl]
    simp
    omega
theorem sgn_val (c : Int) : (if decide (c < 0) = true then -(c.natAbs : Int) else (c.natAbs : Int)) = c := by
  by_cases h : c < 0
  · rw [if_pos (by simpa using h)]; omega
  · rw [if_neg (by simpa using h)]; omega
theorem back {c : Int} {s : Nat} (h : isB c s = true) : prs (txt c s) = ans (some (c, s)) := by
  have hi := isB_iff.1 h
  have hn15 : c.natAbs < 1000000000000000 := by omega
  obtain ⟨a1, a2, a3⟩ := dec_all c.natAbs
  have hne := dec_ne c.natAbs
  have htx : txt c s = (if decide (c < 0) = true then [45] else []) ++ ptd s (Lib.decDigits c.natAbs) := by unfold txt; simp
  rw [htx]
  by_cases hs : s = 0
  · subst hs
    unfold ptd
    rw [if_pos rfl]
    by_cases h0 : c.natAbs = 0
    · have hc0 : c = 0 := by omega
      subst hc0
      have h48 : Lib.decDigits (Int.natAbs 0) = [48] := by
        obtain ⟨l, hl, hc⟩ := dec_step 0
        rcases hc with ⟨_, rfl⟩ | ⟨h, _⟩
        · exact hl
        · omega
      rw [h48]
      rfl
    · obtain ⟨x, t, ex, hx⟩ := a3 (by omega)
      have hok : okH (Lib.decDigits c.natAbs) := ⟨hne, a1, fun g => hx (by rw [ex] at g; simpa using g.2)⟩
      obtain ⟨e, k, h1, h2, h3, h4⟩ := prs_of (spl_int (decide (c < 0)) _ hok) (by rw [List.append_nil, ex, trimL_head hx, ← ex]) rfl (by omega) hn15
      rw [h4]
      have hv := vl_zeros e k
      rw [← h1, a2] at hv
      have hlen := dec_len15 c.natAbs hn15
      have hl : (Lib.decDigits c.natAbs).length = e.length + k := by rw [h1]; simp
      have hel : 0 < e.length := List.length_pos_iff.2 h3
      have hz := hold_can h
      unfold prD
      rw [if_neg (by simp only [List.length_nil]; omega)]
      by_cases hk : k = 0
      · subst hk
        rw [Nat.pow_zero, Nat.mul_one] at hv
        rw [if_neg (by simp), ← hv, sgn_val]
        simp only [List.length_nil]
        exact congrArg ans hz
      · rw [if_pos (by simp only [List.length_nil]; omega)]
        have e1 : (-(([] : List UInt8).length : Int) + (k : Int)).toNat = k := by simp only [List.length_nil]; omega
        rw [e1]
        have e2 : (if decide (c < 0) = true then -(vl e : Int) else (vl e : Int)) * ((10 ^ k : Nat) : Int) = c := by
          have h7 : (vl e : Int) * ((10 ^ k : Nat) : Int) = (c.natAbs : Int) := by rw [hv, Int.natCast_mul]
          by_cases hc : c < 0
          · rw [if_pos (by simpa using hc), Int.neg_mul, h7]; omega
          · rw [if_neg (by simpa using hc), h7]; omega
        rw [e2]
        exact congrArg ans hz
  · have hc0 : c.natAbs % 10 ≠ 0 := by
      intro h0
      rcases hi.2.2 with h3 | h3
      · omega
      · exact h3 (Int.tmod_eq_zero_of_dvd (by omega))
    obtain ⟨x, t, ex, hx⟩ := a3 (by omega)
    unfold ptd
    rw [if_neg hs]
    have hfl : (fill s (Lib.decDigits c.natAbs)).length = (s + 1 - (Lib.decDigits c.natAbs).length) + (Lib.decDigits c.natAbs).length := by simp [fill]
    have hfd : ∀ b, b ∈ fill s (Lib.decDigits c.natAbs) → isD b = true := fun b hb => by
      unfold fill at hb
      rcases List.mem_append.1 hb with hb | hb
      · rw [(List.mem_replicate.1 hb).2]; decide
      · exact a1 b hb
    obtain ⟨q, hq⟩ : ∃ q, (fill s (Lib.decDigits c.natAbs)).length - s = q := ⟨_, rfl⟩
    rw [hq]
    have hq0 : 0 < q := by omega
    have hql : q + s = (fill s (Lib.decDigits c.natAbs)).length := by omega
    obtain ⟨A, hA⟩ : ∃ A, (fill s (Lib.decDigits c.natAbs)).take q = A := ⟨_, rfl⟩
    obtain ⟨B, hB⟩ : ∃ B, (fill s (Lib.decDigits c.natAbs)).drop q = B := ⟨_, rfl⟩
    have hAB : A ++ B = fill s (Lib.decDigits c.natAbs) := by rw [← hA, ← hB, List.take_append_drop]
    have hAl : A.length = q := by rw [← hA, List.length_take]; omega
    have hBl : B.length = s := by rw [← hB, List.length_drop]; omega
    rw [hA, hB]
    have hok : okH A := by
      refine ⟨fun e => by rw [e] at hAl; simp at hAl; omega, fun b hb => hfd b (by rw [← hAB]; simp [hb]), fun g => ?_⟩
      have hm : s + 1 - (Lib.decDigits c.natAbs).length = 0 := by omega
      have hf : fill s (Lib.decDigits c.natAbs) = x :: t := by unfold fill; rw [hm, ex]; rfl
      rw [hf] at hAB
      cases A with
      | nil => simp at hAl; omega
      | cons y r =>
        simp only [List.cons_append, List.cons.injEq] at hAB
        exact hx (by rw [← hAB.1]; simpa using g.2)
    have hBne : B ≠ [] := fun e => by rw [e] at hBl; simp at hBl; omega
    have hsp := spl_frac (decide (c < 0)) A B hok (fun b hb => hfd b (by rw [← hAB]; simp [hb])) hBne
    rw [show A ++ [46] ++ B = A ++ 46 :: B by simp]
    obtain ⟨e, k, h1, h2, h3, h4⟩ := prs_of hsp (by rw [hAB]; unfold fill; rw [trimL_zeros, ex, trimL_head hx, ← ex]) rfl (by omega) hn15
    obtain ⟨l, hl, _⟩ := dec_step c.natAbs
    have hlast : (UInt8.ofNat (48 + c.natAbs % 10)) ≠ 48 := fun e => by
      have := ofN (c.natAbs % 10) (by omega)
      rw [e] at this
      have h48 : (48 : UInt8).toNat = 48 := rfl
      omega
    have he : e = Lib.decDigits c.natAbs := by rw [← h2, hl, trimR_last hlast]
    have hk : k = 0 := by
      have := congrArg List.length h1
      rw [he] at this
      simp at this
      exact this
    subst hk
    rw [h4, he]
    have hlen := dec_len15 c.natAbs hn15
    unfold prD
    rw [if_neg (by rw [hBl]; omega), if_neg (by rw [hBl]; omega), a2, sgn_val, hBl]
    rw [show (-(-((s : Nat) : Int) + ((0 : Nat) : Int))).toNat = s by omega]
    exact congrArg ans (hold_can h)
end Nm
end Go.Proofs.YtpddkchnogfjkaaGreatDoor
