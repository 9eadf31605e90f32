/- Mathematics of layer 13: blanks, and the token ahead, in a row of bytes; what a new line does between two; no program. -/
import Derived.ProofKit
namespace Go.Proofs.YtpddkchnogfjkaaDoor
namespace Lx
/-- may a name begin so -/
def isL (c : UInt8) : Bool := decide (97 ≤ c.toNat ∧ c.toNat ≤ 122 ∨ 65 ≤ c.toNat ∧ c.toNat ≤ 90 ∨ c.toNat = 95)
def isD (c : UInt8) : Bool := decide (48 ≤ c.toNat ∧ c.toNat ≤ 57)
def isW (c : UInt8) : Bool := isL c || isD c
/-- is it one of the four blanks -/
def isB (c : UInt8) : Bool := decide (c.toNat = 32 ∨ c.toNat = 9 ∨ c.toNat = 10 ∨ c.toNat = 13)
/-- how many bytes ahead are blanks; 'b': within a line that a # has begun -/
def blk : Bool → List UInt8 → Nat
  | _, [] => 0
  | true, c :: t => 1 + blk (c.toNat != 10) t
  | false, c :: t => if c.toNat = 35 then 1 + blk true t else if isB c then 1 + blk false t else 0
def dl (c : UInt8) : Nat := if c.toNat = 36 then 1 else 0
/-- how long a name ahead is -/
def nm (r : List UInt8) : Nat := if (r.head?.map isL).getD false then (r.takeWhile isW).length else 0
def dgs (r : List UInt8) : Nat := (r.takeWhile isD).length
def is1 (r : List UInt8) (i : Nat) (n : Nat) : Bool := (r[i]?.map fun c => decide (c.toNat = n)).getD false
/-- how long a number ahead is -/
def fracL (r : List UInt8) (i : Nat) : Nat := if is1 r i 46 ∧ 0 < dgs (r.drop (i + 1)) then i + 1 + dgs (r.drop (i + 1)) else i
def expK (r : List UInt8) (i : Nat) : Nat := if is1 r (i + 1) 43 ∨ is1 r (i + 1) 45 then i + 2 else i + 1
def expL (r : List UInt8) (i : Nat) : Nat := if (is1 r i 101 ∨ is1 r i 69) ∧ 0 < dgs (r.drop (expK r i)) then expK r i + dgs (r.drop (expK r i)) else i
def numL (r : List UInt8) : Nat := expL r (fracL r (dgs r))
/-- how long a string is whose first quote stands ahead of what is given; none: it doesn't end -/
def strE : List UInt8 → Option Nat
  | [] => none
  | [c] => if c.toNat = 34 then some 1 else none
  | c :: d :: t => if c.toNat = 92 then (strE t).map (· + 2) else if c.toNat = 34 then some 1 else (strE (d :: t)).map (· + 1)
def twos : List (List UInt8) := [[47, 47], [61, 61], [33, 61], [60, 61], [62, 61]]
def ones : List UInt8 := [46, 124, 44, 60, 62, 43, 45, 42, 47, 37, 40, 41, 91, 93, 123, 125, 58, 59]
/-- a token: its kind, its text, its number, its place -/
structure Tk where
  k : Nat
  t : List UInt8
  c : Int
  s : Int
  p : Nat
section
variable (N : List UInt8 → Int × Int × Nat) (S : List UInt8 → List UInt8 × Nat)
/-- the token ahead (kind, text, number, length), or the error's number -/
def tok (r : List UInt8) : Except Nat (Nat × List UInt8 × (Int × Int) × Nat) :=
  match r with
  | [] => .error 14
  | c :: t =>
    if isL c ∨ c.toNat = 36 then
      let n := nm (r.drop (dl c))
      if n = 0 ∨ 16 < n then .error 14 else .ok (1 + dl c, (r.drop (dl c)).take n, (0, 0), dl c + n)
    else if isD c then
      let w := r.take (numL r)
      if (N w).2.2 ≠ 0 then .error (N w).2.2 else .ok (3, w, ((N w).1, (N w).2.1), numL r)
    else if c.toNat = 34 then
      match strE t with
      | none => .error 14
      | some n => let w := r.take (n + 1)
        if (S w).2 = 3 then .error 14 else if (S w).2 ≠ 0 then .error (S w).2 else .ok (4, (S w).1, (0, 0), n + 1)
    else if twos.contains (r.take 2) then .ok (5, r.take 2, (0, 0), 2)
    else if ones.contains c then .ok (5, [c], (0, 0), 1)
    else .error 14
/-- the tokens of what stands from a place on, or the place and the number of the error -/
def lx : Nat → Nat → List UInt8 → Except (Nat × Nat) (List Tk)
  | 0, p, _ => .error (p, 14)
  | f + 1, p, r =>
    let b := blk false r
    if r.drop b = [] then .ok [⟨6, [], 0, 0, p + b⟩]
    else match tok N S (r.drop b) with
      | .error e => .error (p + b, e)
      | .ok (k, t, n, m) => (lx f (p + b + m) (r.drop (b + m))).map (⟨k, t, n.1, n.2, p + b⟩ :: ·)

theorem blk_le : ∀ (b : Bool) (r : List UInt8), blk b r ≤ r.length
  | _, [] => by cases ‹Bool› <;> simp [blk]
  | true, c :: t => by have := blk_le (c.toNat != 10) t; simp only [blk, List.length_cons]; omega
  | false, c :: t => by
    have h1 := blk_le true t
    have h2 := blk_le false t
    simp only [blk, List.length_cons]
    split
    · omega
    · split
      · omega
      · omega
/-- behind what is blank up to its end a new line ends the row that a # has begun, too -/
theorem blk_line : ∀ (b : Bool) (x y : List UInt8), blk b x = x.length → blk b (x ++ 10 :: y) = x.length + 1 + blk false y
  | true, [], y, _ => by simp only [List.nil_append, blk, List.length_nil]; simp
  | false, [], y, _ => by simp only [List.nil_append, blk, List.length_nil]; simp [isB]
  | true, c :: t, y, h => by
    simp only [blk, List.length_cons] at h
    have ih := blk_line (c.toNat != 10) t y (by omega)
    simp only [List.cons_append, blk, List.length_cons]
    omega
  | false, c :: t, y, h => by
    simp only [blk, List.length_cons] at h
    simp only [List.cons_append, blk, List.length_cons]
    split at h
    · rename_i hc
      have ih := blk_line true t y (by omega)
      rw [if_pos hc]; omega
    · rename_i hc
      rw [if_neg hc]
      split at h
      · rename_i hb
        have ih := blk_line false t y (by omega)
        rw [if_pos hb]; omega
      · omega
/-- what stands behind what is no blank plays no part -/
theorem blk_more : ∀ (b : Bool) (x y : List UInt8), blk b x < x.length → blk b (x ++ y) = blk b x
  | _, [], y, h => by simp at h
  | true, c :: t, y, h => by
    simp only [blk, List.length_cons] at h
    simp only [List.cons_append, blk]
    rw [blk_more _ t y (by omega)]
  | false, c :: t, y, h => by
    simp only [blk, List.length_cons] at h
    simp only [List.cons_append, blk]
    split at h
    · rename_i hc; rw [if_pos hc, if_pos hc, blk_more _ t y (by omega)]
    · rename_i hc
      rw [if_neg hc, if_neg hc]
      split at h
      · rename_i hb; rw [if_pos hb, if_pos hb, blk_more _ t y (by omega)]
      · rename_i hb; rw [if_neg hb, if_neg hb]
theorem tw_stop (p : UInt8 → Bool) (hp : p 10 = false) : ∀ (x y : List UInt8), (x ++ 10 :: y).takeWhile p = x.takeWhile p
  | [], y => by simp [hp]
  | c :: t, y => by simp only [List.cons_append, List.takeWhile_cons]; rw [tw_stop p hp t y]
theorem nm_line (x y : List UInt8) : nm (x ++ 10 :: y) = nm x := by
  unfold nm
  rw [tw_stop isW (by decide)]
  cases x with
  | nil => have : isL 10 = false := by decide
           simp [this]
  | cons c t => rfl
theorem dgs_line (x y : List UInt8) : dgs (x ++ 10 :: y) = dgs x := by unfold dgs; rw [tw_stop isD (by decide)]
theorem tw_le (p : UInt8 → Bool) (x : List UInt8) : (x.takeWhile p).length ≤ x.length := (List.takeWhile_sublist p).length_le
theorem dgs_le (x : List UInt8) : dgs x ≤ x.length := tw_le _ _
theorem nm_le (x : List UInt8) : nm x ≤ x.length := by unfold nm; split; exact tw_le _ _; omega
theorem is1_line (x y : List UInt8) (i n : Nat) (hn : n ≠ 10) (hi : i ≤ x.length) : is1 (x ++ 10 :: y) i n = is1 x i n := by
  unfold is1
  by_cases h : i < x.length
  · rw [List.getElem?_append_left h]
  · obtain rfl : i = x.length := by omega
    rw [List.getElem?_append_right (Nat.le_refl _)]
    simp only [Nat.sub_self, List.getElem?_cons_zero, List.getElem?_eq_none (Nat.le_refl _)]
    simp; omega
theorem is1_lt {x : List UInt8} {i n : Nat} (h : is1 x i n = true) : i < x.length := by
  unfold is1 at h
  by_cases hi : i < x.length
  · exact hi
  · rw [List.getElem?_eq_none (by omega)] at h; simp at h
theorem drop_line (x y : List UInt8) (i : Nat) (hi : i ≤ x.length) : (x ++ 10 :: y).drop i = x.drop i ++ 10 :: y := by rw [List.drop_append_of_le_length hi]
theorem fracL_le (x : List UInt8) (i : Nat) (hi : i ≤ x.length) : fracL x i ≤ x.length := by
  unfold fracL; split
  · have := dgs_le (x.drop (i + 1)); rw [List.length_drop] at this; rename_i h; have := is1_lt h.1; omega
  · exact hi
theorem fracL_ge (x : List UInt8) (i : Nat) : i ≤ fracL x i := by unfold fracL; split <;> omega
theorem fracL_line (x y : List UInt8) (i : Nat) (hi : i ≤ x.length) : fracL (x ++ 10 :: y) i = fracL x i := by
  unfold fracL
  rw [is1_line x y i 46 (by omega) hi]
  by_cases h : is1 x i 46 = true
  · have := is1_lt h
    rw [drop_line x y (i + 1) (by omega), dgs_line]
  · rw [if_neg (fun c => h c.1), if_neg (fun c => h c.1)]
theorem expK_le {x : List UInt8} {i : Nat} (h : i < x.length) : expK x i ≤ x.length := by
  unfold expK; split
  · rename_i h2; rcases h2 with h2 | h2 <;> (have := is1_lt h2; omega)
  · omega
theorem expK_gt (x : List UInt8) (i : Nat) : i < expK x i := by unfold expK; split <;> omega
theorem expK_line (x y : List UInt8) (i : Nat) (hi : i < x.length) : expK (x ++ 10 :: y) i = expK x i := by
  unfold expK
  rw [is1_line x y (i + 1) 43 (by omega) hi, is1_line x y (i + 1) 45 (by omega) hi]
theorem expL_le (x : List UInt8) (i : Nat) (hi : i ≤ x.length) : expL x i ≤ x.length := by
  unfold expL; split
  · rename_i h
    have : i < x.length := by rcases h.1 with h1 | h1 <;> exact is1_lt h1
    have h2 := expK_le this
    have := dgs_le (x.drop (expK x i)); rw [List.length_drop] at this; omega
  · exact hi
theorem expL_ge (x : List UInt8) (i : Nat) : i ≤ expL x i := by
  unfold expL; split
  · have := expK_gt x i; omega
  · omega
theorem expL_line (x y : List UInt8) (i : Nat) (hi : i ≤ x.length) : expL (x ++ 10 :: y) i = expL x i := by
  unfold expL
  rw [is1_line x y i 101 (by omega) hi, is1_line x y i 69 (by omega) hi]
  by_cases h : is1 x i 101 = true ∨ is1 x i 69 = true
  · have hl : i < x.length := by rcases h with h1 | h1 <;> exact is1_lt h1
    rw [expK_line x y i hl, drop_line x y _ (expK_le hl), dgs_line]
  · rw [if_neg (fun c => h c.1), if_neg (fun c => h c.1)]
theorem numL_le (x : List UInt8) : numL x ≤ x.length := expL_le _ _ (fracL_le _ _ (dgs_le x))
theorem numL_ge (x : List UInt8) : dgs x ≤ numL x := Nat.le_trans (fracL_ge _ _) (expL_ge _ _)
theorem numL_line (x y : List UInt8) : numL (x ++ 10 :: y) = numL x := by
  unfold numL
  rw [dgs_line, fracL_line x y _ (dgs_le x), expL_line x y _ (fracL_le _ _ (dgs_le x))]
theorem strE_le : ∀ (x : List UInt8) (n : Nat), strE x = some n → n ≤ x.length ∧ 0 < n
  | [], n, h => by simp [strE] at h
  | [c], n, h => by
    simp only [strE] at h
    split at h
    · cases h; simp
    · cases h
  | c :: d :: t, n, h => by
    simp only [strE] at h
    split at h
    · obtain ⟨m, hm, rfl⟩ := Option.map_eq_some_iff.1 h
      have := strE_le t m hm
      simp only [List.length_cons]; omega
    · split at h
      · cases h; simp
      · obtain ⟨m, hm, rfl⟩ := Option.map_eq_some_iff.1 h
        have := strE_le (d :: t) m hm
        simp only [List.length_cons] at *; omega
theorem strE_more : ∀ (x y : List UInt8) (n : Nat), strE x = some n → strE (x ++ y) = some n
  | [], y, n, h => by simp [strE] at h
  | [c], y, n, h => by
    simp only [strE] at h
    split at h
    · rename_i hc
      cases h
      cases y with
      | nil => simp [strE, hc]
      | cons d t => simp [strE, hc]
    · cases h
  | c :: d :: t, y, n, h => by
    simp only [strE] at h
    simp only [List.cons_append, strE]
    split at h
    · rename_i hc
      obtain ⟨m, hm, rfl⟩ := Option.map_eq_some_iff.1 h
      rw [if_pos hc, strE_more t y m hm]; rfl
    · rename_i hc
      rw [if_neg hc]
      split at h
      · rename_i h2; rw [if_pos h2]; exact h
      · rename_i h2
        obtain ⟨m, hm, rfl⟩ := Option.map_eq_some_iff.1 h
        have := strE_more (d :: t) y m hm
        rw [List.cons_append] at this
        rw [if_neg h2, this]; rfl
theorem tok_pos {r : List UInt8} {k : Nat} {t : List UInt8} {n : Int × Int} {m : Nat} (h : tok N S r = .ok (k, t, n, m)) : 0 < m ∧ m ≤ r.length := by
  cases r with
  | nil => simp [tok] at h
  | cons c l =>
    simp only [tok] at h
    split at h
    · split at h
      · cases h
      · rename_i hn
        have h1 := nm_le ((c :: l).drop (dl c))
        rw [List.length_drop] at h1
        simp only [Except.ok.injEq, Prod.mk.injEq] at h
        obtain ⟨_, _, _, rfl⟩ := h
        simp only [List.length_cons] at *
        constructor
        · omega
        · omega
    · split at h
      · rename_i hd
        split at h
        · cases h
        · simp only [Except.ok.injEq, Prod.mk.injEq] at h
          obtain ⟨_, _, _, rfl⟩ := h
          refine ⟨?_, numL_le _⟩
          refine Nat.lt_of_lt_of_le ?_ (numL_ge _)
          unfold dgs; simp [hd]
      · split at h
        · split at h
          · cases h
          · rename_i q hq
            split at h
            · cases h
            · split at h
              · cases h
              · simp only [Except.ok.injEq, Prod.mk.injEq] at h
                obtain ⟨_, _, _, rfl⟩ := h
                have := (strE_le _ _ hq)
                simp only [List.length_cons]; omega
        · split at h
          · rename_i h2
            simp only [Except.ok.injEq, Prod.mk.injEq] at h
            obtain ⟨_, _, _, rfl⟩ := h
            cases l with
            | nil => simp [twos] at h2
            | cons d l => simp
          · split at h
            · simp only [Except.ok.injEq, Prod.mk.injEq] at h
              obtain ⟨_, _, _, rfl⟩ := h
              simp
            · cases h
/-- a token that is one stays it, whatever stands behind a new line -/
theorem tok_line {r : List UInt8} (y : List UInt8) {z : Nat × List UInt8 × (Int × Int) × Nat} (h : tok N S r = .ok z) : tok N S (r ++ 10 :: y) = .ok z := by
  cases r with
  | nil => simp [tok] at h
  | cons c l =>
    have hf : dl c ≤ (c :: l).length := by simp only [List.length_cons, dl]; split <;> omega
    simp only [tok] at h
    simp only [List.cons_append, tok]
    rw [← List.cons_append, drop_line (c :: l) y _ hf, nm_line, numL_line, List.take_append_of_le_length (nm_le _), List.take_append_of_le_length (numL_le _)]
    split at h
    · rename_i h1; rw [if_pos h1]; exact h
    · rename_i h1
      rw [if_neg h1]
      split at h
      · rename_i h2; rw [if_pos h2]; exact h
      · rename_i h2
        rw [if_neg h2]
        split at h
        · rename_i h3
          rw [if_pos h3]
          cases hq : strE l with
          | none => rw [hq] at h; cases h
          | some q =>
            rw [hq] at h
            rw [strE_more l (10 :: y) q hq]
            have := (strE_le _ _ hq).1
            simp only at h ⊢
            rw [List.take_append_of_le_length (by simp only [List.length_cons]; omega)]
            exact h
        · rename_i h3
          rw [if_neg h3]
          cases l with
          | nil =>
            have e : twos.contains (([c] ++ 10 :: y).take 2) = false := by simp [twos]
            have e2 : twos.contains ([c].take 2) = false := by simp [twos]
            rw [e, if_neg (by simp)]
            rw [e2, if_neg (by simp)] at h
            exact h
          | cons d t =>
            rw [List.take_append_of_le_length (by simp)]
            exact h
/-- all tokens of what stands from a place on -/
def lxs (p : Nat) (r : List UInt8) : Except (Nat × Nat) (List Tk) := lx N S (r.length + 1) p r
theorem lx_fuel : ∀ (n f p : Nat) (r : List UInt8), r.length ≤ n → r.length < f → lx N S f p r = lx N S (r.length + 1) p r := by
  intro n
  induction n with
  | zero =>
    intro f p r h hf
    obtain rfl : r = [] := List.length_eq_zero_iff.1 (by omega)
    cases f with
    | zero => omega
    | succ f => simp [lx]
  | succ n ih =>
    intro f p r h hf
    cases f with
    | zero => omega
    | succ f =>
      simp only [lx]
      split
      · rfl
      · cases ht : tok N S (r.drop (blk false r)) with
        | error e => rfl
        | ok z =>
          obtain ⟨k, t, m, q⟩ := z
          simp only
          have hp := tok_pos N S ht
          rw [List.length_drop] at hp
          have hl : (r.drop (blk false r + q)).length < r.length := by rw [List.length_drop]; omega
          rw [ih f _ _ (by omega) (by omega), ih r.length _ _ (by omega) hl]
theorem lxs_end (p : Nat) {r : List UInt8} (h : r.drop (blk false r) = []) : lxs N S p r = .ok [⟨6, [], 0, 0, p + blk false r⟩] := by
  unfold lxs; simp only [lx]; rw [if_pos h]
theorem lxs_err (p : Nat) {r : List UInt8} {e : Nat} (h0 : r.drop (blk false r) ≠ []) (h : tok N S (r.drop (blk false r)) = .error e) : lxs N S p r = .error (p + blk false r, e) := by
  unfold lxs; simp only [lx]; rw [if_neg h0, h]
theorem lxs_ok (p : Nat) {r : List UInt8} {k : Nat} {t : List UInt8} {n : Int × Int} {m : Nat} (h : tok N S (r.drop (blk false r)) = .ok (k, t, n, m)) :
    lxs N S p r = (lxs N S (p + blk false r + m) (r.drop (blk false r + m))).map (⟨k, t, n.1, n.2, p + blk false r⟩ :: ·) := by
  have hp := tok_pos N S h
  have h0 : r.drop (blk false r) ≠ [] := by intro c; rw [c] at hp; simp only [List.length_nil] at hp; omega
  rw [List.length_drop] at hp
  have hl : (r.drop (blk false r + m)).length < r.length := by rw [List.length_drop]; omega
  have h1 : lxs N S p r = (lx N S r.length (p + blk false r + m) (r.drop (blk false r + m))).map (⟨k, t, n.1, n.2, p + blk false r⟩ :: ·) := by
    unfold lxs; simp only [lx]; rw [if_neg h0, h]
  rw [h1, lx_fuel N S _ r.length _ _ (Nat.le_refl _) hl]
  rfl
def Tk.by (d : Nat) (x : Tk) : Tk := { x with p := x.p + d }
def shf (d : Nat) : Except (Nat × Nat) (List Tk) → Except (Nat × Nat) (List Tk)
  | .error (p, e) => .error (p + d, e)
  | .ok l => .ok (l.map (Tk.by d))
theorem shf_map (d : Nat) (x : Tk) (l : Except (Nat × Nat) (List Tk)) : shf d (l.map (x :: ·)) = (shf d l).map (x.by d :: ·) := by
  cases l with
  | error z => rfl
  | ok l => rfl
theorem lxs_shift (d : Nat) : ∀ (n p : Nat) (r : List UInt8), r.length ≤ n → lxs N S (p + d) r = shf d (lxs N S p r) := by
  intro n
  induction n with
  | zero =>
    intro p r h
    obtain rfl : r = [] := List.length_eq_zero_iff.1 (by omega)
    rw [lxs_end N S _ rfl, lxs_end N S _ rfl]
    simp [shf, blk, Tk.by]
  | succ n ih =>
    intro p r h
    by_cases h0 : r.drop (blk false r) = []
    · rw [lxs_end N S _ h0, lxs_end N S _ h0]
      simp [shf, Tk.by]; omega
    · cases ht : tok N S (r.drop (blk false r)) with
      | error e => rw [lxs_err N S _ h0 ht, lxs_err N S _ h0 ht]; simp [shf]; omega
      | ok z =>
        obtain ⟨k, t, m, q⟩ := z
        have hp := tok_pos N S ht
        rw [List.length_drop] at hp
        rw [lxs_ok N S _ ht, lxs_ok N S _ ht, shf_map, ← ih _ _ (by rw [List.length_drop]; omega)]
        rw [show p + d + blk false r + q = p + blk false r + q + d by omega]
        simp only [Tk.by]
        rw [show p + d + blk false r = p + blk false r + d by omega]
/-- blanks ahead turn nothing but places -/
theorem lxs_blank (p : Nat) {x r : List UInt8} (h : blk false (x ++ r) = x.length + blk false r) : lxs N S p (x ++ r) = lxs N S (p + x.length) r := by
  have e : ∀ m, (x ++ r).drop (blk false (x ++ r) + m) = r.drop (blk false r + m) := fun m => by
    rw [h, Nat.add_assoc, ← List.drop_drop, List.drop_left]
  have e0 := e 0
  simp only [Nat.add_zero] at e0
  by_cases h0 : r.drop (blk false r) = []
  · rw [lxs_end N S _ h0, lxs_end N S _ (by rw [e0]; exact h0), h, Nat.add_assoc]
  · cases ht : tok N S (r.drop (blk false r)) with
    | error z => rw [lxs_err N S _ h0 ht, lxs_err N S _ (by rw [e0]; exact h0) (by rw [e0]; exact ht), h, Nat.add_assoc]
    | ok z =>
      obtain ⟨k, t, m, q⟩ := z
      rw [lxs_ok N S _ ht, lxs_ok N S (r := x ++ r) _ (by rw [e0]; exact ht), e, h, ← Nat.add_assoc]
theorem lxs_ne (p : Nat) (r : List UInt8) {l : List Tk} (h : lxs N S p r = .ok l) : l ≠ [] := by
  by_cases h0 : r.drop (blk false r) = []
  · rw [lxs_end N S _ h0] at h; cases h; simp
  · cases ht : tok N S (r.drop (blk false r)) with
    | error e => rw [lxs_err N S _ h0 ht] at h; cases h
    | ok z =>
      obtain ⟨k, t, m, q⟩ := z
      rw [lxs_ok N S _ ht] at h
      cases hr : lxs N S (p + blk false r + q) (r.drop (blk false r + q)) with
      | error e => rw [hr] at h; cases h
      | ok l2 => rw [hr] at h; cases h; simp
/-- two queries, a new line between them -/
theorem lxs_join : ∀ (n p : Nat) (a b : List UInt8) (l m : List Tk), a.length ≤ n → lxs N S p a = .ok l → lxs N S (p + a.length + 1) b = .ok m →
    lxs N S p (a ++ 10 :: b) = .ok (l.dropLast ++ m) := by
  intro n
  induction n with
  | zero =>
    intro p a b l m h hl hm
    obtain rfl : a = [] := List.length_eq_zero_iff.1 (by omega)
    rw [lxs_end N S _ rfl] at hl
    cases hl
    have := lxs_blank N S p (x := [10]) (r := b) (by have := blk_line false [] b rfl; simpa using this)
    simp only [List.nil_append, List.dropLast_singleton]
    rw [show (10 :: b : List UInt8) = [10] ++ b from rfl, this]
    exact hm
  | succ n ih =>
    intro p a b l m h hl hm
    by_cases h0 : a.drop (blk false a) = []
    · have hb : blk false a = a.length := by
        have := congrArg List.length h0; rw [List.length_drop] at this; simp only [List.length_nil] at this
        have := blk_le false a; omega
      rw [lxs_end N S _ h0] at hl
      cases hl
      have := lxs_blank N S p (x := a ++ [10]) (r := b) (by
        have := blk_line false a b hb
        simp only [List.append_assoc, List.singleton_append, List.length_append, List.length_singleton]; exact this)
      simp only [List.append_assoc, List.singleton_append, List.length_append, List.length_singleton] at this
      rw [this]
      simp only [List.dropLast_singleton, List.nil_append]
      exact hm
    · have hlt : blk false a < a.length := by
        have h1 := blk_le false a
        rcases Nat.lt_or_ge (blk false a) a.length with h2 | h2
        · exact h2
        · exact absurd (List.drop_eq_nil_of_le h2) h0
      cases ht : tok N S (a.drop (blk false a)) with
      | error e => rw [lxs_err N S _ h0 ht] at hl; cases hl
      | ok z =>
        obtain ⟨k, t, v, q⟩ := z
        have hp := tok_pos N S ht
        rw [List.length_drop] at hp
        rw [lxs_ok N S _ ht] at hl
        cases hr : lxs N S (p + blk false a + q) (a.drop (blk false a + q)) with
        | error e => rw [hr] at hl; cases hl
        | ok l2 =>
          rw [hr] at hl
          have hl' : l = ⟨k, t, v.1, v.2, p + blk false a⟩ :: l2 := by cases hl; rfl
          have hbk := blk_more false a (10 :: b) hlt
          have e : ∀ j, blk false a + j ≤ a.length → (a ++ 10 :: b).drop (blk false a + j) = a.drop (blk false a + j) ++ 10 :: b := fun j hj => drop_line a b _ hj
          have e0 := e 0 (by omega)
          simp only [Nat.add_zero] at e0
          have ht2 : tok N S ((a ++ 10 :: b).drop (blk false (a ++ 10 :: b))) = .ok (k, t, v, q) := by rw [hbk, e0]; exact tok_line N S b ht
          rw [lxs_ok N S _ ht2, hbk, e q (by omega)]
          rw [ih _ _ b l2 m (by rw [List.length_drop]; omega) hr (by
            rw [List.length_drop, show p + blk false a + q + (a.length - (blk false a + q)) + 1 = p + a.length + 1 by omega]; exact hm)]
          rw [hl', List.dropLast_cons_of_ne_nil (lxs_ne N S _ _ hr)]
          rfl
theorem lxs_len : ∀ (n p : Nat) (r : List UInt8) (l : List Tk), r.length ≤ n → lxs N S p r = .ok l → l.length ≤ r.length + 1 := by
  intro n
  induction n with
  | zero =>
    intro p r l h hl
    obtain rfl : r = [] := List.length_eq_zero_iff.1 (by omega)
    rw [lxs_end N S _ rfl] at hl; cases hl; simp
  | succ n ih =>
    intro p r l h hl
    by_cases h0 : r.drop (blk false r) = []
    · rw [lxs_end N S _ h0] at hl; cases hl; simp
    · cases ht : tok N S (r.drop (blk false r)) with
      | error e => rw [lxs_err N S _ h0 ht] at hl; cases hl
      | ok z =>
        obtain ⟨k, t, v, q⟩ := z
        have hp := tok_pos N S ht
        rw [List.length_drop] at hp
        rw [lxs_ok N S _ ht] at hl
        cases hr : lxs N S (p + blk false r + q) (r.drop (blk false r + q)) with
        | error e => rw [hr] at hl; cases hl
        | ok l2 =>
          rw [hr] at hl
          cases hl
          have := ih _ _ _ (by rw [List.length_drop]; omega) hr
          rw [List.length_drop] at this
          simp only [List.length_cons]; omega
end
end Lx
end Go.Proofs.YtpddkchnogfjkaaDoor
