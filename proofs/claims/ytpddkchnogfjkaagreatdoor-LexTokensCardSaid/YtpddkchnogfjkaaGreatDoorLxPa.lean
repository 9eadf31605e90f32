/- Mathematics of layer 13: blanks, and the token ahead, in a row of bytes; what a new line does between two; no program. -/
import Derived.ProofKit
import Derived.Test.YtpddkchnogfjkaaGreatDoorChecked
import Derived.Lib.Hide
import Derived.Deep.QuietTactic
import Derived.BigQuiet
import Derived.BigRegion
import Derived.RegionTactic
import Derived.ChangeAlike
import Derived.Deep.RegionHeld3
import Derived.Deep.DeepCutAuto
import Derived.IntWalk
import Derived.Laws.Unary
namespace Go.Proofs.YtpddkchnogfjkaaGreatDoor
namespace Lx
/-- may a name begin so -/
def isL (c : UInt8) : Bool := decide (97 ≤ c.toNat ∧ c.toNat ≤ 122 ∨ 65 ≤ c.toNat ∧ c.toNat ≤ 90 ∨ c.toNat = 95)
def isD (c : UInt8) : Bool := decide (48 ≤ c.toNat ∧ c.toNat ≤ 57)
def isW (c : UInt8) : Bool := isL c || isD c
/-- is it one of the four blanks -/
def isB (c : UInt8) : Bool := decide (c.toNat = 32 ∨ c.toNat = 9 ∨ c.toNat = 10 ∨ c.toNat = 13)
/-- how many bytes ahead are blanks; 'b': within a line that a # has begun -/
def blk : Bool → List UInt8 → Nat
  | _, [] => 0
  | true, c :: t => 1 + blk (c.toNat != 10) t
  | false, c :: t => if c.toNat = 35 then 1 + blk true t else if isB c then 1 + blk false t else 0
def dl (c : UInt8) : Nat := if c.toNat = 36 then 1 else 0
/-- how long a name ahead is -/
def nm (r : List UInt8) : Nat := if (r.head?.map isL).getD false then (r.takeWhile isW).length else 0
def dgs (r : List UInt8) : Nat := (r.takeWhile isD).length
def is1 (r : List UInt8) (i : Nat) (n : Nat) : Bool := (r[i]?.map fun c => decide (c.toNat = n)).getD false
/-- how long a number ahead is -/
def fracL (r : List UInt8) (i : Nat) : Nat := if is1 r i 46 ∧ 0 < dgs (r.drop (i + 1)) then i + 1 + dgs (r.drop (i + 1)) else i
def expK (r : List UInt8) (i : Nat) : Nat := if is1 r (i + 1) 43 ∨ is1 r (i + 1) 45 then i + 2 else i + 1
def expL (r : List UInt8) (i : Nat) : Nat := if (is1 r i 101 ∨ is1 r i 69) ∧ 0 < dgs (r.drop (expK r i)) then expK r i + dgs (r.drop (expK r i)) else i
def numL (r : List UInt8) : Nat := expL r (fracL r (dgs r))
/-- how long a string is whose first quote stands ahead of what is given; none: it doesn't end -/
def strE : List UInt8 → Option Nat
  | [] => none
  | [c] => if c.toNat = 34 then some 1 else none
  | c :: d :: t => if c.toNat = 92 then (strE t).map (· + 2) else if c.toNat = 34 then some 1 else (strE (d :: t)).map (· + 1)
def twos : List (List UInt8) := [[47, 47], [61, 61], [33, 61], [60, 61], [62, 61]]
def ones : List UInt8 := [46, 124, 44, 60, 62, 43, 45, 42, 47, 37, 40, 41, 91, 93, 123, 125, 58, 59]
/-- a token: its kind, its text, its number, its place -/
structure Tk where
  k : Nat
  t : List UInt8
  c : Int
  s : Int
  p : Nat
section
variable (N : List UInt8 → Int × Int × Nat) (S : List UInt8 → List UInt8 × Nat)
/-- the token ahead (kind, text, number, length), or the error's number -/
def tok (r : List UInt8) : Except Nat (Nat × List UInt8 × (Int × Int) × Nat) :=
  match r with
  | [] => .error 14
  | c :: t =>
    if isL c ∨ c.toNat = 36 then
      let n := nm (r.drop (dl c))
      if n = 0 ∨ 16 < n then .error 14 else .ok (1 + dl c, (r.drop (dl c)).take n, (0, 0), dl c + n)
    else if isD c then
      let w := r.take (numL r)
      if (N w).2.2 ≠ 0 then .error (N w).2.2 else .ok (3, w, ((N w).1, (N w).2.1), numL r)
    else if c.toNat = 34 then
      match strE t with
      | none => .error 14
      | some n => let w := r.take (n + 1)
        if (S w).2 = 3 then .error 14 else if (S w).2 ≠ 0 then .error (S w).2 else .ok (4, (S w).1, (0, 0), n + 1)
    else if twos.contains (r.take 2) then .ok (5, r.take 2, (0, 0), 2)
    else if ones.contains c then .ok (5, [c], (0, 0), 1)
    else .error 14
/-- the tokens of what stands from a place on, or the place and the number of the error -/
def lx : Nat → Nat → List UInt8 → Except (Nat × Nat) (List Tk)
  | 0, p, _ => .error (p, 14)
  | f + 1, p, r =>
    let b := blk false r
    if r.drop b = [] then .ok [⟨6, [], 0, 0, p + b⟩]
    else match tok N S (r.drop b) with
      | .error e => .error (p + b, e)
      | .ok (k, t, n, m) => (lx f (p + b + m) (r.drop (b + m))).map (⟨k, t, n.1, n.2, p + b⟩ :: ·)

theorem blk_le : ∀ (b : Bool) (r : List UInt8), blk b r ≤ r.length
  | _, [] => by cases ‹Bool› <;> simp [blk]
  | true, c :: t => by have := blk_le (c.toNat != 10) t; simp only [blk, List.length_cons]; omega
  | false, c :: t => by
    have h1 := blk_le true t
    have h2 := blk_le false t
    simp only [blk, List.length_cons]
    split
    · omega
    · split
      · omega
      · omega
/-- behind what is blank up to its end a new line ends the row that a # has begun, too -/
theorem blk_line : ∀ (b : Bool) (x y : List UInt8), blk b x = x.length → blk b (x ++ 10 :: y) = x.length + 1 + blk false y
  | true, [], y, _ => by simp only [List.nil_append, blk, List.length_nil]; simp
  | false, [], y, _ => by simp only [List.nil_append, blk, List.length_nil]; simp [isB]
  | true, c :: t, y, h => by
    simp only [blk, List.length_cons] at h
    have ih := blk_line (c.toNat != 10) t y (by omega)
    simp only [List.cons_append, blk, List.length_cons]
    omega
  | false, c :: t, y, h => by
    simp only [blk, List.length_cons] at h
    simp only [List.cons_append, blk, List.length_cons]
    split at h
    · rename_i hc
      have ih := blk_line true t y (by omega)
      rw [if_pos hc]; omega
    · rename_i hc
      rw [if_neg hc]
      split at h
      · rename_i hb
        have ih := blk_line false t y (by omega)
        rw [if_pos hb]; omega
      · omega
/-- what stands behind what is no blank plays no part -/
theorem blk_more : ∀ (b : Bool) (x y : List UInt8), blk b x < x.length → blk b (x ++ y) = blk b x
  | _, [], y, h => by simp at h
  | true, c :: t, y, h => by
    simp only [blk, List.length_cons] at h
    simp only [List.cons_append, blk]
    rw [blk_more _ t y (by omega)]
  | false, c :: t, y, h => by
    simp only [blk, List.length_cons] at h
    simp only [List.cons_append, blk]
    split at h
    · rename_i hc; rw [if_pos hc, if_pos hc, blk_more _ t y (by omega)]
    · rename_i hc
      rw [if_neg hc, if_neg hc]
      split at h
      · rename_i hb; rw [if_pos hb, if_pos hb, blk_more _ t y (by omega)]
      · rename_i hb; rw [if_neg hb, if_neg hb]
theorem tw_stop (p : UInt8 → Bool) (hp : p 10 = false) : ∀ (x y : List UInt8), (x ++ 10 :: y).takeWhile p = x.takeWhile p
  | [], y => by simp [hp]
  | c :: t, y => by simp only [List.cons_append, List.takeWhile_cons]; rw [tw_stop p hp t y]
theorem nm_line (x y : List UInt8) : nm (x ++ 10 :: y) = nm x := by
  unfold nm
  rw [tw_stop isW (by decide)]
  cases x with
  | nil => have : isL 10 = false := by decide
           simp [this]
  | cons c t => rfl
theorem dgs_line (x y : List UInt8) : dgs (x ++ 10 :: y) = dgs x := by unfold dgs; rw [tw_stop isD (by decide)]
theorem tw_le (p : UInt8 → Bool) (x : List UInt8) : (x.takeWhile p).length ≤ x.length := (List.takeWhile_sublist p).length_le
theorem dgs_le (x : List UInt8) : dgs x ≤ x.length := tw_le _ _
theorem nm_le (x : List UInt8) : nm x ≤ x.length := by unfold nm; split; exact tw_le _ _; omega
theorem is1_line (x y : List UInt8) (i n : Nat) (hn : n ≠ 10) (hi : i ≤ x.length) : is1 (x ++ 10 :: y) i n = is1 x i n := by
  unfold is1
  by_cases h : i < x.length
  · rw [List.getElem?_append_left h]
  · obtain rfl : i = x.length := by omega
    rw [List.getElem?_append_right (Nat.le_refl _)]
    simp only [Nat.sub_self, List.getElem?_cons_zero, List.getElem?_eq_none (Nat.le_refl _)]
    simp; omega
theorem is1_lt {x : List UInt8} {i n : Nat} (h : is1 x i n = true) : i < x.length := by
  unfold is1 at h
  by_cases hi : i < x.length
  · exact hi
  · rw [List.getElem?_eq_none (by omega)] at h; simp at h
theorem drop_line (x y : List UInt8) (i : Nat) (hi : i ≤ x.length) : (x ++ 10 :: y).drop i = x.drop i ++ 10 :: y := by rw [List.drop_append_of_le_length hi]
theorem fracL_le (x : List UInt8) (i : Nat) (hi : i ≤ x.length) : fracL x i ≤ x.length := by
  unfold fracL; split
  · have := dgs_le (x.drop (i + 1)); rw [List.length_drop] at this; rename_i h; have := is1_lt h.1; omega
  · exact hi
theorem fracL_ge (x : List UInt8) (i : Nat) : i ≤ fracL x i := by unfold fracL; split <;> omega
theorem fracL_line (x y : List UInt8) (i : Nat) (hi : i ≤ x.length) : fracL (x ++ 10 :: y) i = fracL x i := by
  unfold fracL
  rw [is1_line x y i 46 (by omega) hi]
  by_cases h : is1 x i 46 = true
  · have := is1_lt h
    rw [drop_line x y (i + 1) (by omega), dgs_line]
  · rw [if_neg (fun c => h c.1), if_neg (fun c => h c.1)]
theorem expK_le {x : List UInt8} {i : Nat} (h : i < x.length) : expK x i ≤ x.length := by
  unfold expK; split
  · rename_i h2; rcases h2 with h2 | h2 <;> (have := is1_lt h2; omega)
  · omega
theorem expK_gt (x : List UInt8) (i : Nat) : i < expK x i := by unfold expK; split <;> omega
theorem expK_line (x y : List UInt8) (i : Nat) (hi : i < x.length) : expK (x ++ 10 :: y) i = expK x i := by
  unfold expK
  rw [is1_line x y (i + 1) 43 (by omega) hi, is1_line x y (i + 1) 45 (by omega) hi]
theorem expL_le (x : List UInt8) (i : Nat) (hi : i ≤ x.length) : expL x i ≤ x.length := by
  unfold expL; split
  · rename_i h
    have : i < x.length := by rcases h.1 with h1 | h1 <;> exact is1_lt h1
    have h2 := expK_le this
    have := dgs_le (x.drop (expK x i)); rw [List.length_drop] at this; omega
  · exact hi
theorem expL_ge (x : List UInt8) (i : Nat) : i ≤ expL x i := by
  unfold expL; split
  · have := expK_gt x i; omega
  · omega
theorem expL_line (x y : List UInt8) (i : Nat) (hi : i ≤ x.length) : expL (x ++ 10 :: y) i = expL x i := by
  unfold expL
  rw [is1_line x y i 101 (by omega) hi, is1_line x y i 69 (by omega) hi]
  by_cases h : is1 x i 101 = true ∨ is1 x i 69 = true
  · have hl : i < x.length := by rcases h with h1 | h1 <;> exact is1_lt h1
    rw [expK_line x y i hl, drop_line x y _ (expK_le hl), dgs_line]
  · rw [if_neg (fun c => h c.1), if_neg (fun c => h c.1)]
theorem numL_le (x : List UInt8) : numL x ≤ x.length := expL_le _ _ (fracL_le _ _ (dgs_le x))
theorem numL_ge (x : List UInt8) : dgs x ≤ numL x := Nat.le_trans (fracL_ge _ _) (expL_ge _ _)
theorem numL_line (x y : List UInt8) : numL (x ++ 10 :: y) = numL x := by
  unfold numL
  rw [dgs_line, fracL_line x y _ (dgs_le x), expL_line x y _ (fracL_le _ _ (dgs_le x))]
theorem strE_le : ∀ (x : List UInt8) (n : Nat), strE x = some n → n ≤ x.length ∧ 0 < n
  | [], n, h => by simp [strE] at h
  | [c], n, h => by
    simp only [strE] at h
    split at h
    · cases h; simp
    · cases h
  | c :: d :: t, n, h => by
    simp only [strE] at h
    split at h
    · obtain ⟨m, hm, rfl⟩ := Option.map_eq_some_iff.1 h
      have := strE_le t m hm
      simp only [List.length_cons]; omega
    · split at h
      · cases h; simp
      · obtain ⟨m, hm, rfl⟩ := Option.map_eq_some_iff.1 h
        have := strE_le (d :: t) m hm
        simp only [List.length_cons] at *; omega
theorem strE_more : ∀ (x y : List UInt8) (n : Nat), strE x = some n → strE (x ++ y) = some n
  | [], y, n, h => by simp [strE] at h
  | [c], y, n, h => by
    simp only [strE] at h
    split at h
    · rename_i hc
      cases h
      cases y with
      | nil => simp [strE, hc]
      | cons d t => simp [strE, hc]
    · cases h
  | c :: d :: t, y, n, h => by
    simp only [strE] at h
    simp only [List.cons_append, strE]
    split at h
    · rename_i hc
      obtain ⟨m, hm, rfl⟩ := Option.map_eq_some_iff.1 h
      rw [if_pos hc, strE_more t y m hm]; rfl
    · rename_i hc
      rw [if_neg hc]
      split at h
      · rename_i h2; rw [if_pos h2]; exact h
      · rename_i h2
        obtain ⟨m, hm, rfl⟩ := Option.map_eq_some_iff.1 h
        have := strE_more (d :: t) y m hm
        rw [List.cons_append] at this
        rw [if_neg h2, this]; rfl
theorem tok_pos {r : List UInt8} {k : Nat} {t : List UInt8} {n : Int × Int} {m : Nat} (h : tok N S r = .ok (k, t, n, m)) : 0 < m ∧ m ≤ r.length := by
  cases r with
  | nil => simp [tok] at h
  | cons c l =>
    simp only [tok] at h
    split at h
    · split at h
      · cases h
      · rename_i hn
        have h1 := nm_le ((c :: l).drop (dl c))
        rw [List.length_drop] at h1
        simp only [Except.ok.injEq, Prod.mk.injEq] at h
        obtain ⟨_, _, _, rfl⟩ := h
        simp only [List.length_cons] at *
        constructor
        · omega
        · omega
    · split at h
      · rename_i hd
        split at h
        · cases h
        · simp only [Except.ok.injEq, Prod.mk.injEq] at h
          obtain ⟨_, _, _, rfl⟩ := h
          refine ⟨?_, numL_le _⟩
          refine Nat.lt_of_lt_of_le ?_ (numL_ge _)
          unfold dgs; simp [hd]
      · split at h
        · split at h
          · cases h
          · rename_i q hq
            split at h
            · cases h
            · split at h
              · cases h
              · simp only [Except.ok.injEq, Prod.mk.injEq] at h
                obtain ⟨_, _, _, rfl⟩ := h
                have := (strE_le _ _ hq)
                simp only [List.length_cons]; omega
        · split at h
          · rename_i h2
            simp only [Except.ok.injEq, Prod.mk.injEq] at h
            obtain ⟨_, _, _, rfl⟩ := h
            cases l with
            | nil => simp [twos] at h2
            | cons d l => simp
          · split at h
            · simp only [Except.ok.injEq, Prod.mk.injEq] at h
              obtain ⟨_, _, _, rfl⟩ := h
              simp
            · cases h
/-- a token that is one stays it, whatever stands behind a new line -/
theorem tok_line {r : List UInt8} (y : List UInt8) {z : Nat × List UInt8 × (Int × Int) × Nat} (h : tok N S r = .ok z) : tok N S (r ++ 10 :: y) = .ok z := by
  cases r with
  | nil => simp [tok] at h
  | cons c l =>
    have hf : dl c ≤ (c :: l).length := by simp only [List.length_cons, dl]; split <;> omega
    simp only [tok] at h
    simp only [List.cons_append, tok]
    rw [← List.cons_append, drop_line (c :: l) y _ hf, nm_line, numL_line, List.take_append_of_le_length (nm_le _), List.take_append_of_le_length (numL_le _)]
    split at h
    · rename_i h1; rw [if_pos h1]; exact h
    · rename_i h1
      rw [if_neg h1]
      split at h
      · rename_i h2; rw [if_pos h2]; exact h
      · rename_i h2
        rw [if_neg h2]
        split at h
        · rename_i h3
          rw [if_pos h3]
          cases hq : strE l with
          | none => rw [hq] at h; cases h
          | some q =>
            rw [hq] at h
            rw [strE_more l (10 :: y) q hq]
            have := (strE_le _ _ hq).1
            simp only at h ⊢
            rw [List.take_append_of_le_length (by simp only [List.length_cons]; omega)]
            exact h
        · rename_i h3
          rw [if_neg h3]
          cases l with
          | nil =>
            have e : twos.contains (([c] ++ 10 :: y).take 2) = false := by simp [twos]
            have e2 : twos.contains ([c].take 2) = false := by simp [twos]
            rw [e, if_neg (by simp)]
            rw [e2, if_neg (by simp)] at h
            exact h
          | cons d t =>
            rw [List.take_append_of_le_length (by simp)]
            exact h
/-- all tokens of what stands from a place on -/
def lxs (p : Nat) (r : List UInt8) : Except (Nat × Nat) (List Tk) := lx N S (r.length + 1) p r
theorem lx_fuel : ∀ (n f p : Nat) (r : List UInt8), r.length ≤ n → r.length < f → lx N S f p r = lx N S (r.length + 1) p r := by
  intro n
  induction n with
  | zero =>
    intro f p r h hf
    obtain rfl : r = [] := List.length_eq_zero_iff.1 (by omega)
    cases f with
    | zero => omega
    | succ f => simp [lx]
  | succ n ih =>
    intro f p r h hf
    cases f with
    | zero => omega
    | succ f =>
      simp only [lx]
      split
      · rfl
      · cases ht : tok N S (r.drop (blk false r)) with
        | error e => rfl
        | ok z =>
          obtain ⟨k, t, m, q⟩ := z
          simp only
          have hp := tok_pos N S ht
          rw [List.length_drop] at hp
          have hl : (r.drop (blk false r + q)).length < r.length := by rw [List.length_drop]; omega
          rw [ih f _ _ (by omega) (by omega), ih r.length _ _ (by omega) hl]
theorem lxs_end (p : Nat) {r : List UInt8} (h : r.drop (blk false r) = []) : lxs N S p r = .ok [⟨6, [], 0, 0, p + blk false r⟩] := by
  unfold lxs; simp only [lx]; rw [if_pos h]
theorem lxs_err (p : Nat) {r : List UInt8} {e : Nat} (h0 : r.drop (blk false r) ≠ []) (h : tok N S (r.drop (blk false r)) = .error e) : lxs N S p r = .error (p + blk false r, e) := by
  unfold lxs; simp only [lx]; rw [if_neg h0, h]
theorem lxs_ok (p : Nat) {r : List UInt8} {k : Nat} {t : List UInt8} {n : Int × Int} {m : Nat} (h : tok N S (r.drop (blk false r)) = .ok (k, t, n, m)) :
    lxs N S p r = (lxs N S (p + blk false r + m) (r.drop (blk false r + m))).map (⟨k, t, n.1, n.2, p + blk false r⟩ :: ·) := by
  have hp := tok_pos N S h
  have h0 : r.drop (blk false r) ≠ [] := by intro c; rw [c] at hp; simp only [List.length_nil] at hp; omega
  rw [List.length_drop] at hp
  have hl : (r.drop (blk false r + m)).length < r.length := by rw [List.length_drop]; omega
  have h1 : lxs N S p r = (lx N S r.length (p + blk false r + m) (r.drop (blk false r + m))).map (⟨k, t, n.1, n.2, p + blk false r⟩ :: ·) := by
    unfold lxs; simp only [lx]; rw [if_neg h0, h]
  rw [h1, lx_fuel N S _ r.length _ _ (Nat.le_refl _) hl]
  rfl
def Tk.by (d : Nat) (x : Tk) : Tk := { x with p := x.p + d }
def shf (d : Nat) : Except (Nat × Nat) (List Tk) → Except (Nat × Nat) (List Tk)
  | .error (p, e) => .error (p + d, e)
  | .ok l => .ok (l.map (Tk.by d))
theorem shf_map (d : Nat) (x : Tk) (l : Except (Nat × Nat) (List Tk)) : shf d (l.map (x :: ·)) = (shf d l).map (x.by d :: ·) := by
  cases l with
  | error z => rfl
  | ok l => rfl
theorem lxs_shift (d : Nat) : ∀ (n p : Nat) (r : List UInt8), r.length ≤ n → lxs N S (p + d) r = shf d (lxs N S p r) := by
  intro n
  induction n with
  | zero =>
    intro p r h
    obtain rfl : r = [] := List.length_eq_zero_iff.1 (by omega)
    rw [lxs_end N S _ rfl, lxs_end N S _ rfl]
    simp [shf, blk, Tk.by]
  | succ n ih =>
    intro p r h
    by_cases h0 : r.drop (blk false r) = []
    · rw [lxs_end N S _ h0, lxs_end N S _ h0]
      simp [shf, Tk.by]; omega
    · cases ht : tok N S (r.drop (blk false r)) with
      | error e => rw [lxs_err N S _ h0 ht, lxs_err N S _ h0 ht]; simp [shf]; omega
      | ok z =>
        obtain ⟨k, t, m, q⟩ := z
        have hp := tok_pos N S ht
        rw [List.length_drop] at hp
        rw [lxs_ok N S _ ht, lxs_ok N S _ ht, shf_map, ← ih _ _ (by rw [List.length_drop]; omega)]
        rw [show p + d + blk false r + q = p + blk false r + q + d by omega]
        simp only [Tk.by]
        rw [show p + d + blk false r = p + blk false r + d by omega]
/-- blanks ahead turn nothing but places -/
theorem lxs_blank (p : Nat) {x r : List UInt8} (h : blk false (x ++ r) = x.length + blk false r) : lxs N S p (x ++ r) = lxs N S (p + x.length) r := by
  have e : ∀ m, (x ++ r).drop (blk false (x ++ r) + m) = r.drop (blk false r + m) := fun m => by
    rw [h, Nat.add_assoc, ← List.drop_drop, List.drop_left]
  have e0 := e 0
  simp only [Nat.add_zero] at e0
  by_cases h0 : r.drop (blk false r) = []
  · rw [lxs_end N S _ h0, lxs_end N S _ (by rw [e0]; exact h0), h, Nat.add_assoc]
  · cases ht : tok N S (r.drop (blk false r)) with
    | error z => rw [lxs_err N S _ h0 ht, lxs_err N S _ (by rw [e0]; exact h0) (by rw [e0]; exact ht), h, Nat.add_assoc]
    | ok z =>
      obtain ⟨k, t, m, q⟩ := z
      rw [lxs_ok N S _ ht, lxs_ok N S (r := x ++ r) _ (by rw [e0]; exact ht), e, h, ← Nat.add_assoc]
theorem lxs_ne (p : Nat) (r : List UInt8) {l : List Tk} (h : lxs N S p r = .ok l) : l ≠ [] := by
  by_cases h0 : r.drop (blk false r) = []
  · rw [lxs_end N S _ h0] at h; cases h; simp
  · cases ht : tok N S (r.drop (blk false r)) with
    | error e => rw [lxs_err N S _ h0 ht] at h; cases h
    | ok z =>
      obtain ⟨k, t, m, q⟩ := z
      rw [lxs_ok N S _ ht] at h
      cases hr : lxs N S (p + blk false r + q) (r.drop (blk false r + q)) with
      | error e => rw [hr] at h; cases h
      | ok l2 => rw [hr] at h; cases h; simp
/-- two queries, a new line between them -/
theorem lxs_join : ∀ (n p : Nat) (a b : List UInt8) (l m : List Tk), a.length ≤ n → lxs N S p a = .ok l → lxs N S (p + a.length + 1) b = .ok m →
    lxs N S p (a ++ 10 :: b) = .ok (l.dropLast ++ m) := by
  intro n
  induction n with
  | zero =>
    intro p a b l m h hl hm
    obtain rfl : a = [] := List.length_eq_zero_iff.1 (by omega)
    rw [lxs_end N S _ rfl] at hl
    cases hl
    have := lxs_blank N S p (x := [10]) (r := b) (by have := blk_line false [] b rfl; simpa using this)
    simp only [List.nil_append, List.dropLast_singleton]
    rw [show (10 :: b : List UInt8) = [10] ++ b from rfl, this]
    exact hm
  | succ n ih =>
    intro p a b l m h hl hm
    by_cases h0 : a.drop (blk false a) = []
    · have hb : blk false a = a.length := by
        have := congrArg List.length h0; rw [List.length_drop] at this; simp only [List.length_nil] at this
        have := blk_le false a; omega
      rw [lxs_end N S _ h0] at hl
      cases hl
      have := lxs_blank N S p (x := a ++ [10]) (r := b) (by
        have := blk_line false a b hb
        simp only [List.append_assoc, List.singleton_append, List.length_append, List.length_singleton]; exact this)
      simp only [List.append_assoc, List.singleton_append, List.length_append, List.length_singleton] at this
      rw [this]
      simp only [List.dropLast_singleton, List.nil_append]
      exact hm
    · have hlt : blk false a < a.length := by
        have h1 := blk_le false a
        rcases Nat.lt_or_ge (blk false a) a.length with h2 | h2
        · exact h2
        · exact absurd (List.drop_eq_nil_of_le h2) h0
      cases ht : tok N S (a.drop (blk false a)) with
      | error e => rw [lxs_err N S _ h0 ht] at hl; cases hl
      | ok z =>
        obtain ⟨k, t, v, q⟩ := z
        have hp := tok_pos N S ht
        rw [List.length_drop] at hp
        rw [lxs_ok N S _ ht] at hl
        cases hr : lxs N S (p + blk false a + q) (a.drop (blk false a + q)) with
        | error e => rw [hr] at hl; cases hl
        | ok l2 =>
          rw [hr] at hl
          have hl' : l = ⟨k, t, v.1, v.2, p + blk false a⟩ :: l2 := by cases hl; rfl
          have hbk := blk_more false a (10 :: b) hlt
          have e : ∀ j, blk false a + j ≤ a.length → (a ++ 10 :: b).drop (blk false a + j) = a.drop (blk false a + j) ++ 10 :: b := fun j hj => drop_line a b _ hj
          have e0 := e 0 (by omega)
          simp only [Nat.add_zero] at e0
          have ht2 : tok N S ((a ++ 10 :: b).drop (blk false (a ++ 10 :: b))) = .ok (k, t, v, q) := by rw [hbk, e0]; exact tok_line N S b ht
          rw [lxs_ok N S _ ht2, hbk, e q (by omega)]
          rw [ih _ _ b l2 m (by rw [List.length_drop]; omega) hr (by
            rw [List.length_drop, show p + blk false a + q + (a.length - (blk false a + q)) + 1 = p + a.length + 1 by omega]; exact hm)]
          rw [hl', List.dropLast_cons_of_ne_nil (lxs_ne N S _ _ hr)]
          rfl
theorem lxs_len : ∀ (n p : Nat) (r : List UInt8) (l : List Tk), r.length ≤ n → lxs N S p r = .ok l → l.length ≤ r.length + 1 := by
  intro n
  induction n with
  | zero =>
    intro p r l h hl
    obtain rfl : r = [] := List.length_eq_zero_iff.1 (by omega)
    rw [lxs_end N S _ rfl] at hl; cases hl; simp
  | succ n ih =>
    intro p r l h hl
    by_cases h0 : r.drop (blk false r) = []
    · rw [lxs_end N S _ h0] at hl; cases hl; simp
    · cases ht : tok N S (r.drop (blk false r)) with
      | error e => rw [lxs_err N S _ h0 ht] at hl; cases hl
      | ok z =>
        obtain ⟨k, t, v, q⟩ := z
        have hp := tok_pos N S ht
        rw [List.length_drop] at hp
        rw [lxs_ok N S _ ht] at hl
        cases hr : lxs N S (p + blk false r + q) (r.drop (blk false r + q)) with
        | error e => rw [hr] at hl; cases hl
        | ok l2 =>
          rw [hr] at hl
          cases hl
          have := ih _ _ _ (by rw [List.length_drop]; omega) hr
          rw [List.length_drop] at this
          simp only [List.length_cons]; omega
end
end Lx
end Go.Proofs.YtpddkchnogfjkaaGreatDoor
namespace Go.Proofs.YtpddkchnogfjkaaGreatDoor
open Go.RowKit
namespace Lx
theorem at_drop (s : ByteArray) (k : Nat) (h : k < s.size) : s.data.toList.drop k = s[k] :: s.data.toList.drop (k + 1) :=
  List.drop_eq_getElem_cons (show k < s.data.toList.length by simpa using h)
theorem at_end (s : ByteArray) (k : Nat) (h : s.size ≤ k) : s.data.toList.drop k = [] := List.drop_eq_nil_of_le (by simpa using h)
/-- how far bytes of a kind go on from a place -/
def run (p : UInt8 → Bool) (s : ByteArray) (k : Nat) : Nat := k + ((s.data.toList.drop k).takeWhile p).length
theorem run_go {p : UInt8 → Bool} {s : ByteArray} {k : Nat} (h : k < s.size) (hp : p s[k] = true) : run p s k = run p s (k + 1) := by
  unfold run; rw [at_drop s k h, List.takeWhile_cons, if_pos hp, List.length_cons]; omega
theorem run_out {p : UInt8 → Bool} {s : ByteArray} {k : Nat} (h : k < s.size) (hp : p s[k] = false) : run p s k = k := by
  unfold run; rw [at_drop s k h, List.takeWhile_cons, if_neg (by rw [hp]; simp)]; rfl
theorem run_end {p : UInt8 → Bool} {s : ByteArray} {k : Nat} (h : s.size ≤ k) : run p s k = k := by
  unfold run; rw [at_end s k h]; rfl
theorem run_le (p : UInt8 → Bool) (s : ByteArray) {k : Nat} (h : k ≤ s.size) : run p s k ≤ s.size := by
  have := tw_le p (s.data.toList.drop k)
  rw [List.length_drop] at this
  have e : s.data.toList.length = s.size := by simp
  unfold run; omega
theorem run_ge (p : UInt8 → Bool) (s : ByteArray) (k : Nat) : k ≤ run p s k := by unfold run; omega
theorem ret_i {a b : Int} (h : a = b) : Ending.returned (.int .i64 a) = .returned (.int .i64 b) := by rw [h]
theorem ret_b {a b : Bool} (h : a = b) : Ending.returned (.bool a) = .returned (.bool b) := by rw [h]
def isLn (c : Nat) : Bool := decide (97 ≤ c ∧ c ≤ 122 ∨ 65 ≤ c ∧ c ≤ 90 ∨ c = 95)
def isDn (c : Nat) : Bool := decide (48 ≤ c ∧ c ≤ 57)
set_option maxRecDepth 100000 in
set_option maxHeartbeats 1000000 in
theorem rletter_any (b : Nat) (w : World) (hb : b < 256) :
    Calls Tryz.prog 10 #[.int .u8 b] w fun e w' => e = .returned (.bool (isLn b)) ∧ w = w' := by
  go_enter Tryz.func10, Tryz.ntmps10
  go_wp2
  all_goals
    go_ret
    refine ⟨ret_b ?_, rfl⟩
    unfold isLn
    (try simp only [beq_iff_eq, beq_eq_false_iff_ne, ne_eq] at *)
    first
    | (symm; apply decide_eq_true; omega)
    | (symm; apply decide_eq_false; omega)
    | (rw [Bool.eq_iff_iff]; simp only [Bool.or_eq_true, decide_eq_true_eq, beq_iff_eq]; omega)
set_option maxRecDepth 100000 in
set_option maxHeartbeats 1000000 in
theorem rdigit_any (b : Nat) (w : World) (hb : b < 256) :
    Calls Tryz.prog 12 #[.int .u8 b] w fun e w' => e = .returned (.bool (isDn b)) ∧ w = w' := by
  go_enter Tryz.func12, Tryz.ntmps12
  go_wp2
  all_goals
    go_ret
    refine ⟨ret_b ?_, rfl⟩
    unfold isDn
    (try simp only [beq_iff_eq, beq_eq_false_iff_ne, ne_eq] at *)
    first
    | (symm; apply decide_eq_true; omega)
    | (symm; apply decide_eq_false; omega)
    | (rw [Bool.eq_iff_iff]; simp only [decide_eq_true_eq]; omega)
/-- where a name that begins at a place ends -/
def nmE (s : ByteArray) (i : Nat) : Nat := i + nm (s.data.toList.drop i)
theorem isL_n (b : UInt8) : isL b = isLn b.toNat := rfl
theorem isD_n (b : UInt8) : isD b = isDn b.toNat := rfl
theorem nmE_no {s : ByteArray} {i : Nat} (h : i < s.size) (hL : isLn s[i].toNat = false) : nmE s i = i := by
  unfold nmE nm; rw [at_drop s i h]
  simp only [List.head?_cons, Option.map_some, Option.getD_some, isL_n, hL]; rfl
theorem nmE_end {s : ByteArray} {i : Nat} (h : s.size ≤ i) : nmE s i = i := by
  unfold nmE nm; rw [at_end s i h]; rfl
theorem nmE_run {s : ByteArray} {i : Nat} (h : i < s.size) (hL : isLn s[i].toNat = true) : nmE s i = run isW s i := by
  unfold nmE nm run; rw [at_drop s i h]
  simp only [List.head?_cons, Option.map_some, Option.getD_some, isL_n, hL, if_true]
theorem isW_n (b : UInt8) : isW b = (isLn b.toNat || isDn b.toNat) := rfl
set_option maxRecDepth 100000 in
set_option maxHeartbeats 1000000 in
theorem rname_any (s : ByteArray) (i : Nat) (w : World) (hs : s.size ≤ 1000000000) (hi : i ≤ s.size) :
    Calls Tryz.prog 11 #[.string s, .int .i64 (i : Nat)] w fun e w' => e = .returned (.int .i64 (nmE s i : Nat)) ∧ w = w' := by
  by_cases h0 : i < s.size
  · obtain ⟨c, hc⟩ : ∃ c, s[i].toNat = c := ⟨_, rfl⟩
    have hc256 : c < 256 := by rw [← hc]; exact s[i].toNat_lt
    have hl := fun w => rletter_any c w hc256
    cases hL : isLn c with
    | false =>
      rw [nmE_no h0 (by rw [hc]; exact hL)]
      rw [hL] at hl
      clear hL hc256
      go_enter Tryz.func11, Tryz.ntmps11
      go_wp2_with (go_at_call 10; refine (hl _).mono ?_; rintro e w' ⟨rfl, rfl⟩)
      go_ret
      exact ⟨rfl, rfl⟩
    | true =>
      rw [nmE_run h0 (by rw [hc]; exact hL)]
      rw [hL] at hl
      obtain ⟨R, hR⟩ : ∃ R, run isW s i = R := ⟨_, rfl⟩
      rw [hR]
      have HR := Lib.hid hR
      clear hL hc256 hR
      go_enter Tryz.func11, Tryz.ntmps11
      go_wp2_with (go_at_call 10; refine (hl _).mono ?_; rintro e w' ⟨rfl, rfl⟩)
      simp only [show decide (s.size ≤ i) = false from decide_eq_false (by omega)]
      go_loop [1] (fun j => ∃ k : Nat, j = .int .i64 (k : Nat) ∧ k ≤ s.size ∧ Hid (run isW s k = R)) (fun j => s.size - (intOf j).toNat)
      case atStart => exact ⟨i, rfl, hi, HR⟩
      case round =>
        clear hl
        obtain ⟨k, rfl, hk, HK⟩ := hrel
        by_cases hlt : k < s.size
        · obtain ⟨d, hd⟩ : ∃ d, s[k].toNat = d := ⟨_, rfl⟩
          have hd256 : d < 256 := by rw [← hd]; exact s[k].toNat_lt
          have h1 := fun w => rletter_any d w hd256
          have h2 := fun w => rdigit_any d w hd256
          have hw : isW s[k] = (isLn d || isDn d) := by rw [isW_n, hd]
          have HW := Lib.hid hw
          clear hw hd256
          cases hL : isLn d with
          | true =>
            have HN : Hid (run isW s (k + 1) = R) := Lib.hid (by rw [← run_go hlt (by rw [HW.out, hL]; rfl)]; exact HK.out)
            rw [hL] at h1
            clear hL h2 HW HK HR
            go_wp2_with (go_at_call 10; refine (h1 _).mono ?_; rintro e w' ⟨rfl, rfl⟩)
            go_round
            case rel => exact ⟨k + 1, by go_num, by omega, HN⟩
            case measure => simp [intOf]; omega
          | false =>
            cases hD : isDn d with
            | true =>
              have HN : Hid (run isW s (k + 1) = R) := Lib.hid (by rw [← run_go hlt (by rw [HW.out, hL, hD]; rfl)]; exact HK.out)
              rw [hL] at h1
              rw [hD] at h2
              clear hL hD HW HK HR
              go_wp2_with (first | (go_at_call 10; refine (h1 _).mono ?_; rintro e w' ⟨rfl, rfl⟩) | (go_at_call 12; refine (h2 _).mono ?_; rintro e w' ⟨rfl, rfl⟩))
              go_round
              case rel => exact ⟨k + 1, by go_num, by omega, HN⟩
              case measure => simp [intOf]; omega
            | false =>
              have HN : Hid (k = R) := Lib.hid (by rw [← HK.out]; exact (run_out hlt (by rw [HW.out, hL, hD]; rfl)).symm)
              rw [hL] at h1
              rw [hD] at h2
              clear hL hD HW HK HR
              go_wp2_with (first | (go_at_call 10; refine (h1 _).mono ?_; rintro e w' ⟨rfl, rfl⟩) | (go_at_call 12; refine (h2 _).mono ?_; rintro e w' ⟨rfl, rfl⟩))
              go_ret
              exact ⟨by rw [HN.out]; rfl, rfl⟩
        · have HN : Hid (k = R) := Lib.hid (by rw [← HK.out]; exact (run_end (by omega)).symm)
          clear HK HR
          go_wp2_with (fail)
          all_goals first | exact absurd ‹some undef = some (Value.bool _)› (by unfold undef; simp) | skip
          all_goals go_ret
          all_goals exact ⟨by rw [HN.out]; rfl, rfl⟩
  · rw [nmE_end (by omega)]
    go_enter Tryz.func11, Tryz.ntmps11
    go_wp2
    go_ret
    exact ⟨rfl, rfl⟩
set_option maxRecDepth 100000 in
set_option maxHeartbeats 1000000 in
theorem rdigits_any (s : ByteArray) (i : Nat) (w : World) (hs : s.size ≤ 1000000000) (hi : i ≤ s.size) :
    Calls Tryz.prog 25 #[.string s, .int .i64 (i : Nat)] w fun e w' => e = .returned (.int .i64 (run isD s i : Nat)) ∧ w = w' := by
  obtain ⟨R, hR⟩ : ∃ R, run isD s i = R := ⟨_, rfl⟩
  rw [hR]
  have HR := Lib.hid hR
  clear hR
  go_enter Tryz.func25, Tryz.ntmps25
  go_wp2
  go_loop [1] (fun j => ∃ k : Nat, j = .int .i64 (k : Nat) ∧ k ≤ s.size ∧ Hid (run isD s k = R)) (fun j => s.size - (intOf j).toNat)
  case atStart => exact ⟨i, rfl, hi, HR⟩
  case round =>
    obtain ⟨k, rfl, hk, HK⟩ := hrel
    by_cases hlt : k < s.size
    · obtain ⟨d, hd⟩ : ∃ d, s[k].toNat = d := ⟨_, rfl⟩
      have hd256 : d < 256 := by rw [← hd]; exact s[k].toNat_lt
      have h2 := fun w => rdigit_any d w hd256
      have hw : isD s[k] = isDn d := by rw [isD_n, hd]
      have HW := Lib.hid hw
      clear hw hd256
      cases hD : isDn d with
      | true =>
        have HN : Hid (run isD s (k + 1) = R) := Lib.hid (by rw [← run_go hlt (by rw [HW.out, hD])]; exact HK.out)
        rw [hD] at h2
        clear hD HW HK HR
        go_wp2_with (go_at_call 12; refine (h2 _).mono ?_; rintro e w' ⟨rfl, rfl⟩)
        go_round
        case rel => exact ⟨k + 1, by go_num, by omega, HN⟩
        case measure => simp [intOf]; omega
      | false =>
        have HN : Hid (k = R) := Lib.hid (by rw [← HK.out]; exact (run_out hlt (by rw [HW.out, hD])).symm)
        rw [hD] at h2
        clear hD HW HK HR
        go_wp2_with (go_at_call 12; refine (h2 _).mono ?_; rintro e w' ⟨rfl, rfl⟩)
        go_ret
        exact ⟨by rw [HN.out]; rfl, rfl⟩
    · have HN : Hid (k = R) := Lib.hid (by rw [← HK.out]; exact (run_end (by omega)).symm)
      clear HK HR
      go_wp2_with (fail)
      all_goals first | exact absurd ‹some undef = some (Value.bool _)› (by unfold undef; simp) | skip
      all_goals go_ret
      all_goals exact ⟨by rw [HN.out]; rfl, rfl⟩
/-- where a string ends whose quote stands at a place; none: it doesn't end -/
def strO (s : ByteArray) (k : Nat) : Option Nat := (strE (s.data.toList.drop k)).map (k + ·)
theorem strO_end {s : ByteArray} {k : Nat} (h : s.size ≤ k) : strO s k = none := by unfold strO; rw [at_end s k h]; rfl
theorem strO_q {s : ByteArray} {k : Nat} (h : k < s.size) (hc : s[k].toNat = 34) : strO s k = some (k + 1) := by
  unfold strO; rw [at_drop s k h]
  cases s.data.toList.drop (k + 1) with
  | nil => simp [strE, hc]
  | cons d t => simp [strE, hc]
theorem strO_esc {s : ByteArray} {k : Nat} (h : k < s.size) (hc : s[k].toNat = 92) : strO s k = strO s (k + 2) := by
  unfold strO; rw [at_drop s k h]
  by_cases h2 : k + 1 < s.size
  · rw [at_drop s (k + 1) h2]
    simp only [strE, if_pos hc, Option.map_map]
    congr 1
    funext x
    simp only [Function.comp]; omega
  · rw [at_end s (k + 1) (by omega), at_end s (k + 2) (by omega)]
    simp [strE, hc]
theorem strO_more {s : ByteArray} {k : Nat} (h : k < s.size) (h1 : s[k].toNat ≠ 92) (h2 : s[k].toNat ≠ 34) : strO s k = strO s (k + 1) := by
  unfold strO; rw [at_drop s k h]
  cases s.data.toList.drop (k + 1) with
  | nil => simp [strE, h2]
  | cons d t =>
    simp only [strE, if_neg h1, if_neg h2, Option.map_map]
    congr 1
    funext x
    simp only [Function.comp]; omega
/-- a place, or -1 -/
def orM (o : Option Nat) : Int := match o with | some n => (n : Nat) | none => -1
set_option maxRecDepth 100000 in
set_option maxHeartbeats 1000000 in
theorem rtext_any (s : ByteArray) (i : Nat) (w : World) (hs : s.size ≤ 1000000000) (hi : i ≤ s.size) :
    Calls Tryz.prog 15 #[.string s, .int .i64 (i : Nat)] w fun e w' => e = .returned (.int .i64 (orM (strO s (i + 1)))) ∧ w = w' := by
  obtain ⟨R, hR⟩ : ∃ R, strO s (i + 1) = R := ⟨_, rfl⟩
  rw [hR]
  have HR := Lib.hid hR
  clear hR
  go_enter Tryz.func15, Tryz.ntmps15
  go_wp2
  go_loop [5] (fun j => ∃ k : Nat, j = .int .i64 (k : Nat) ∧ k ≤ s.size + 2 ∧ Hid (strO s k = R)) (fun j => s.size + 2 - (intOf j).toNat)
  case atStart => exact ⟨i + 1, by go_num, by omega, HR⟩
  case round =>
    obtain ⟨k, rfl, hk, HK⟩ := hrel
    by_cases hlt : k < s.size
    · obtain ⟨d, hd⟩ : ∃ d, s[k].toNat = d := ⟨_, rfl⟩
      by_cases h1 : d = 92
      · subst h1
        have HN : Hid (strO s (k + 2) = R) := Lib.hid (by rw [← strO_esc hlt hd]; exact HK.out)
        clear HK HR
        go_wp2
        go_round
        case rel => exact ⟨k + 2, by go_num, by omega, HN⟩
        case measure => simp [intOf]; omega
      · by_cases h2 : d = 34
        · subst h2
          have HN : Hid (R = some (k + 1)) := Lib.hid (by rw [← HK.out]; exact strO_q hlt hd)
          clear HK HR
          go_wp2
          go_ret
          exact ⟨by rw [HN.out]; rfl, rfl⟩
        · have HN : Hid (strO s (k + 1) = R) := Lib.hid (by rw [← strO_more hlt (by omega) (by omega)]; exact HK.out)
          have g1 : ((d : Int) == 92) = false := by simp; omega
          have g2 : ((d : Int) == 34) = false := by simp; omega
          clear HK HR
          go_wp2
          go_round
          case rel => exact ⟨k + 1, by go_num, by omega, HN⟩
          case measure => simp [intOf]; omega
    · have HN : Hid (R = none) := Lib.hid (by rw [← HK.out]; exact strO_end (by omega))
      clear HK HR
      go_wp2
      go_ret
      exact ⟨by rw [HN.out]; rfl, rfl⟩
/-- where blanks end; 'b': within a line that a # has begun -/
def blkE (b : Bool) (s : ByteArray) (k : Nat) : Nat := k + blk b (s.data.toList.drop k)
theorem blkE_end {b : Bool} {s : ByteArray} {k : Nat} (h : s.size ≤ k) : blkE b s k = k := by unfold blkE; rw [at_end s k h]; cases b <;> rfl
theorem blkE_hash {s : ByteArray} {k : Nat} (h : k < s.size) (hc : s[k].toNat = 35) : blkE false s k = blkE true s k := by
  unfold blkE; rw [at_drop s k h]
  simp only [blk, hc]; rfl
theorem blkE_sp {s : ByteArray} {k : Nat} (h : k < s.size) (h1 : s[k].toNat ≠ 35) (hb : isB s[k] = true) : blkE false s k = blkE false s (k + 1) := by
  unfold blkE; rw [at_drop s k h]
  simp only [blk, if_neg h1, if_pos hb]; omega
theorem blkE_no {s : ByteArray} {k : Nat} (h : k < s.size) (h1 : s[k].toNat ≠ 35) (hb : isB s[k] = false) : blkE false s k = k := by
  unfold blkE; rw [at_drop s k h]
  simp only [blk, if_neg h1, hb]; simp
theorem blkE_in {s : ByteArray} {k : Nat} (h : k < s.size) (h1 : s[k].toNat ≠ 10) : blkE true s k = blkE true s (k + 1) := by
  unfold blkE; rw [at_drop s k h]
  simp only [blk]; rw [show (s[k].toNat != 10) = true by simpa using h1]; omega
theorem blkE_line {s : ByteArray} {k : Nat} (h : k < s.size) (h1 : s[k].toNat = 10) : blkE true s k = blkE false s k := by
  unfold blkE; rw [at_drop s k h]
  simp only [blk, h1]
  rw [if_neg (by omega), if_pos (by unfold isB; rw [h1]; rfl)]; rfl
theorem blkE_le (b : Bool) (s : ByteArray) {k : Nat} (h : k ≤ s.size) : blkE b s k ≤ s.size := by
  have := blk_le b (s.data.toList.drop k)
  rw [List.length_drop] at this
  have e : s.data.toList.length = s.size := by simp
  unfold blkE; omega
end Lx
end Go.Proofs.YtpddkchnogfjkaaGreatDoor
namespace Go.Proofs.YtpddkchnogfjkaaGreatDoor
open Go.RowKit
namespace Lx
def fracE (s : ByteArray) (j : Nat) : Nat := if h : j < s.size then (if s[j].toNat = 46 ∧ j + 1 < run isD s (j + 1) then run isD s (j + 1) else j) else j
def expKE (s : ByteArray) (j : Nat) : Nat := if h : j + 1 < s.size then (if s[j + 1].toNat = 43 ∨ s[j + 1].toNat = 45 then j + 2 else j + 1) else j + 1
def expE (s : ByteArray) (j : Nat) : Nat := if h : j < s.size then (if (s[j].toNat = 101 ∨ s[j].toNat = 69) ∧ expKE s j < run isD s (expKE s j) then run isD s (expKE s j) else j) else j
/-- where a number ends -/
def numE (s : ByteArray) (i : Nat) : Nat := expE s (fracE s (run isD s i))
theorem is1_at (s : ByteArray) (i n c : Nat) : is1 (s.data.toList.drop i) n c = if h : i + n < s.size then decide (s[i + n].toNat = c) else false := by
  unfold is1
  rw [List.getElem?_drop]
  by_cases h : i + n < s.size
  · rw [dif_pos h, List.getElem?_eq_getElem (show i + n < s.data.toList.length by simpa using h)]; rfl
  · rw [dif_neg h, List.getElem?_eq_none (by simpa using h)]; rfl
theorem run_dgs (s : ByteArray) (i n : Nat) : run isD s (i + n) = i + (n + dgs ((s.data.toList.drop i).drop n)) := by
  unfold run dgs; rw [List.drop_drop]; omega
theorem fracE_is (s : ByteArray) (i n : Nat) : fracE s (i + n) = i + fracL (s.data.toList.drop i) n := by
  unfold fracE fracL
  rw [is1_at]
  by_cases h : i + n < s.size
  · rw [dif_pos h, dif_pos h, Nat.add_assoc, run_dgs]
    by_cases h1 : s[i + n].toNat = 46
    · by_cases h2 : 0 < dgs ((s.data.toList.drop i).drop (n + 1))
      · rw [if_pos ⟨h1, by omega⟩, if_pos ⟨by simpa using h1, h2⟩]
      · rw [if_neg (fun g => h2 (by omega)), if_neg (fun g => h2 g.2)]
    · rw [if_neg (fun g => h1 g.1), if_neg (fun g => h1 (by simpa using g.1))]
  · rw [dif_neg h, dif_neg h, if_neg (fun g => by simp at g)]
theorem expKE_is (s : ByteArray) (i n : Nat) : expKE s (i + n) = i + expK (s.data.toList.drop i) n := by
  unfold expKE expK
  rw [is1_at, is1_at]
  simp only [Nat.add_assoc]
  by_cases h : i + (n + 1) < s.size
  · rw [dif_pos h, dif_pos h, dif_pos h]
    by_cases h1 : s[i + (n + 1)].toNat = 43 ∨ s[i + (n + 1)].toNat = 45
    · rw [if_pos h1, if_pos (by simpa using h1)]
    · rw [if_neg h1, if_neg (by simpa using h1)]
  · rw [dif_neg h, dif_neg h, dif_neg h, if_neg (by simp)]
theorem expE_is (s : ByteArray) (i n : Nat) : expE s (i + n) = i + expL (s.data.toList.drop i) n := by
  unfold expE expL
  rw [is1_at, is1_at, expKE_is]
  by_cases h : i + n < s.size
  · rw [dif_pos h, dif_pos h, dif_pos h, run_dgs]
    by_cases h1 : s[i + n].toNat = 101 ∨ s[i + n].toNat = 69
    · by_cases h2 : 0 < dgs ((s.data.toList.drop i).drop (expK (s.data.toList.drop i) n))
      · rw [if_pos ⟨h1, by omega⟩, if_pos ⟨by simpa using h1, h2⟩]
      · rw [if_neg (fun g => h2 (by omega)), if_neg (fun g => h2 g.2)]
    · rw [if_neg (fun g => h1 g.1), if_neg (fun g => h1 (by simpa using g.1))]
  · rw [dif_neg h, dif_neg h, dif_neg h, if_neg (fun g => by simp at g)]
theorem numE_is (s : ByteArray) (i : Nat) : numE s i = i + numL (s.data.toList.drop i) := by
  unfold numE numL
  have := run_dgs s i 0
  rw [Nat.add_zero, Nat.zero_add, List.drop_zero] at this
  rw [this, fracE_is, expE_is]
theorem fracE_le {s : ByteArray} {j : Nat} (hj : j ≤ s.size) : fracE s j ≤ s.size := by
  unfold fracE; split
  · split
    · exact run_le _ _ (by omega)
    · exact hj
  · exact hj
theorem expKE_le {s : ByteArray} {j : Nat} (hj : j < s.size) : expKE s j ≤ s.size := by
  unfold expKE; split
  · split <;> omega
  · omega
theorem expE_le {s : ByteArray} {j : Nat} (hj : j ≤ s.size) : expE s j ≤ s.size := by
  unfold expE; split
  · split
    · exact run_le _ _ (expKE_le (by assumption))
    · exact hj
  · exact hj
theorem digits_c (s : ByteArray) (i : Nat) (z : Int) (w : World) (hs : s.size ≤ 1000000000) (hi : i ≤ s.size) (hz : z = (i : Nat)) (R : Nat) (hR : run isD s i = R) :
    Calls Tryz.prog 25 #[.string s, .int .i64 z] w fun e w' => e = .returned (.int .i64 (R : Nat)) ∧ w = w' := by
  rw [hz, ← hR]; exact rdigits_any s i w hs hi
/-- is a point ahead, with digits behind it -/
def bF (s : ByteArray) (j : Nat) : Bool := if h : j < s.size then decide (s[j].toNat = 46 ∧ j + 1 < run isD s (j + 1)) else false
/-- is an e ahead -/
def bE (s : ByteArray) (m : Nat) : Bool := if h : m < s.size then decide (s[m].toNat = 101 ∨ s[m].toNat = 69) else false
/-- is a sign ahead -/
def bS (s : ByteArray) (m : Nat) : Bool := if h : m < s.size then decide (s[m].toNat = 43 ∨ s[m].toNat = 45) else false
theorem fracE_b (s : ByteArray) (j : Nat) : fracE s j = if bF s j then run isD s (j + 1) else j := by
  unfold fracE bF
  by_cases h : j < s.size
  · simp only [dif_pos h, decide_eq_true_eq]
  · simp only [dif_neg h]; simp
theorem expKE_b (s : ByteArray) (j : Nat) : expKE s j = if bS s (j + 1) then j + 2 else j + 1 := by
  unfold expKE bS
  by_cases h : j + 1 < s.size
  · simp only [dif_pos h, decide_eq_true_eq]
  · simp only [dif_neg h]; simp
theorem expE_b (s : ByteArray) (j : Nat) : expE s j = if bE s j then (if expKE s j < run isD s (expKE s j) then run isD s (expKE s j) else j) else j := by
  unfold expE bE
  by_cases h : j < s.size
  · simp only [dif_pos h, decide_eq_true_eq]
    by_cases h1 : s[j].toNat = 101 ∨ s[j].toNat = 69
    · simp [h1]
    · rw [if_neg (fun g => h1 g.1), if_neg h1]
  · simp only [dif_neg h]; simp
set_option maxRecDepth 100000 in
set_option maxHeartbeats 1000000 in
theorem rnumber_any (s : ByteArray) (i : Nat) (w : World) (hs : s.size ≤ 1000000000) (hi : i ≤ s.size) :
    Calls Tryz.prog 13 #[.string s, .int .i64 (i : Nat)] w fun e w' => e = .returned (.int .i64 (numE s i : Nat)) ∧ w = w' := by
  unfold numE
  obtain ⟨j, hj⟩ : ∃ j, run isD s i = j := ⟨_, rfl⟩
  obtain ⟨m, hm⟩ : ∃ m, fracE s j = m := ⟨_, rfl⟩
  obtain ⟨R, hR⟩ : ∃ R, expE s m = R := ⟨_, rfl⟩
  have hjs : j ≤ s.size := by rw [← hj]; exact run_le _ _ hi
  have hms : m ≤ s.size := by rw [← hm]; exact fracE_le hjs
  have h1 := fun w => digits_c s i i w hs hi rfl j hj
  rw [hj, hm, hR]
  obtain ⟨b, hb⟩ : ∃ b, bF s j = b := ⟨_, rfl⟩
  obtain ⟨b2, hb2⟩ : ∃ b, bE s m = b := ⟨_, rfl⟩
  rw [fracE_b, hb] at hm
  rw [expE_b, hb2] at hR
  have HM := Lib.hid hm
  have HR := Lib.hid hR
  have HB := Lib.hid hb
  have HB2 := Lib.hid hb2
  have hjb : b = true → j < s.size := fun g => by
    rw [← hb] at g; unfold bF at g
    by_cases h : j < s.size
    · exact h
    · rw [dif_neg h] at g; cases g
  have hmb : b2 = true → m < s.size := fun g => by
    rw [← hb2] at g; unfold bE at g
    by_cases h : m < s.size
    · exact h
    · rw [dif_neg h] at g; cases g
  have HJB := Lib.hid hjb
  have HMB := Lib.hid hmb
  clear hj hm hR hb hb2 hjb hmb
  go_enter Tryz.func13, Tryz.ntmps13
  go_upto_region 2 with (go_at_call 25; refine (h1 _).mono ?_; rintro e w' ⟨rfl, rfl⟩)
  clear h1
  go_cut [27] (fun t wx => w = wx ∧ t = .bool b)
  case first =>
    as_aux_lemma =>
    by_cases hlt : j < s.size
    · obtain ⟨c, hc⟩ : ∃ c, s[j].toNat = c := ⟨_, rfl⟩
      by_cases h46 : c = 46
      · subst h46
        obtain ⟨q, hq⟩ : ∃ q, run isD s (j + 1) = q := ⟨_, rfl⟩
        have h2 := fun w => digits_c s (j + 1) ((j : Int) + 1) w hs (by omega) (by omega) q hq
        have HN : Hid (b = decide ((j : Int) + 1 < (q : Int))) := Lib.hid (by
          rw [← HB.out]; unfold bF; rw [dif_pos hlt, hc, hq]; exact decide_eq_decide.2 (by omega))
        clear HM hq
        go_wp2_with (go_at_call 25; refine (h2 _).mono ?_; rintro e w' ⟨rfl, rfl⟩)
        go_meet
        exact ⟨rfl, by rw [HN.out]⟩
      · have HN : Hid (b = false) := Lib.hid (by rw [← HB.out]; unfold bF; rw [dif_pos hlt, hc]; exact decide_eq_false (fun g => h46 g.1))
        have g1 : ((c : Int) == 46) = false := by simp; omega
        clear HM
        go_wp2_with (fail)
        all_goals first | exact absurd ‹some undef = some (Value.bool _)› (by unfold undef; simp) | skip
        all_goals go_meet
        all_goals exact ⟨rfl, by rw [HN.out]⟩
    · have HN : Hid (b = false) := Lib.hid (by rw [← HB.out]; unfold bF; rw [dif_neg hlt])
      clear HM
      go_wp2_with (fail)
      all_goals first | exact absurd ‹some undef = some (Value.bool _)› (by unfold undef; simp) | skip
      all_goals go_meet
      all_goals exact ⟨rfl, by rw [HN.out]⟩
  case rest =>
  as_aux_lemma =>
  obtain ⟨rfl, rfl⟩ := hcut
  go_upto_if 27 with (fail)
  go_cut [1] (fun iv wx => w = wx ∧ iv = .int .i64 (m : Nat))
  case first =>
    as_aux_lemma =>
    cases b
    · have HN : Hid (j = m) := Lib.hid HM.out
      clear HM HR
      go_wp2
      go_meet
      exact ⟨rfl, by rw [HN.out]⟩
    · have HN : Hid (run isD s (j + 1) = m) := Lib.hid HM.out
      have h2 := fun w => digits_c s (j + 1) ((j : Int) + 1) w hs (HJB.out rfl) (by omega) m HN.out
      clear HM HR
      go_wp2_with (go_at_call 25; refine (h2 _).mono ?_; rintro e w' ⟨rfl, rfl⟩)
      go_meet
      exact ⟨rfl, rfl⟩
  case rest =>
  as_aux_lemma =>
  obtain ⟨rfl, rfl⟩ := hcut
  clear HM HB HJB
  go_upto_region 4 with (fail)
  go_cut [47] (fun t wx => w = wx ∧ t = .bool b2)
  case first =>
    as_aux_lemma =>
    by_cases hlt : m < s.size
    · obtain ⟨c, hc⟩ : ∃ c, s[m].toNat = c := ⟨_, rfl⟩
      have HN : Hid (b2 = decide (c = 101 ∨ c = 69)) := Lib.hid (by rw [← HB2.out]; unfold bE; rw [dif_pos hlt, hc])
      clear HR
      by_cases h1 : c = 101
      · subst h1
        go_wp2_with (fail)
        all_goals go_meet
        all_goals exact ⟨rfl, by rw [HN.out]; rfl⟩
      · have g1 : ((c : Int) == 101) = false := by simp; omega
        have HN2 : Hid (b2 = ((c : Int) == 69)) := Lib.hid (by
          rw [HN.out, Bool.eq_iff_iff]; simp only [decide_eq_true_eq, beq_iff_eq]; omega)
        clear HN
        go_wp2_with (fail)
        all_goals go_meet
        all_goals exact ⟨rfl, by rw [HN2.out]⟩
    · have HN : Hid (b2 = false) := Lib.hid (by rw [← HB2.out]; unfold bE; rw [dif_neg hlt])
      clear HR
      go_wp2_with (fail)
      all_goals first | exact absurd ‹some undef = some (Value.bool _)› (by unfold undef; simp) | skip
      all_goals go_meet
      all_goals exact ⟨rfl, by rw [HN.out]⟩
  case rest =>
  as_aux_lemma =>
  obtain ⟨rfl, rfl⟩ := hcut
  clear HB2
  cases b2
  · have HN : Hid (m = R) := Lib.hid HR.out
    clear HR
    go_wp2
    go_ret
    exact ⟨by rw [HN.out]; rfl, rfl⟩
  · have hlt := HMB.out rfl
    obtain ⟨b3, hb3⟩ : ∃ b, bS s (m + 1) = b := ⟨_, rfl⟩
    obtain ⟨k, hk⟩ : ∃ k, expKE s m = k := ⟨_, rfl⟩
    have hks : k ≤ s.size := by rw [← hk]; exact expKE_le hlt
    obtain ⟨q, hq⟩ : ∃ q, run isD s k = q := ⟨_, rfl⟩
    have hfin : R = if k < q then q else m := by
      have := HR.out
      rw [if_pos rfl, hk, hq] at this
      exact this.symm
    have h2 := fun w => digits_c s k k w hs hks rfl q hq
    rw [expKE_b, hb3] at hk
    have HK := Lib.hid hk
    have HF := Lib.hid hfin
    have HB3 := Lib.hid hb3
    clear hfin hq hk HR HMB hb3
    go_upto_region 6 with (fail)
    go_cut [65] (fun t wx => w = wx ∧ t = .bool b3)
    case first =>
      as_aux_lemma =>
      by_cases hl2 : m + 1 < s.size
      · obtain ⟨c, hc⟩ : ∃ c, s[m + 1].toNat = c := ⟨_, rfl⟩
        have HN : Hid (b3 = decide (c = 43 ∨ c = 45)) := Lib.hid (by rw [← HB3.out]; unfold bS; rw [dif_pos hl2, hc])
        clear HK HF h2
        by_cases h1 : c = 43
        · subst h1
          go_wp2_with (fail)
          all_goals go_meet
          all_goals exact ⟨rfl, by rw [HN.out]; rfl⟩
        · have g1 : ((c : Int) == 43) = false := by simp; omega
          have HN2 : Hid (b3 = ((c : Int) == 45)) := Lib.hid (by
            rw [HN.out, Bool.eq_iff_iff]; simp only [decide_eq_true_eq, beq_iff_eq]; omega)
          clear HN
          go_wp2_with (fail)
          all_goals go_meet
          all_goals exact ⟨rfl, by rw [HN2.out]⟩
      · have HN : Hid (b3 = false) := Lib.hid (by rw [← HB3.out]; unfold bS; rw [dif_neg hl2])
        clear HK HF h2
        go_wp2_with (fail)
        all_goals first | exact absurd ‹some undef = some (Value.bool _)› (by unfold undef; simp) | skip
        all_goals go_meet
        all_goals exact ⟨rfl, by rw [HN.out]⟩
    case rest =>
    as_aux_lemma =>
    obtain ⟨rfl, rfl⟩ := hcut
    clear HB3
    have fin : ∀ z : Int, z = k → Calls Tryz.prog 25 #[.string s, .int .i64 z] w fun e w' => e = .returned (.int .i64 (q : Nat)) ∧ w = w' := fun z hz => by rw [hz]; exact h2 w
    by_cases hkq : k < q
    · have HN : Hid (R = q) := Lib.hid (by rw [HF.out, if_pos hkq])
      cases b3
      · have HK2 : Hid (m + 1 = k) := Lib.hid HK.out
        have h3 := fin ((m : Int) + 1) (by have := HK2.out; omega)
        have g3 : (m : Int) + 1 < (q : Int) := by have := HK2.out; omega
        clear HK HF h2 fin hkq
        go_wp2_with (go_at_call 25; refine h3.mono ?_; rintro e w' ⟨rfl, rfl⟩)
        go_ret
        exact ⟨by rw [HN.out]; rfl, rfl⟩
      · have HK2 : Hid (m + 2 = k) := Lib.hid HK.out
        have h3 := fin ((m : Int) + 1 + 1) (by have := HK2.out; omega)
        have g3 : (m : Int) + 1 + 1 < (q : Int) := by have := HK2.out; omega
        clear HK HF h2 fin hkq
        go_wp2_with (go_at_call 25; refine h3.mono ?_; rintro e w' ⟨rfl, rfl⟩)
        go_ret
        exact ⟨by rw [HN.out]; rfl, rfl⟩
    · have HN : Hid (R = m) := Lib.hid (by rw [HF.out, if_neg hkq])
      cases b3
      · have HK2 : Hid (m + 1 = k) := Lib.hid HK.out
        have h3 := fin ((m : Int) + 1) (by have := HK2.out; omega)
        have g3 : ¬ (m : Int) + 1 < (q : Int) := by have := HK2.out; omega
        clear HK HF h2 fin hkq
        go_wp2_with (go_at_call 25; refine h3.mono ?_; rintro e w' ⟨rfl, rfl⟩)
        go_ret
        exact ⟨by rw [HN.out]; rfl, rfl⟩
      · have HK2 : Hid (m + 2 = k) := Lib.hid HK.out
        have h3 := fin ((m : Int) + 1 + 1) (by have := HK2.out; omega)
        have g3 : ¬ (m : Int) + 1 + 1 < (q : Int) := by have := HK2.out; omega
        clear HK HF h2 fin hkq
        go_wp2_with (go_at_call 25; refine h3.mono ?_; rintro e w' ⟨rfl, rfl⟩)
        go_ret
        exact ⟨by rw [HN.out]; rfl, rfl⟩
set_option maxRecDepth 100000 in
set_option maxHeartbeats 1000000 in
theorem rblank_any (s : ByteArray) (i : Nat) (w : World) (hs : s.size ≤ 1000000000) (hi : i ≤ s.size) :
    Calls Tryz.prog 6 #[.string s, .int .i64 (i : Nat)] w fun e w' => e = .returned (.int .i64 (blkE false s i : Nat)) ∧ w = w' := by
  obtain ⟨R, hR⟩ : ∃ R, blkE false s i = R := ⟨_, rfl⟩
  rw [hR]
  have HR := Lib.hid hR
  clear hR
  go_enter Tryz.func6, Tryz.ntmps6
  go_wp2
  go_loop [1] (fun j => ∃ k : Nat, j = .int .i64 (k : Nat) ∧ k ≤ s.size ∧ Hid (blkE false s k = R)) (fun j => s.size - (intOf j).toNat)
  case atStart => exact ⟨i, rfl, hi, HR⟩
  case round =>
    clear HR
    obtain ⟨k, rfl, hk, HK⟩ := hrel
    by_cases hlt : k < s.size
    · obtain ⟨d, hd⟩ : ∃ d, s[k].toNat = d := ⟨_, rfl⟩
      by_cases h1 : d = 35
      · subst h1
        have HK1 : Hid (blkE true s k = R) := Lib.hid (by rw [← blkE_hash hlt hd]; exact HK.out)
        clear HK
        go_wp2
        go_loop [1] (fun j => ∃ m : Nat, j = .int .i64 (m : Nat) ∧ k ≤ m ∧ m ≤ s.size ∧ Hid (blkE true s m = R)) (fun j => s.size - (intOf j).toNat)
        case atStart => exact ⟨k, rfl, by omega, hk, HK1⟩
        case round =>
          clear HK1
          obtain ⟨m, rfl, hkm, hm, HMM⟩ := hrel
          by_cases hm2 : m < s.size
          · obtain ⟨e, he⟩ : ∃ e, s[m].toNat = e := ⟨_, rfl⟩
            by_cases h10 : e = 10
            · subst h10
              have HN : Hid (blkE false s m = R) := Lib.hid (by rw [← blkE_line hm2 he]; exact HMM.out)
              have hne : k ≠ m := by intro g; subst g; omega
              clear HMM
              go_wp2
              go_round
              case rel => exact ⟨m, rfl, hm, HN⟩
              case measure => simp [intOf]; omega
            · have HN : Hid (blkE true s (m + 1) = R) := Lib.hid (by rw [← blkE_in hm2 (by omega)]; exact HMM.out)
              have g1 : ((e : Int) != 10) = true := by simp; omega
              have g0 : ((e : Int) == 10) = false := by simp; omega
              clear HMM
              go_wp2
              go_round
              case rel => exact ⟨m + 1, by go_num, by omega, by omega, HN⟩
              case measure => simp [intOf]; omega
          · have HN : Hid (blkE false s m = R) := Lib.hid (by rw [blkE_end (by omega)]; have := HMM.out; rw [blkE_end (by omega)] at this; exact this)
            clear HMM
            go_wp2
            go_round
            case rel => exact ⟨m, rfl, hm, HN⟩
            case measure => simp [intOf]; omega
      · have g1 : ((d : Int) == 35) = false := by simp; omega
        by_cases hb : isB s[k] = true
        · have HN : Hid (blkE false s (k + 1) = R) := Lib.hid (by rw [← blkE_sp hlt (by omega) hb]; exact HK.out)
          have hb' := of_decide_eq_true hb
          rw [hd] at hb'
          clear HK
          rcases hb' with h2 | h2 | h2 | h2
          all_goals
            subst h2
            go_wp2
            go_round
            case rel => exact ⟨k + 1, by go_num, by omega, HN⟩
            case measure => simp [intOf]; omega
            all_goals first | exact ⟨⟨k + 1, by go_num, by omega, HN⟩, by simp [intOf]; omega⟩ | skip
        · have HN : Hid (k = R) := Lib.hid (by rw [← HK.out]; exact (blkE_no hlt (by omega) (by simpa using hb)).symm)
          have hb' : ¬ (d = 32 ∨ d = 9 ∨ d = 10 ∨ d = 13) := by
            intro g; apply hb; unfold isB; rw [hd]; exact decide_eq_true g
          have g2 : ((d : Int) == 32) = false := by simp; omega
          have g3 : ((d : Int) == 9) = false := by simp; omega
          have g4 : ((d : Int) == 10) = false := by simp; omega
          have g5 : ((d : Int) == 13) = false := by simp; omega
          have k2 : ((d : Int) != 32) = true := by simp; omega
          have k3 : ((d : Int) != 9) = true := by simp; omega
          have k4 : ((d : Int) != 10) = true := by simp; omega
          have k5 : ((d : Int) != 13) = true := by simp; omega
          clear HK
          go_wp2
          go_ret
          exact ⟨by rw [HN.out]; rfl, rfl⟩
    · have HN : Hid (k = R) := Lib.hid (by rw [← HK.out]; exact (blkE_end (by omega)).symm)
      clear HK
      go_wp2
      go_ret
      exact ⟨by rw [HN.out]; rfl, rfl⟩
end Lx
end Go.Proofs.YtpddkchnogfjkaaGreatDoor
namespace Go.Proofs.YtpddkchnogfjkaaGreatDoor
open Go.RowKit
namespace Lx
/-- the key words -/
def keyB : List ByteArray := [⟨#[100, 101, 102]⟩, ⟨#[105, 102]⟩, ⟨#[116, 104, 101, 110]⟩, ⟨#[101, 108, 115, 101]⟩, ⟨#[101, 110, 100]⟩, ⟨#[116, 114, 121]⟩, ⟨#[99, 97, 116, 99, 104]⟩, ⟨#[114, 101, 100, 117, 99, 101]⟩, ⟨#[102, 111, 114, 101, 97, 99, 104]⟩, ⟨#[97, 115]⟩, ⟨#[108, 97, 98, 101, 108]⟩, ⟨#[98, 114, 101, 97, 107]⟩, ⟨#[97, 110, 100]⟩, ⟨#[111, 114]⟩, ⟨#[116, 114, 117, 101]⟩, ⟨#[102, 97, 108, 115, 101]⟩, ⟨#[110, 117, 108, 108]⟩, ⟨#[101, 109, 112, 116, 121]⟩, ⟨#[114, 101, 108, 101, 97, 115, 101]⟩, ⟨#[114, 97, 110, 103, 101]⟩]
/-- a slice of texts, as long as its row -/
def Tx (w : World) (v : Value) (l : List ByteArray) : Prop :=
  ∃ b, v = .slice (some ⟨b, 0, none⟩) l.length l.length ∧ b < w.heap.size ∧ ∀ (j : Nat) (x : ByteArray), l[j]? = some x → w.cell? ⟨b, j, none⟩ = some (.string x)
theorem Tx.on {a b : World} {v : Value} {l : List ByteArray} (h : Tx a v l) (hb : Below a.heap.size a b) : Tx b v l := by
  obtain ⟨k, h1, h2, h3⟩ := h
  exact ⟨k, h1, Nat.lt_of_lt_of_le h2 hb.size, fun j x hj => (hb.cell (p := ⟨k, j, none⟩) h2).trans (h3 j x hj)⟩
theorem Tx.drewN {a : World} {v : Value} {l : List ByteArray} (h : Tx a v l) (n : Nat) : Tx (a.drewN n) v l := h.on ((Below.refl _ _).trans ⟨rfl, rfl, rfl, Nat.le_refl _, fun _ _ => rfl⟩)
theorem str_row (l : List ByteArray) (w : World) (t : TypeId) : Tx (w.alloc (.cells (l.map Value.string).toArray t)) (.slice (some ⟨w.heap.size, 0, none⟩) l.length l.length) l := by
  refine ⟨w.heap.size, rfl, by simp, fun j x hj => ?_⟩
  have hh := heap_alloc_new w (.cells (l.map Value.string).toArray t)
  rw [cell_of_row _ _ j _ _ _ hh, List.getElem?_toArray, List.getElem?_map, hj]; rfl
/-- is it a key word -/
def keyIs (s : ByteArray) : Bool := decide (s.data.toList ∈ keyB.map fun x => x.data.toList)
/-- is it a name that is no key word -/
def identB (s : ByteArray) : Bool := !keyIs s && !decide (s.size = 0) && decide (s.size ≤ 16) && decide (nmE s 0 = s.size)
theorem st_eq {a b : ByteArray} (h : a = b) : (a.toList == b.toList) = true := by rw [h]; simp
theorem st_ne {a b : ByteArray} (h : a ≠ b) : (a.toList == b.toList) = false := by
  rw [Bool.eq_false_iff]; intro g
  apply h
  apply ByteArray.ext
  apply Array.toList_inj.1
  have := beq_iff_eq.1 g
  rwa [ByteArray.toList_eq, ByteArray.toList_eq] at this
theorem name0_c (s : ByteArray) (w : World) (hs : s.size ≤ 1000000000) (R : Nat) (hR : nmE s 0 = R) :
    Calls Tryz.prog 11 #[.string s, .int .i64 0] w fun e w' => e = .returned (.int .i64 (R : Nat)) ∧ w = w' := by
  rw [← hR]; exact rname_any s 0 w hs (by omega)
theorem key_no {s : ByteArray} {k : Nat} (hk : ¬ k < keyB.length) (h : ∀ q, q < k → keyB[q]? ≠ some s) : keyIs s = false := by
  apply decide_eq_false
  intro g
  obtain ⟨x, hx, he⟩ := List.mem_map.1 g
  obtain ⟨q, hq⟩ := List.mem_iff_getElem?.1 hx
  have h1 := (List.getElem?_eq_some_iff.1 hq).1
  refine h q (by omega) (hq.trans (congrArg some ?_))
  exact ByteArray.ext (Array.toList_inj.1 he)
theorem key_yes {s : ByteArray} {k : Nat} (h : keyB[k]? = some s) : keyIs s = true := decide_eq_true (List.mem_map.2 ⟨s, List.mem_of_getElem? h, rfl⟩)
theorem emp_is (s : ByteArray) : s.toList.isEmpty = decide (s.size = 0) := by
  rw [ByteArray.toList_eq, Bool.eq_iff_iff, decide_eq_true_eq, List.isEmpty_iff_length_eq_zero]
  simp
end Lx
end Go.Proofs.YtpddkchnogfjkaaGreatDoor
