/- Rows of digits, the lowest first: what keyholeref04 reckons with. -/
import Derived.Test.YtpddkchnogfjkaaGreatDoorNmHeld
namespace Go.Proofs.YtpddkchnogfjkaaGreatDoor
namespace Nm
/-- what a row of digits is, the lowest first -/
def dv : List Nat → Nat
  | [] => 0
  | d :: t => d + 10 * dv t
def Dg (l : List Nat) : Prop := ∀ d, d ∈ l → d < 10
/-- without noughts above -/
def Tm (l : List Nat) : Prop := ∀ d, l.getLast? = some d → d ≠ 0
theorem dv_app (a b : List Nat) : dv (a ++ b) = dv a + 10 ^ a.length * dv b := by
  induction a with
  | nil => simp [dv]
  | cons d t ih =>
    simp only [List.cons_append, dv, ih, List.length_cons, Nat.pow_succ]
    rw [Nat.mul_add, Nat.mul_comm (10 ^ t.length) 10, Nat.mul_assoc]
    omega
theorem dv_snoc (a : List Nat) (d : Nat) : dv (a ++ [d]) = dv a + 10 ^ a.length * d := by rw [dv_app]; simp [dv]
theorem dv_zeros (k : Nat) : dv (List.replicate k 0) = 0 := by
  induction k with
  | zero => rfl
  | succ k ih => simp [List.replicate_succ, dv, ih]
theorem dv_shift (k : Nat) (l : List Nat) : dv (List.replicate k 0 ++ l) = 10 ^ k * dv l := by rw [dv_app, dv_zeros]; simp
theorem dv_lt {l : List Nat} (h : Dg l) : dv l < 10 ^ l.length := by
  induction l with
  | nil => simp [dv]
  | cons d t ih =>
    have h1 := ih (fun x hx => h x (List.mem_cons_of_mem _ hx))
    have h2 := h d List.mem_cons_self
    simp only [dv, List.length_cons, Nat.pow_succ]
    omega
theorem Dg.app {a b : List Nat} (ha : Dg a) (hb : Dg b) : Dg (a ++ b) := fun d h => (List.mem_append.1 h).elim (ha d) (hb d)
theorem Dg.zeros (k : Nat) : Dg (List.replicate k 0) := fun d h => by rw [List.eq_of_mem_replicate h]; omega
/-- the digits of a number, the lowest first, none above -/
def dgs (n : Nat) : List Nat := if h : n = 0 then [] else n % 10 :: dgs (n / 10)
decreasing_by omega
theorem dgs_zero : dgs 0 = [] := by unfold dgs; simp
theorem dgs_pos {n : Nat} (h : n ≠ 0) : dgs n = n % 10 :: dgs (n / 10) := by
  conv => lhs; unfold dgs
  rw [dif_neg h]
theorem dv_dgs (n : Nat) : dv (dgs n) = n := by
  induction n using Nat.strongRecOn with
  | _ n ih =>
    by_cases h : n = 0
    · subst h; rw [dgs_zero]; rfl
    · rw [dgs_pos h]; simp only [dv]; rw [ih (n / 10) (by omega)]; omega
theorem Dg_dgs (n : Nat) : Dg (dgs n) := by
  induction n using Nat.strongRecOn with
  | _ n ih =>
    by_cases h : n = 0
    · subst h; rw [dgs_zero]; intro d hd; cases hd
    · rw [dgs_pos h]
      intro d hd
      rcases List.mem_cons.1 hd with rfl | hd
      · omega
      · exact ih (n / 10) (by omega) d hd
/-- digits without noughts above are their number's -/
theorem dgs_of {l : List Nat} (h : Dg l) (ht : Tm l) : l = dgs (dv l) := by
  induction l with
  | nil => simp [dv, dgs_zero]
  | cons d t ih =>
    have hd := h d List.mem_cons_self
    have htt : Tm t := fun x hx => ht x (by cases t with
      | nil => cases hx
      | cons y s => rw [List.getLast?_cons_cons]; exact hx)
    have e := ih (fun x hx => h x (List.mem_cons_of_mem _ hx)) htt
    have hne : dv (d :: t) ≠ 0 := by
      intro h0
      simp only [dv] at h0
      have hz : dv t = 0 := by omega
      rw [hz, dgs_zero] at e
      subst e
      exact ht d (by simp) (by omega)
    rw [dgs_pos hne]
    have e1 : dv (d :: t) % 10 = d := by simp only [dv]; omega
    have e2 : dv (d :: t) / 10 = dv t := by simp only [dv]; omega
    rw [e1, e2, ← e]
theorem dgs_mul (n k : Nat) (h : n ≠ 0) : dgs (n * 10 ^ k) = List.replicate k 0 ++ dgs n := by
  induction k with
  | zero => simp
  | succ k ih =>
    have hp : 0 < 10 ^ k := Nat.pow_pos (by decide)
    have hne : n * 10 ^ k ≠ 0 := Nat.mul_ne_zero h (by omega)
    rw [Nat.pow_succ, ← Nat.mul_assoc, dgs_pos (by omega), Nat.mul_mod_left, Nat.mul_div_cancel _ (by decide), ih]
    rfl
theorem dgs_len {n k : Nat} : (dgs n).length ≤ k ↔ n < 10 ^ k := by
  induction k generalizing n with
  | zero =>
    by_cases h : n = 0
    · subst h; simp [dgs_zero]
    · rw [dgs_pos h]; simp; omega
  | succ k ih =>
    by_cases h : n = 0
    · subst h; simp [dgs_zero, Nat.pow_pos]
    · rw [dgs_pos h, List.length_cons, Nat.pow_succ]
      have := ih (n := n / 10)
      constructor
      · intro h1; have := this.1 (by omega); omega
      · intro h1; have := this.2 (by omega); omega
/-- of digits without noughts above, the longer row is the greater number -/
theorem dgs_longer {a b : Nat} (h : (dgs b).length < (dgs a).length) : b < a := by
  have h1 := (dgs_len (n := b) (k := (dgs b).length)).1 (Nat.le_refl _)
  apply Decidable.byContradiction
  intro h2
  have h3 := (dgs_len (n := a) (k := (dgs b).length)).2 (by omega)
  omega
/-- the highest digit that differs says which is greater -/
theorem dv_top {p q h : List Nat} {x y : Nat} (hl : p.length = q.length) (hp : Dg p) (hxy : x < y) : dv (p ++ x :: h) < dv (q ++ y :: h) := by
  rw [dv_app, dv_app, ← hl]
  have h1 := dv_lt hp
  simp only [dv]
  have h2 : 10 ^ p.length * (x + 10 * dv h) + 10 ^ p.length ≤ 10 ^ p.length * (y + 10 * dv h) := by
    rw [← Nat.mul_succ]
    exact Nat.mul_le_mul_left _ (by omega)
  omega
theorem dv_take {l : List Nat} {i : Nat} (h : i < l.length) : dv (l.take (i + 1)) = dv (l.take i) + 10 ^ i * l[i] := by
  rw [List.take_succ_eq_append_getElem h, dv_snoc, List.length_take, Nat.min_eq_left (by omega)]
/-- a digit of a row, 0 above it -/
def dat (l : List Nat) (i : Nat) : Nat := l.getD i 0
theorem dat_lt {l : List Nat} (h : Dg l) (i : Nat) : dat l i < 10 := by
  unfold dat
  rw [List.getD_eq_getElem?_getD]
  rcases Nat.lt_or_ge i l.length with g | g
  · rw [List.getElem?_eq_getElem g]; exact h _ (List.getElem_mem g)
  · rw [List.getElem?_eq_none g]; decide
theorem dv_dat (l : List Nat) (i : Nat) : dv (l.take (i + 1)) = dv (l.take i) + 10 ^ i * dat l i := by
  unfold dat
  rw [List.getD_eq_getElem?_getD]
  rcases Nat.lt_or_ge i l.length with g | g
  · rw [List.getElem?_eq_getElem g, dv_take g]; rfl
  · rw [List.getElem?_eq_none g, List.take_of_length_le (by omega), List.take_of_length_le (by omega)]; simp
/-- how far a sum is: i digits are out, c is carried -/
def Sm (a b out : List Nat) (i c : Nat) : Prop := Dg out ∧ out.length = i ∧ c ≤ 1 ∧ dv out + 10 ^ i * c = dv (a.take i) + dv (b.take i)
theorem Sm.zero (a b : List Nat) : Sm a b [] 0 0 := ⟨fun d h => (List.not_mem_nil h).elim, rfl, by omega, by simp [dv]⟩
theorem Sm.step {a b out : List Nat} {i c : Nat} (ha : Dg a) (hb : Dg b) (h : Sm a b out i c) : Sm a b (out ++ [(c + dat a i + dat b i) % 10]) (i + 1) ((c + dat a i + dat b i) / 10) := by
  obtain ⟨h1, h2, h3, h4⟩ := h
  have xa := dat_lt ha i
  have xb := dat_lt hb i
  refine ⟨h1.app (fun d h => by rw [List.mem_singleton.1 h]; omega), by simp [h2], by omega, ?_⟩
  rw [dv_snoc, dv_dat, dv_dat, h2, Nat.pow_succ]
  generalize hn : c + dat a i + dat b i = n
  have e : 10 ^ i * (n % 10) + 10 ^ i * 10 * (n / 10) = 10 ^ i * n := by
    rw [Nat.mul_assoc, ← Nat.mul_add]; congr 1; omega
  have e2 : 10 ^ i * n = 10 ^ i * c + 10 ^ i * dat a i + 10 ^ i * dat b i := by rw [← hn, Nat.mul_add, Nat.mul_add]
  omega
theorem Sm.fin {a b out : List Nat} {i : Nat} (h : Sm a b out i 0) (ha : a.length ≤ i) (hb : b.length ≤ i) : Dg out ∧ dv out = dv a + dv b := by
  obtain ⟨h1, _, _, h4⟩ := h
  rw [List.take_of_length_le ha, List.take_of_length_le hb] at h4
  exact ⟨h1, by omega⟩
/-- how far a difference is: i digits are out, o is owed -/
def Ls (a b out : List Nat) (i o : Nat) : Prop := Dg out ∧ out.length = i ∧ o ≤ 1 ∧ dv out + dv (b.take i) = dv (a.take i) + 10 ^ i * o
theorem Ls.zero (a b : List Nat) : Ls a b [] 0 0 := ⟨fun d h => (List.not_mem_nil h).elim, rfl, by omega, by simp [dv]⟩
theorem Ls.step {a b out : List Nat} {i o : Nat} (ha : Dg a) (hb : Dg b) (h : Ls a b out i o) :
    (o + dat b i ≤ dat a i → Ls a b (out ++ [dat a i - o - dat b i]) (i + 1) 0) ∧ (dat a i < o + dat b i → Ls a b (out ++ [dat a i + 10 - o - dat b i]) (i + 1) 1) := by
  obtain ⟨h1, h2, h3, h4⟩ := h
  have xa := dat_lt ha i
  have xb := dat_lt hb i
  refine ⟨fun g => ⟨h1.app (fun d h => by rw [List.mem_singleton.1 h]; omega), by simp [h2], by omega, ?_⟩, fun g => ⟨h1.app (fun d h => by rw [List.mem_singleton.1 h]; omega), by simp [h2], by omega, ?_⟩⟩
  · rw [dv_snoc, dv_dat, dv_dat, h2, Nat.mul_zero]
    have e : 10 ^ i * (dat a i - o - dat b i) + 10 ^ i * o + 10 ^ i * dat b i = 10 ^ i * dat a i := by
      rw [← Nat.mul_add, ← Nat.mul_add]; congr 1; omega
    omega
  · rw [dv_snoc, dv_dat, dv_dat, h2, Nat.pow_succ]
    have e : 10 ^ i * (dat a i + 10 - o - dat b i) + 10 ^ i * o + 10 ^ i * dat b i = 10 ^ i * dat a i + 10 ^ i * 10 := by
      rw [← Nat.mul_add, ← Nat.mul_add, ← Nat.mul_add]; congr 1; omega
    omega
theorem Ls.fin {a b out : List Nat} {o : Nat} (h : Ls a b out a.length o) (hab : dv b ≤ dv a) (hl : b.length ≤ a.length) : Dg out ∧ dv out = dv a - dv b := by
  obtain ⟨h1, h2, h3, h4⟩ := h
  rw [List.take_of_length_le (Nat.le_refl _), List.take_of_length_le hl] at h4
  have := dv_lt h1
  rw [h2] at this
  rcases Nat.eq_or_lt_of_le h3 with g | g
  · subst g; omega
  · have : o = 0 := by omega
    subst this; exact ⟨h1, by omega⟩
/-- noughts below taken off, at most s -/
def offs : Nat → List Nat → List Nat × Nat
  | 0, l => (l, 0)
  | s + 1, l => if dat l 0 = 0 ∧ l ≠ [] then offs s l.tail else (l, s + 1)
theorem offs_dgs : ∀ (s v : Nat), v ≠ 0 → offs s (dgs v) = (dgs (strip s v).1, (strip s v).2)
  | 0, v, _ => rfl
  | s + 1, v, hv => by
    unfold offs strip
    rw [dgs_pos hv]
    have e : dat (v % 10 :: dgs (v / 10)) 0 = v % 10 := rfl
    rw [e]
    by_cases h : v % 10 = 0
    · rw [if_pos ⟨h, by simp⟩, if_pos h]
      exact offs_dgs s (v / 10) (by omega)
    · rw [if_neg (fun g => h g.1), if_neg h, dgs_pos hv]
theorem dv_drop {l : List Nat} {i : Nat} (h : i < l.length) : dv (l.drop i) = l[i] + 10 * dv (l.drop (i + 1)) := by
  rw [List.drop_eq_getElem_cons h]; rfl
/-- a row's noughts above may go -/
theorem dv_less {l : List Nat} {n : Nat} (hn : n < l.length) (h0 : l[n] = 0) : dv (l.take (n + 1)) = dv (l.take n) := by
  rw [dv_take hn, h0]; simp
theorem Tm_take {l : List Nat} {n : Nat} (hn : n < l.length) (h0 : l[n] ≠ 0) : Tm (l.take (n + 1)) := by
  intro d hd
  rw [List.take_succ_eq_append_getElem hn, List.getLast?_append] at hd
  simp at hd
  omega
theorem Tm_nil : Tm [] := fun d h => by simp at h
theorem Dg.take {l : List Nat} (h : Dg l) (n : Nat) : Dg (l.take n) := fun d hd => h d (List.mem_of_mem_take hd)
theorem Tm_dgs (n : Nat) : Tm (dgs n) := by
  induction n using Nat.strongRecOn with
  | _ n ih =>
    by_cases h : n = 0
    · subst h; rw [dgs_zero]; exact Tm_nil
    · rw [dgs_pos h]
      intro d hd
      by_cases h2 : n / 10 = 0
      · rw [h2, dgs_zero] at hd
        simp at hd
        omega
      · have e := dgs_pos h2
        rw [e, List.getLast?_cons_cons, ← e] at hd
        exact ih (n / 10) (by omega) d hd
/-- how far a product is: of b's digit i the row has been added k times -/
def Tms (a b out : List Nat) (i k : Nat) : Prop := Dg out ∧ dv out = dv a * (dv (b.take i) + 10 ^ i * k)
theorem Tms.zero (a b : List Nat) : Tms a b [] 0 0 := ⟨fun d h => (List.not_mem_nil h).elim, by simp [dv]⟩
theorem Tms.step {a b out u : List Nat} {i k : Nat} (h : Tms a b out i k) (hu : Dg u) (e : dv u = dv out + dv a * 10 ^ i) : Tms a b u i (k + 1) :=
  ⟨hu, by rw [e, h.2, Nat.mul_add, Nat.mul_add, Nat.mul_add, Nat.mul_one, Nat.mul_add, Nat.add_assoc]⟩
theorem Tms.next {a b out : List Nat} {i : Nat} (h : Tms a b out i (dat b i)) : Tms a b out (i + 1) 0 := ⟨h.1, by rw [h.2, dv_dat]; simp⟩
theorem Tms.fin {a b out : List Nat} {i : Nat} (h : Tms a b out i 0) (hb : b.length ≤ i) : dv out = dv a * dv b := by
  rw [h.2, List.take_of_length_le hb]; simp
/-- how far a division is: the digits from i upwards are divided -/
def Dv (x : List Nat) (y : Nat) (q : List Nat) (r i : Nat) : Prop := Dg q ∧ q.length + i = x.length ∧ r < y ∧ dv q * y + r = dv (x.drop i)
theorem Dv.zero {x : List Nat} {y : Nat} (hy : 0 < y) : Dv x y [] 0 x.length := ⟨fun d h => (List.not_mem_nil h).elim, by simp, hy, by simp [dv]⟩
theorem Dv.step {x q : List Nat} {y r i d : Nat} (hx : Dg x) (h : Dv x y q r (i + 1)) (hd : x[i]? = some d) : Dv x y ((d + 10 * r) / y :: q) ((d + 10 * r) % y) i := by
  obtain ⟨h1, h2, h3, h4⟩ := h
  obtain ⟨hi, rfl⟩ := List.getElem?_eq_some_iff.1 hd
  have hd10 := hx _ (List.getElem_mem hi)
  have hq : (x[i] + 10 * r) / y < 10 := Nat.div_lt_of_lt_mul (by rw [Nat.mul_comm]; omega)
  refine ⟨fun e he => (List.mem_cons.1 he).elim (fun g => by rw [g]; exact hq) (h1 e), by rw [List.length_cons]; omega, Nat.mod_lt _ (by omega), ?_⟩
  rw [dv_drop hi, ← h4]
  simp only [dv]
  have e := Nat.div_add_mod (x[i] + 10 * r) y
  rw [Nat.add_mul, Nat.mul_assoc, Nat.mul_comm _ y]
  omega
theorem Dv.fin {x q : List Nat} {y r : Nat} (h : Dv x y q r 0) : dv q = dv x / y ∧ r = dv x % y := by
  obtain ⟨_, _, h3, h4⟩ := h
  rw [List.drop_zero] at h4
  rw [← h4]
  constructor
  · rw [Nat.mul_comm, Nat.mul_add_div (by omega), Nat.div_eq_of_lt h3]; omega
  · rw [Nat.mul_comm, Nat.mul_add_mod, Nat.mod_eq_of_lt h3]
end Nm
end Go.Proofs.YtpddkchnogfjkaaGreatDoor
