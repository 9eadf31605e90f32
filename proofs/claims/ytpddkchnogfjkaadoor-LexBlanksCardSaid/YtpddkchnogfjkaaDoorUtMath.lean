/- The plain mathematics of texts: signs and their bytes, as lists of numbers. No condition. -/
import Derived.WalkKit
namespace Go.Proofs.YtpddkchnogfjkaaDoor
namespace Ut

/-- a number that is a sign's -/
def Sg (c : Nat) : Prop := c < 55296 ∨ (57344 ≤ c ∧ c < 1114112)
instance (c : Nat) : Decidable (Sg c) := by unfold Sg; infer_instance
/-- a sign's bytes -/
def put (c : Nat) : List Nat :=
  if c < 128 then [c] else if c < 2048 then [192 + c / 64, 128 + c % 64]
  else if c < 65536 then [224 + c / 4096, 128 + c / 64 % 64, 128 + c % 64]
  else [240 + c / 262144, 128 + c / 4096 % 64, 128 + c / 64 % 64, 128 + c % 64]
theorem put1 {c : Nat} (h : c < 128) : put c = [c] := by unfold put; rw [if_pos h]
theorem put2 {c : Nat} (h1 : 128 ≤ c) (h2 : c < 2048) : put c = [192 + c / 64, 128 + c % 64] := by
  unfold put; rw [if_neg (by omega), if_pos h2]
theorem put3 {c : Nat} (h1 : 2048 ≤ c) (h2 : c < 65536) : put c = [224 + c / 4096, 128 + c / 64 % 64, 128 + c % 64] := by
  unfold put; rw [if_neg (by omega), if_neg (by omega), if_pos h2]
theorem put4 {c : Nat} (h1 : 65536 ≤ c) : put c = [240 + c / 262144, 128 + c / 4096 % 64, 128 + c / 64 % 64, 128 + c % 64] := by
  unfold put; rw [if_neg (by omega), if_neg (by omega), if_neg (by omega)]
theorem put_cases (c : Nat) : (c < 128 ∧ put c = [c]) ∨ (128 ≤ c ∧ c < 2048 ∧ put c = [192 + c / 64, 128 + c % 64]) ∨
    (2048 ≤ c ∧ c < 65536 ∧ put c = [224 + c / 4096, 128 + c / 64 % 64, 128 + c % 64]) ∨
    (65536 ≤ c ∧ put c = [240 + c / 262144, 128 + c / 4096 % 64, 128 + c / 64 % 64, 128 + c % 64]) := by
  by_cases h1 : c < 128
  · exact .inl ⟨h1, put1 h1⟩
  by_cases h2 : c < 2048
  · exact .inr (.inl ⟨by omega, h2, put2 (by omega) h2⟩)
  by_cases h3 : c < 65536
  · exact .inr (.inr (.inl ⟨by omega, h3, put3 (by omega) h3⟩))
  · exact .inr (.inr (.inr ⟨by omega, put4 (by omega)⟩))
theorem put_len (c : Nat) : 1 ≤ (put c).length ∧ (put c).length ≤ 4 := by
  rcases put_cases c with ⟨_, h⟩ | ⟨_, _, h⟩ | ⟨_, _, h⟩ | ⟨_, h⟩ <;> rw [h] <;> simp
theorem put_lt {c : Nat} (hc : Sg c) : ∀ x ∈ put c, x < 256 := by
  intro x hx
  unfold Sg at hc
  rcases put_cases c with ⟨_, h⟩ | ⟨_, _, h⟩ | ⟨_, _, h⟩ | ⟨_, h⟩ <;> rw [h] at hx <;> simp at hx <;> omega
theorem put_ne (c : Nat) : put c ≠ [] := by
  intro h; have := put_len c; rw [h] at this; simp at this

/-- how many bytes the sign takes that a row begins with; 0: it begins with none -/
def sgl : List Nat → Nat
  | [] => 0
  | a :: t =>
    if a < 128 then 1 else if a < 194 then 0
    else if a < 224 then (match t with | b :: _ => if 128 ≤ b ∧ b ≤ 191 then 2 else 0 | _ => 0)
    else if a < 240 then (match t with | b :: c :: _ => if (if a = 224 then 160 else 128) ≤ b ∧ b ≤ (if a = 237 then 159 else 191) ∧ 128 ≤ c ∧ c ≤ 191 then 3 else 0 | _ => 0)
    else if a < 245 then (match t with | b :: c :: d :: _ => if (if a = 240 then 144 else 128) ≤ b ∧ b ≤ (if a = 244 then 143 else 191) ∧ 128 ≤ c ∧ c ≤ 191 ∧ 128 ≤ d ∧ d ≤ 191 then 4 else 0 | _ => 0)
    else 0
/-- the number of the sign of n bytes at the head -/
def cp1 (a : Nat) : Nat := a
def cp2 (a b : Nat) : Nat := (a - 192) * 64 + (b - 128)
def cp3 (a b c : Nat) : Nat := (a - 224) * 4096 + (b - 128) * 64 + (c - 128)
def cp4 (a b c d : Nat) : Nat := (a - 240) * 262144 + (b - 128) * 4096 + (c - 128) * 64 + (d - 128)
def cpn (l : List Nat) (n : Nat) : Nat :=
  if n = 1 then cp1 (l.getD 0 0) else if n = 2 then cp2 (l.getD 0 0) (l.getD 1 0)
  else if n = 3 then cp3 (l.getD 0 0) (l.getD 1 0) (l.getD 2 0) else cp4 (l.getD 0 0) (l.getD 1 0) (l.getD 2 0) (l.getD 3 0)
theorem cpn1 (a : Nat) (r : List Nat) : cpn (a :: r) 1 = a := rfl
theorem cpn2 (a b : Nat) (r : List Nat) : cpn (a :: b :: r) 2 = (a - 192) * 64 + (b - 128) := rfl
theorem cpn3 (a b c : Nat) (r : List Nat) : cpn (a :: b :: c :: r) 3 = (a - 224) * 4096 + (b - 128) * 64 + (c - 128) := rfl
theorem cpn4 (a b c d : Nat) (r : List Nat) : cpn (a :: b :: c :: d :: r) 4 = (a - 240) * 262144 + (b - 128) * 4096 + (c - 128) * 64 + (d - 128) := rfl
def cp (l : List Nat) : Nat := cpn l (sgl l)

theorem sgl_put {c : Nat} (hc : Sg c) (r : List Nat) : sgl (put c ++ r) = (put c).length ∧ cp (put c ++ r) = c := by
  have key : sgl (put c ++ r) = (put c).length := by
    unfold Sg at hc
    rcases put_cases c with ⟨h1, h⟩ | ⟨h1, h2, h⟩ | ⟨h1, h2, h⟩ | ⟨h1, h⟩ <;> rw [h]
    · simp [sgl, h1]
    · simp only [List.cons_append, List.nil_append, sgl]
      rw [if_neg (by omega), if_neg (by omega), if_pos (by omega), if_pos (by omega)]; rfl
    · simp only [List.cons_append, List.nil_append, sgl]
      rw [if_neg (by omega), if_neg (by omega), if_neg (by omega), if_pos (by omega), if_pos]; · rfl
      refine ⟨?_, ?_, by omega, by omega⟩ <;> split <;> omega
    · simp only [List.cons_append, List.nil_append, sgl]
      rw [if_neg (by omega), if_neg (by omega), if_neg (by omega), if_neg (by omega), if_pos (by omega), if_pos]; · rfl
      refine ⟨?_, ?_, by omega, by omega, by omega, by omega⟩ <;> split <;> omega
  refine ⟨key, ?_⟩
  unfold cp; rw [key]
  rcases put_cases c with ⟨h1, h⟩ | ⟨h1, h2, h⟩ | ⟨h1, h2, h⟩ | ⟨h1, h⟩ <;> rw [h]
  all_goals simp only [List.cons_append, List.nil_append, List.length_cons, List.length_nil, Nat.zero_add, Nat.reduceAdd]
  · rw [cpn1]
  · rw [cpn2]; omega
  · rw [cpn3]; omega
  · rw [cpn4]; omega

theorem sgl_is {l : List Nat} (h : sgl l ≠ 0) : Sg (cp l) ∧ l = put (cp l) ++ l.drop (sgl l) := by
  unfold cp
  match l with
  | [] => simp [sgl] at h
  | a :: t =>
    by_cases h1 : a < 128
    · have e : sgl (a :: t) = 1 := by simp only [sgl]; rw [if_pos h1]
      rw [e]
      simp only [cpn1, List.drop_succ_cons, List.drop_zero]
      exact ⟨.inl (by omega), by rw [put1 h1]; rfl⟩
    by_cases h2 : a < 194
    · exfalso; apply h; simp only [sgl]; rw [if_neg h1, if_pos h2]
    by_cases h3 : a < 224
    · match t with
      | [] => exfalso; apply h; simp only [sgl]; rw [if_neg h1, if_neg h2, if_pos h3]
      | b :: t =>
        by_cases hb : 128 ≤ b ∧ b ≤ 191
        · have e : sgl (a :: b :: t) = 2 := by simp only [sgl]; rw [if_neg h1, if_neg h2, if_pos h3, if_pos hb]
          rw [e]
          simp only [cpn2, List.drop_succ_cons, List.drop_zero]
          refine ⟨.inl (by omega), ?_⟩
          rw [put2 (by omega) (by omega)]
          simp only [List.cons_append, List.nil_append, List.cons.injEq, and_true]
          omega
        · exfalso; apply h; simp only [sgl]; rw [if_neg h1, if_neg h2, if_pos h3, if_neg hb]
    by_cases h4 : a < 240
    · match t with
      | [] => exfalso; apply h; simp only [sgl]; rw [if_neg h1, if_neg h2, if_neg h3, if_pos h4]
      | [b] => exfalso; apply h; simp only [sgl]; rw [if_neg h1, if_neg h2, if_neg h3, if_pos h4]
      | b :: c :: t =>
        by_cases hb : (if a = 224 then 160 else 128) ≤ b ∧ b ≤ (if a = 237 then 159 else 191) ∧ 128 ≤ c ∧ c ≤ 191
        · have e : sgl (a :: b :: c :: t) = 3 := by simp only [sgl]; rw [if_neg h1, if_neg h2, if_neg h3, if_pos h4, if_pos hb]
          rw [e]
          simp only [cpn3, List.drop_succ_cons, List.drop_zero]
          obtain ⟨b1, b2, c1, c2⟩ := hb
          have g1 : 128 ≤ b := by split at b1 <;> omega
          have g2 : b ≤ 191 := by split at b2 <;> omega
          have g3 : a = 224 → 160 ≤ b := fun e => by rw [if_pos e] at b1; exact b1
          have g4 : a = 237 → b ≤ 159 := fun e => by rw [if_pos e] at b2; exact b2
          clear b1 b2 h
          refine ⟨by unfold Sg; omega, ?_⟩
          rw [put3 (by omega) (by omega)]
          simp only [List.cons_append, List.nil_append, List.cons.injEq, and_true]
          omega
        · exfalso; apply h; simp only [sgl]; rw [if_neg h1, if_neg h2, if_neg h3, if_pos h4, if_neg hb]
    by_cases h5 : a < 245
    · match t with
      | [] => exfalso; apply h; simp only [sgl]; rw [if_neg h1, if_neg h2, if_neg h3, if_neg h4, if_pos h5]
      | [b] => exfalso; apply h; simp only [sgl]; rw [if_neg h1, if_neg h2, if_neg h3, if_neg h4, if_pos h5]
      | [b, c] => exfalso; apply h; simp only [sgl]; rw [if_neg h1, if_neg h2, if_neg h3, if_neg h4, if_pos h5]
      | b :: c :: d :: t =>
        by_cases hb : (if a = 240 then 144 else 128) ≤ b ∧ b ≤ (if a = 244 then 143 else 191) ∧ 128 ≤ c ∧ c ≤ 191 ∧ 128 ≤ d ∧ d ≤ 191
        · have e : sgl (a :: b :: c :: d :: t) = 4 := by simp only [sgl]; rw [if_neg h1, if_neg h2, if_neg h3, if_neg h4, if_pos h5, if_pos hb]
          rw [e]
          simp only [cpn4, List.drop_succ_cons, List.drop_zero]
          obtain ⟨b1, b2, c1, c2, d1, d2⟩ := hb
          have g1 : 128 ≤ b := by split at b1 <;> omega
          have g2 : b ≤ 191 := by split at b2 <;> omega
          have g3 : a = 240 → 144 ≤ b := fun e => by rw [if_pos e] at b1; exact b1
          have g4 : a = 244 → b ≤ 143 := fun e => by rw [if_pos e] at b2; exact b2
          clear b1 b2 h
          refine ⟨by unfold Sg; omega, ?_⟩
          rw [put4 (by omega)]
          simp only [List.cons_append, List.nil_append, List.cons.injEq, and_true]
          omega
        · exfalso; apply h; simp only [sgl]; rw [if_neg h1, if_neg h2, if_neg h3, if_neg h4, if_pos h5, if_neg hb]
    · exfalso; apply h; simp only [sgl]; rw [if_neg h1, if_neg h2, if_neg h3, if_neg h4, if_neg h5]
theorem sgl_len {l : List Nat} (h : sgl l ≠ 0) : sgl l = (put (cp l)).length ∧ 1 ≤ sgl l ∧ sgl l ≤ 4 ∧ sgl l ≤ l.length := by
  obtain ⟨h1, h2⟩ := sgl_is h
  have e := (sgl_put h1 (l.drop (sgl l))).1
  rw [← h2] at e
  have := put_len (cp l)
  have e3 := congrArg List.length h2
  simp at e3
  omega

/-- the bytes of signs -/
def puts (cs : List Nat) : List Nat := cs.flatMap put
@[simp] theorem puts_nil : puts [] = [] := rfl
theorem puts_cons (c : Nat) (cs : List Nat) : puts (c :: cs) = put c ++ puts cs := rfl
theorem puts_app (a b : List Nat) : puts (a ++ b) = puts a ++ puts b := by unfold puts; simp
theorem puts_snoc (a : List Nat) (c : Nat) : puts (a ++ [c]) = puts a ++ put c := by rw [puts_app]; unfold puts; simp
def Sgs (cs : List Nat) : Prop := ∀ c ∈ cs, Sg c
theorem Sgs.nil : Sgs [] := by intro c h; simp at h
theorem Sgs.cons {c : Nat} {cs : List Nat} (h : Sg c) (hs : Sgs cs) : Sgs (c :: cs) := by
  intro x hx; simp at hx; rcases hx with rfl | hx
  · exact h
  · exact hs x hx
theorem Sgs.snoc {c : Nat} {cs : List Nat} (hs : Sgs cs) (h : Sg c) : Sgs (cs ++ [c]) := by
  intro x hx; simp at hx; rcases hx with hx | rfl
  · exact hs x hx
  · exact h
theorem Sgs.take {cs : List Nat} (hs : Sgs cs) (k : Nat) : Sgs (cs.take k) := fun x hx => hs x (List.mem_of_mem_take hx)
theorem puts_lt {cs : List Nat} (h : Sgs cs) : ∀ x ∈ puts cs, x < 256 := by
  intro x hx
  unfold puts at hx
  rw [List.mem_flatMap] at hx
  obtain ⟨c, hc, hx⟩ := hx
  exact put_lt (h c hc) x hx
theorem puts_len (cs : List Nat) : cs.length ≤ (puts cs).length := by
  induction cs with
  | nil => simp
  | cons c cs ih => rw [puts_cons]; have := put_len c; simp; omega

/-- the signs of a text; none: it is no text -/
def sigsF : Nat → List Nat → Option (List Nat)
  | _, [] => some []
  | 0, _ :: _ => none
  | k + 1, a :: t => if sgl (a :: t) = 0 then none else (sigsF k ((a :: t).drop (sgl (a :: t)))).map (cp (a :: t) :: ·)
def sigs (l : List Nat) : Option (List Nat) := sigsF l.length l
theorem sigsF_sound : ∀ (k : Nat) (l cs : List Nat), sigsF k l = some cs → Sgs cs ∧ l = puts cs := by
  intro k
  induction k with
  | zero =>
    intro l cs h
    match l with
    | [] => simp [sigsF] at h; subst h; exact ⟨Sgs.nil, rfl⟩
    | a :: t => simp [sigsF] at h
  | succ k ih =>
    intro l cs h
    match l with
    | [] => simp [sigsF] at h; subst h; exact ⟨Sgs.nil, rfl⟩
    | a :: t =>
      simp only [sigsF] at h
      by_cases h0 : sgl (a :: t) = 0
      · rw [if_pos h0] at h; simp at h
      · rw [if_neg h0] at h
        obtain ⟨cs', h1, rfl⟩ := Option.map_eq_some_iff.1 h
        obtain ⟨g1, g2⟩ := ih _ _ h1
        obtain ⟨g3, g4⟩ := sgl_is h0
        exact ⟨g1.cons g3, by rw [puts_cons, ← g2]; exact g4⟩
theorem sigsF_complete : ∀ (cs : List Nat) (k : Nat), Sgs cs → (puts cs).length ≤ k → sigsF k (puts cs) = some cs := by
  intro cs
  induction cs with
  | nil => intro k _ _; cases k <;> rfl
  | cons c cs ih =>
    intro k hs hk
    have hc : Sg c := hs c (by simp)
    have hs' : Sgs cs := fun x hx => hs x (by simp [hx])
    rw [puts_cons] at hk ⊢
    have hl := put_len c
    obtain ⟨e1, e2⟩ := sgl_put hc (puts cs)
    match k with
    | 0 => rw [List.length_append] at hk; omega
    | k + 1 =>
      match hm : put c ++ puts cs with
      | [] => have := congrArg List.length hm; rw [List.length_append] at this; simp only [List.length_nil] at this; omega
      | a :: t =>
        have hk2 : (put c).length + (puts cs).length ≤ k + 1 := by rw [← List.length_append]; exact hk
        simp only [sigsF]
        rw [← hm, e1, e2, if_neg (by omega)]
        rw [List.drop_left, ih k hs' (by omega)]
        rfl
theorem sigs_iff {l cs : List Nat} : sigs l = some cs ↔ Sgs cs ∧ l = puts cs := by
  constructor
  · exact sigsF_sound _ _ _
  · rintro ⟨h, rfl⟩
    exact sigsF_complete cs _ h (Nat.le_refl _)
theorem sigs_puts {cs : List Nat} (h : Sgs cs) : sigs (puts cs) = some cs := sigs_iff.2 ⟨h, rfl⟩
theorem puts_split {cs : List Nat} : ∀ {cs' r : List Nat}, Sgs cs → Sgs cs' → puts cs' = puts cs ++ r → ∃ cs'', cs' = cs ++ cs'' ∧ r = puts cs'' := by
  induction cs with
  | nil => intro cs' r _ _ h; exact ⟨cs', rfl, by simpa using h.symm⟩
  | cons c cs ih =>
    intro cs' r hs hs' h
    have hc : Sg c := hs c (by simp)
    rw [puts_cons, List.append_assoc] at h
    match cs' with
    | [] =>
      exfalso
      have := congrArg List.length h
      have := put_len c
      simp at *; omega
    | d :: cs' =>
      have hd : Sg d := hs' d (by simp)
      rw [puts_cons] at h
      have e1 := (sgl_put hd (puts cs')).2
      have e2 := (sgl_put hc (puts cs ++ r)).2
      rw [h, e2] at e1
      subst e1
      have h' := List.append_cancel_left h
      obtain ⟨cs'', g1, g2⟩ := ih (fun x hx => hs x (by simp [hx])) (fun x hx => hs' x (by simp [hx])) h'
      exact ⟨cs'', by rw [g1]; rfl, g2⟩
theorem sigs_app {cs r : List Nat} (h : Sgs cs) : sigs (puts cs ++ r) = (sigs r).map (cs ++ ·) := by
  cases hr : sigs r with
  | none =>
    cases hl : sigs (puts cs ++ r) with
    | none => rfl
    | some cs' =>
      obtain ⟨g1, g2⟩ := sigs_iff.1 hl
      obtain ⟨cs'', rfl, g4⟩ := puts_split h g1 g2.symm
      have : sigs r = some cs'' := sigs_iff.2 ⟨fun x hx => g1 x (by simp [hx]), g4⟩
      rw [hr] at this; simp at this
  | some c2 =>
    obtain ⟨g1, rfl⟩ := sigs_iff.1 hr
    rw [← puts_app, sigs_puts]
    · rfl
    · intro x hx; simp at hx; rcases hx with hx | hx
      · exact h x hx
      · exact g1 x hx
theorem sigs_bad {r : List Nat} (hr : r ≠ []) (h : sgl r = 0) : sigs r = none := by
  cases hl : sigs r with
  | none => rfl
  | some cs =>
    obtain ⟨g1, rfl⟩ := sigs_iff.1 hl
    match cs with
    | [] => simp at hr
    | c :: cs =>
      rw [puts_cons, (sgl_put (g1 c (by simp)) _).1] at h
      have := put_len c; omega
theorem sigs_nil : sigs [] = some [] := rfl
/-- is it a text? -/
def vldB (l : List Nat) : Bool := (sigs l).isSome
theorem vldB_some {l cs : List Nat} (h : sigs l = some cs) : vldB l = true := by unfold vldB; rw [h]; rfl
theorem vldB_none {l : List Nat} (h : sigs l = none) : vldB l = false := by unfold vldB; rw [h]; rfl
theorem vldB_true {l : List Nat} (h : vldB l = true) : ∃ cs, sigs l = some cs := by
  unfold vldB at h; exact Option.isSome_iff_exists.1 h
theorem vldB_false {l : List Nat} (h : vldB l = false) : sigs l = none := by
  unfold vldB at h; simpa using h
/-- how it goes on: cs have been read, r is left -/
theorem sigs_step {l cs r : List Nat} (h : Sgs cs) (hl : l = puts cs ++ r) (h0 : sgl r ≠ 0) :
    Sgs (cs ++ [cp r]) ∧ l = puts (cs ++ [cp r]) ++ r.drop (sgl r) := by
  obtain ⟨g1, g2⟩ := sgl_is h0
  refine ⟨h.snoc g1, ?_⟩
  rw [puts_snoc, List.append_assoc, ← g2]; exact hl
theorem sigs_stop {l cs r : List Nat} (h : Sgs cs) (hl : l = puts cs ++ r) (hr : r ≠ []) (h0 : sgl r = 0) : sigs l = none := by
  rw [hl, sigs_app h, sigs_bad hr h0]; rfl
end Ut
end Go.Proofs.YtpddkchnogfjkaaDoor
