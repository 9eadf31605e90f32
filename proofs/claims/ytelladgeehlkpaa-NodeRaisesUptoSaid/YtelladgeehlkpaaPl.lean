/- The plain mathematics of texts: signs and their bytes, as lists of numbers. No condition. -/
import Derived.WalkKit
import Derived.Laws.RangeAny
import Derived.Lib.Hide
import Derived.Test.YtelladgeehlkpaaChecked
import Derived.LoopTactic
import Derived.Outline
import Derived.WalkLawsBesides
import Derived.WalkSpells
import Derived.ProofKit
import Derived.Below
namespace Go.Proofs.Ytelladgeehlkpaa
namespace Ut

/-- a number that is a sign's -/
def Sg (c : Nat) : Prop := c < 55296 ∨ (57344 ≤ c ∧ c < 1114112)
instance (c : Nat) : Decidable (Sg c) := by unfold Sg; infer_instance
/-- a sign's bytes -/
def put (c : Nat) : List Nat :=
  if c < 128 then [c] else if c < 2048 then [192 + c / 64, 128 + c % 64]
  else if c < 65536 then [224 + c / 4096, 128 + c / 64 % 64, 128 + c % 64]
  else [240 + c / 262144, 128 + c / 4096 % 64, 128 + c / 64 % 64, 128 + c % 64]
theorem put1 {c : Nat} (h : c < 128) : put c = [c] := by unfold put; rw [if_pos h]
theorem put2 {c : Nat} (h1 : 128 ≤ c) (h2 : c < 2048) : put c = [192 + c / 64, 128 + c % 64] := by
  unfold put; rw [if_neg (by omega), if_pos h2]
theorem put3 {c : Nat} (h1 : 2048 ≤ c) (h2 : c < 65536) : put c = [224 + c / 4096, 128 + c / 64 % 64, 128 + c % 64] := by
  unfold put; rw [if_neg (by omega), if_neg (by omega), if_pos h2]
theorem put4 {c : Nat} (h1 : 65536 ≤ c) : put c = [240 + c / 262144, 128 + c / 4096 % 64, 128 + c / 64 % 64, 128 + c % 64] := by
  unfold put; rw [if_neg (by omega), if_neg (by omega), if_neg (by omega)]
theorem put_cases (c : Nat) : (c < 128 ∧ put c = [c]) ∨ (128 ≤ c ∧ c < 2048 ∧ put c = [192 + c / 64, 128 + c % 64]) ∨
    (2048 ≤ c ∧ c < 65536 ∧ put c = [224 + c / 4096, 128 + c / 64 % 64, 128 + c % 64]) ∨
    (65536 ≤ c ∧ put c = [240 + c / 262144, 128 + c / 4096 % 64, 128 + c / 64 % 64, 128 + c % 64]) := by
  by_cases h1 : c < 128
  · exact .inl ⟨h1, put1 h1⟩
  by_cases h2 : c < 2048
  · exact .inr (.inl ⟨by omega, h2, put2 (by omega) h2⟩)
  by_cases h3 : c < 65536
  · exact .inr (.inr (.inl ⟨by omega, h3, put3 (by omega) h3⟩))
  · exact .inr (.inr (.inr ⟨by omega, put4 (by omega)⟩))
theorem put_len (c : Nat) : 1 ≤ (put c).length ∧ (put c).length ≤ 4 := by
  rcases put_cases c with ⟨_, h⟩ | ⟨_, _, h⟩ | ⟨_, _, h⟩ | ⟨_, h⟩ <;> rw [h] <;> simp
theorem put_lt {c : Nat} (hc : Sg c) : ∀ x ∈ put c, x < 256 := by
  intro x hx
  unfold Sg at hc
  rcases put_cases c with ⟨_, h⟩ | ⟨_, _, h⟩ | ⟨_, _, h⟩ | ⟨_, h⟩ <;> rw [h] at hx <;> simp at hx <;> omega
theorem put_ne (c : Nat) : put c ≠ [] := by
  intro h; have := put_len c; rw [h] at this; simp at this

/-- how many bytes the sign takes that a row begins with; 0: it begins with none -/
def sgl : List Nat → Nat
  | [] => 0
  | a :: t =>
    if a < 128 then 1 else if a < 194 then 0
    else if a < 224 then (match t with | b :: _ => if 128 ≤ b ∧ b ≤ 191 then 2 else 0 | _ => 0)
    else if a < 240 then (match t with | b :: c :: _ => if (if a = 224 then 160 else 128) ≤ b ∧ b ≤ (if a = 237 then 159 else 191) ∧ 128 ≤ c ∧ c ≤ 191 then 3 else 0 | _ => 0)
    else if a < 245 then (match t with | b :: c :: d :: _ => if (if a = 240 then 144 else 128) ≤ b ∧ b ≤ (if a = 244 then 143 else 191) ∧ 128 ≤ c ∧ c ≤ 191 ∧ 128 ≤ d ∧ d ≤ 191 then 4 else 0 | _ => 0)
    else 0
/-- the number of the sign of n bytes at the head -/
def cp1 (a : Nat) : Nat := a
def cp2 (a b : Nat) : Nat := (a - 192) * 64 + (b - 128)
def cp3 (a b c : Nat) : Nat := (a - 224) * 4096 + (b - 128) * 64 + (c - 128)
def cp4 (a b c d : Nat) : Nat := (a - 240) * 262144 + (b - 128) * 4096 + (c - 128) * 64 + (d - 128)
def cpn (l : List Nat) (n : Nat) : Nat :=
  if n = 1 then cp1 (l.getD 0 0) else if n = 2 then cp2 (l.getD 0 0) (l.getD 1 0)
  else if n = 3 then cp3 (l.getD 0 0) (l.getD 1 0) (l.getD 2 0) else cp4 (l.getD 0 0) (l.getD 1 0) (l.getD 2 0) (l.getD 3 0)
theorem cpn1 (a : Nat) (r : List Nat) : cpn (a :: r) 1 = a := rfl
theorem cpn2 (a b : Nat) (r : List Nat) : cpn (a :: b :: r) 2 = (a - 192) * 64 + (b - 128) := rfl
theorem cpn3 (a b c : Nat) (r : List Nat) : cpn (a :: b :: c :: r) 3 = (a - 224) * 4096 + (b - 128) * 64 + (c - 128) := rfl
theorem cpn4 (a b c d : Nat) (r : List Nat) : cpn (a :: b :: c :: d :: r) 4 = (a - 240) * 262144 + (b - 128) * 4096 + (c - 128) * 64 + (d - 128) := rfl
def cp (l : List Nat) : Nat := cpn l (sgl l)

theorem sgl_put {c : Nat} (hc : Sg c) (r : List Nat) : sgl (put c ++ r) = (put c).length ∧ cp (put c ++ r) = c := by
  have key : sgl (put c ++ r) = (put c).length := by
    unfold Sg at hc
    rcases put_cases c with ⟨h1, h⟩ | ⟨h1, h2, h⟩ | ⟨h1, h2, h⟩ | ⟨h1, h⟩ <;> rw [h]
    · simp [sgl, h1]
    · simp only [List.cons_append, List.nil_append, sgl]
      rw [if_neg (by omega), if_neg (by omega), if_pos (by omega), if_pos (by omega)]; rfl
    · simp only [List.cons_append, List.nil_append, sgl]
      rw [if_neg (by omega), if_neg (by omega), if_neg (by omega), if_pos (by omega), if_pos]; · rfl
      refine ⟨?_, ?_, by omega, by omega⟩ <;> split <;> omega
    · simp only [List.cons_append, List.nil_append, sgl]
      rw [if_neg (by omega), if_neg (by omega), if_neg (by omega), if_neg (by omega), if_pos (by omega), if_pos]; · rfl
      refine ⟨?_, ?_, by omega, by omega, by omega, by omega⟩ <;> split <;> omega
  refine ⟨key, ?_⟩
  unfold cp; rw [key]
  rcases put_cases c with ⟨h1, h⟩ | ⟨h1, h2, h⟩ | ⟨h1, h2, h⟩ | ⟨h1, h⟩ <;> rw [h]
  all_goals simp only [List.cons_append, List.nil_append, List.length_cons, List.length_nil, Nat.zero_add, Nat.reduceAdd]
  · rw [cpn1]
  · rw [cpn2]; omega
  · rw [cpn3]; omega
  · rw [cpn4]; omega

theorem sgl_is {l : List Nat} (h : sgl l ≠ 0) : Sg (cp l) ∧ l = put (cp l) ++ l.drop (sgl l) := by
  unfold cp
  match l with
  | [] => simp [sgl] at h
  | a :: t =>
    by_cases h1 : a < 128
    · have e : sgl (a :: t) = 1 := by simp only [sgl]; rw [if_pos h1]
      rw [e]
      simp only [cpn1, List.drop_succ_cons, List.drop_zero]
      exact ⟨.inl (by omega), by rw [put1 h1]; rfl⟩
    by_cases h2 : a < 194
    · exfalso; apply h; simp only [sgl]; rw [if_neg h1, if_pos h2]
    by_cases h3 : a < 224
    · match t with
      | [] => exfalso; apply h; simp only [sgl]; rw [if_neg h1, if_neg h2, if_pos h3]
      | b :: t =>
        by_cases hb : 128 ≤ b ∧ b ≤ 191
        · have e : sgl (a :: b :: t) = 2 := by simp only [sgl]; rw [if_neg h1, if_neg h2, if_pos h3, if_pos hb]
          rw [e]
          simp only [cpn2, List.drop_succ_cons, List.drop_zero]
          refine ⟨.inl (by omega), ?_⟩
          rw [put2 (by omega) (by omega)]
          simp only [List.cons_append, List.nil_append, List.cons.injEq, and_true]
          omega
        · exfalso; apply h; simp only [sgl]; rw [if_neg h1, if_neg h2, if_pos h3, if_neg hb]
    by_cases h4 : a < 240
    · match t with
      | [] => exfalso; apply h; simp only [sgl]; rw [if_neg h1, if_neg h2, if_neg h3, if_pos h4]
      | [b] => exfalso; apply h; simp only [sgl]; rw [if_neg h1, if_neg h2, if_neg h3, if_pos h4]
      | b :: c :: t =>
        by_cases hb : (if a = 224 then 160 else 128) ≤ b ∧ b ≤ (if a = 237 then 159 else 191) ∧ 128 ≤ c ∧ c ≤ 191
        · have e : sgl (a :: b :: c :: t) = 3 := by simp only [sgl]; rw [if_neg h1, if_neg h2, if_neg h3, if_pos h4, if_pos hb]
          rw [e]
          simp only [cpn3, List.drop_succ_cons, List.drop_zero]
          obtain ⟨b1, b2, c1, c2⟩ := hb
          have g1 : 128 ≤ b := by split at b1 <;> omega
          have g2 : b ≤ 191 := by split at b2 <;> omega
          have g3 : a = 224 → 160 ≤ b := fun e => by rw [if_pos e] at b1; exact b1
          have g4 : a = 237 → b ≤ 159 := fun e => by rw [if_pos e] at b2; exact b2
          clear b1 b2 h
          refine ⟨by unfold Sg; omega, ?_⟩
          rw [put3 (by omega) (by omega)]
          simp only [List.cons_append, List.nil_append, List.cons.injEq, and_true]
          omega
        · exfalso; apply h; simp only [sgl]; rw [if_neg h1, if_neg h2, if_neg h3, if_pos h4, if_neg hb]
    by_cases h5 : a < 245
    · match t with
      | [] => exfalso; apply h; simp only [sgl]; rw [if_neg h1, if_neg h2, if_neg h3, if_neg h4, if_pos h5]
      | [b] => exfalso; apply h; simp only [sgl]; rw [if_neg h1, if_neg h2, if_neg h3, if_neg h4, if_pos h5]
      | [b, c] => exfalso; apply h; simp only [sgl]; rw [if_neg h1, if_neg h2, if_neg h3, if_neg h4, if_pos h5]
      | b :: c :: d :: t =>
        by_cases hb : (if a = 240 then 144 else 128) ≤ b ∧ b ≤ (if a = 244 then 143 else 191) ∧ 128 ≤ c ∧ c ≤ 191 ∧ 128 ≤ d ∧ d ≤ 191
        · have e : sgl (a :: b :: c :: d :: t) = 4 := by simp only [sgl]; rw [if_neg h1, if_neg h2, if_neg h3, if_neg h4, if_pos h5, if_pos hb]
          rw [e]
          simp only [cpn4, List.drop_succ_cons, List.drop_zero]
          obtain ⟨b1, b2, c1, c2, d1, d2⟩ := hb
          have g1 : 128 ≤ b := by split at b1 <;> omega
          have g2 : b ≤ 191 := by split at b2 <;> omega
          have g3 : a = 240 → 144 ≤ b := fun e => by rw [if_pos e] at b1; exact b1
          have g4 : a = 244 → b ≤ 143 := fun e => by rw [if_pos e] at b2; exact b2
          clear b1 b2 h
          refine ⟨by unfold Sg; omega, ?_⟩
          rw [put4 (by omega)]
          simp only [List.cons_append, List.nil_append, List.cons.injEq, and_true]
          omega
        · exfalso; apply h; simp only [sgl]; rw [if_neg h1, if_neg h2, if_neg h3, if_neg h4, if_pos h5, if_neg hb]
    · exfalso; apply h; simp only [sgl]; rw [if_neg h1, if_neg h2, if_neg h3, if_neg h4, if_neg h5]
theorem sgl_len {l : List Nat} (h : sgl l ≠ 0) : sgl l = (put (cp l)).length ∧ 1 ≤ sgl l ∧ sgl l ≤ 4 ∧ sgl l ≤ l.length := by
  obtain ⟨h1, h2⟩ := sgl_is h
  have e := (sgl_put h1 (l.drop (sgl l))).1
  rw [← h2] at e
  have := put_len (cp l)
  have e3 := congrArg List.length h2
  simp at e3
  omega

/-- the bytes of signs -/
def puts (cs : List Nat) : List Nat := cs.flatMap put
@[simp] theorem puts_nil : puts [] = [] := rfl
theorem puts_cons (c : Nat) (cs : List Nat) : puts (c :: cs) = put c ++ puts cs := rfl
theorem puts_app (a b : List Nat) : puts (a ++ b) = puts a ++ puts b := by unfold puts; simp
theorem puts_snoc (a : List Nat) (c : Nat) : puts (a ++ [c]) = puts a ++ put c := by rw [puts_app]; unfold puts; simp
def Sgs (cs : List Nat) : Prop := ∀ c ∈ cs, Sg c
theorem Sgs.nil : Sgs [] := by intro c h; simp at h
theorem Sgs.cons {c : Nat} {cs : List Nat} (h : Sg c) (hs : Sgs cs) : Sgs (c :: cs) := by
  intro x hx; simp at hx; rcases hx with rfl | hx
  · exact h
  · exact hs x hx
theorem Sgs.snoc {c : Nat} {cs : List Nat} (hs : Sgs cs) (h : Sg c) : Sgs (cs ++ [c]) := by
  intro x hx; simp at hx; rcases hx with hx | rfl
  · exact hs x hx
  · exact h
theorem Sgs.take {cs : List Nat} (hs : Sgs cs) (k : Nat) : Sgs (cs.take k) := fun x hx => hs x (List.mem_of_mem_take hx)
theorem puts_lt {cs : List Nat} (h : Sgs cs) : ∀ x ∈ puts cs, x < 256 := by
  intro x hx
  unfold puts at hx
  rw [List.mem_flatMap] at hx
  obtain ⟨c, hc, hx⟩ := hx
  exact put_lt (h c hc) x hx
theorem puts_len (cs : List Nat) : cs.length ≤ (puts cs).length := by
  induction cs with
  | nil => simp
  | cons c cs ih => rw [puts_cons]; have := put_len c; simp; omega

/-- the signs of a text; none: it is no text -/
def sigsF : Nat → List Nat → Option (List Nat)
  | _, [] => some []
  | 0, _ :: _ => none
  | k + 1, a :: t => if sgl (a :: t) = 0 then none else (sigsF k ((a :: t).drop (sgl (a :: t)))).map (cp (a :: t) :: ·)
def sigs (l : List Nat) : Option (List Nat) := sigsF l.length l
theorem sigsF_sound : ∀ (k : Nat) (l cs : List Nat), sigsF k l = some cs → Sgs cs ∧ l = puts cs := by
  intro k
  induction k with
  | zero =>
    intro l cs h
    match l with
    | [] => simp [sigsF] at h; subst h; exact ⟨Sgs.nil, rfl⟩
    | a :: t => simp [sigsF] at h
  | succ k ih =>
    intro l cs h
    match l with
    | [] => simp [sigsF] at h; subst h; exact ⟨Sgs.nil, rfl⟩
    | a :: t =>
      simp only [sigsF] at h
      by_cases h0 : sgl (a :: t) = 0
      · rw [if_pos h0] at h; simp at h
      · rw [if_neg h0] at h
        obtain ⟨cs', h1, rfl⟩ := Option.map_eq_some_iff.1 h
        obtain ⟨g1, g2⟩ := ih _ _ h1
        obtain ⟨g3, g4⟩ := sgl_is h0
        exact ⟨g1.cons g3, by rw [puts_cons, ← g2]; exact g4⟩
theorem sigsF_complete : ∀ (cs : List Nat) (k : Nat), Sgs cs → (puts cs).length ≤ k → sigsF k (puts cs) = some cs := by
  intro cs
  induction cs with
  | nil => intro k _ _; cases k <;> rfl
  | cons c cs ih =>
    intro k hs hk
    have hc : Sg c := hs c (by simp)
    have hs' : Sgs cs := fun x hx => hs x (by simp [hx])
    rw [puts_cons] at hk ⊢
    have hl := put_len c
    obtain ⟨e1, e2⟩ := sgl_put hc (puts cs)
    match k with
    | 0 => rw [List.length_append] at hk; omega
    | k + 1 =>
      match hm : put c ++ puts cs with
      | [] => have := congrArg List.length hm; rw [List.length_append] at this; simp only [List.length_nil] at this; omega
      | a :: t =>
        have hk2 : (put c).length + (puts cs).length ≤ k + 1 := by rw [← List.length_append]; exact hk
        simp only [sigsF]
        rw [← hm, e1, e2, if_neg (by omega)]
        rw [List.drop_left, ih k hs' (by omega)]
        rfl
theorem sigs_iff {l cs : List Nat} : sigs l = some cs ↔ Sgs cs ∧ l = puts cs := by
  constructor
  · exact sigsF_sound _ _ _
  · rintro ⟨h, rfl⟩
    exact sigsF_complete cs _ h (Nat.le_refl _)
theorem sigs_puts {cs : List Nat} (h : Sgs cs) : sigs (puts cs) = some cs := sigs_iff.2 ⟨h, rfl⟩
theorem puts_split {cs : List Nat} : ∀ {cs' r : List Nat}, Sgs cs → Sgs cs' → puts cs' = puts cs ++ r → ∃ cs'', cs' = cs ++ cs'' ∧ r = puts cs'' := by
  induction cs with
  | nil => intro cs' r _ _ h; exact ⟨cs', rfl, by simpa using h.symm⟩
  | cons c cs ih =>
    intro cs' r hs hs' h
    have hc : Sg c := hs c (by simp)
    rw [puts_cons, List.append_assoc] at h
    match cs' with
    | [] =>
      exfalso
      have := congrArg List.length h
      have := put_len c
      simp at *; omega
    | d :: cs' =>
      have hd : Sg d := hs' d (by simp)
      rw [puts_cons] at h
      have e1 := (sgl_put hd (puts cs')).2
      have e2 := (sgl_put hc (puts cs ++ r)).2
      rw [h, e2] at e1
      subst e1
      have h' := List.append_cancel_left h
      obtain ⟨cs'', g1, g2⟩ := ih (fun x hx => hs x (by simp [hx])) (fun x hx => hs' x (by simp [hx])) h'
      exact ⟨cs'', by rw [g1]; rfl, g2⟩
theorem sigs_app {cs r : List Nat} (h : Sgs cs) : sigs (puts cs ++ r) = (sigs r).map (cs ++ ·) := by
  cases hr : sigs r with
  | none =>
    cases hl : sigs (puts cs ++ r) with
    | none => rfl
    | some cs' =>
      obtain ⟨g1, g2⟩ := sigs_iff.1 hl
      obtain ⟨cs'', rfl, g4⟩ := puts_split h g1 g2.symm
      have : sigs r = some cs'' := sigs_iff.2 ⟨fun x hx => g1 x (by simp [hx]), g4⟩
      rw [hr] at this; simp at this
  | some c2 =>
    obtain ⟨g1, rfl⟩ := sigs_iff.1 hr
    rw [← puts_app, sigs_puts]
    · rfl
    · intro x hx; simp at hx; rcases hx with hx | hx
      · exact h x hx
      · exact g1 x hx
theorem sigs_bad {r : List Nat} (hr : r ≠ []) (h : sgl r = 0) : sigs r = none := by
  cases hl : sigs r with
  | none => rfl
  | some cs =>
    obtain ⟨g1, rfl⟩ := sigs_iff.1 hl
    match cs with
    | [] => simp at hr
    | c :: cs =>
      rw [puts_cons, (sgl_put (g1 c (by simp)) _).1] at h
      have := put_len c; omega
theorem sigs_nil : sigs [] = some [] := rfl
/-- is it a text? -/
def vldB (l : List Nat) : Bool := (sigs l).isSome
theorem vldB_some {l cs : List Nat} (h : sigs l = some cs) : vldB l = true := by unfold vldB; rw [h]; rfl
theorem vldB_none {l : List Nat} (h : sigs l = none) : vldB l = false := by unfold vldB; rw [h]; rfl
theorem vldB_true {l : List Nat} (h : vldB l = true) : ∃ cs, sigs l = some cs := by
  unfold vldB at h; exact Option.isSome_iff_exists.1 h
theorem vldB_false {l : List Nat} (h : vldB l = false) : sigs l = none := by
  unfold vldB at h; simpa using h
/-- how it goes on: cs have been read, r is left -/
theorem sigs_step {l cs r : List Nat} (h : Sgs cs) (hl : l = puts cs ++ r) (h0 : sgl r ≠ 0) :
    Sgs (cs ++ [cp r]) ∧ l = puts (cs ++ [cp r]) ++ r.drop (sgl r) := by
  obtain ⟨g1, g2⟩ := sgl_is h0
  refine ⟨h.snoc g1, ?_⟩
  rw [puts_snoc, List.append_assoc, ← g2]; exact hl
theorem sigs_stop {l cs r : List Nat} (h : Sgs cs) (hl : l = puts cs ++ r) (hr : r ≠ []) (h0 : sgl r = 0) : sigs l = none := by
  rw [hl, sigs_app h, sigs_bad hr h0]; rfl
end Ut
end Go.Proofs.Ytelladgeehlkpaa
namespace Go.Proofs.Ytelladgeehlkpaa
namespace Ut
/-- a string's bytes -/
def byt (s : ByteArray) : List Nat := s.data.toList.map UInt8.toNat
theorem byt_len (s : ByteArray) : (byt s).length = s.size := by unfold byt; simp
theorem byt_get (s : ByteArray) (k : Nat) (h : k < s.size) : (byt s)[k]? = some s[k].toNat := by
  have h' : k < s.data.toList.length := by simpa using h
  unfold byt
  rw [List.getElem?_map, List.getElem?_eq_getElem h']; rfl
theorem byt_at (s : ByteArray) (k : Nat) (h : k < s.size) : (byt s).drop k = s[k].toNat :: (byt s).drop (k + 1) := by
  have h' : k < (byt s).length := by rw [byt_len]; exact h
  rw [List.drop_eq_getElem_cons h']
  congr 1
  have := byt_get s k h
  rw [List.getElem?_eq_getElem h'] at this
  exact Option.some.inj this
theorem byt_lt (s : ByteArray) : ∀ x ∈ byt s, x < 256 := by
  intro x hx
  unfold byt at hx
  rw [List.mem_map] at hx
  obtain ⟨u, _, rfl⟩ := hx
  exact u.toNat_lt
theorem map_inj : ∀ {a b : List UInt8}, a.map UInt8.toNat = b.map UInt8.toNat → a = b := by
  intro a
  induction a with
  | nil => intro b h; simpa using h.symm
  | cons x a ih =>
    intro b h
    match b with
    | [] => simp at h
    | y :: b =>
      simp at h
      rw [ih h.2, UInt8.toNat_inj.1 h.1]
theorem byt_inj {s t : ByteArray} (h : byt s = byt t) : s = t := by
  unfold byt at h
  have := map_inj h
  cases s; cases t
  simp at this
  rw [this]
theorem byt_app (s t : ByteArray) : byt (s ++ t) = byt s ++ byt t := by
  unfold byt
  rw [ByteArray.data_append]; simp
theorem byt_ext (s : ByteArray) (i j : Nat) : byt (s.extract i j) = ((byt s).take j).drop i := by
  unfold byt
  rw [ByteArray.data_extract]
  simp [List.map_drop, List.map_take, List.drop_take]
theorem byt_from (s : ByteArray) (i : Nat) : byt (s.extract i s.size) = (byt s).drop i := by
  rw [byt_ext, List.take_of_length_le (by rw [byt_len]; exact Nat.le_refl _)]
theorem byt_upto (s : ByteArray) (j : Nat) : byt (s.extract 0 j) = (byt s).take j := by
  rw [byt_ext]; simp
/-- the string of some numbers -/
def str (l : List Nat) : ByteArray := ⟨(l.map Nat.toUInt8).toArray⟩
theorem byt_str {l : List Nat} (h : ∀ x ∈ l, x < 256) : byt (str l) = l := by
  unfold byt str
  simp only [List.map_map]
  conv => rhs; rw [← List.map_id l]
  apply List.map_congr_left
  intro x hx
  have := h x hx
  simp only [Function.comp, id]
  show (UInt8.ofNat x).toNat = x
  rw [UInt8.toNat_ofNat']
  omega
theorem str_byt (s : ByteArray) : str (byt s) = s := byt_inj (byt_str (byt_lt s))
theorem str_of {s : ByteArray} {l : List Nat} (h : byt s = l) : s = str l := by rw [← h, str_byt]
theorem str_len (l : List Nat) : (str l).size = l.length := by show (l.map Nat.toUInt8).toArray.size = _; simp
theorem byt_nil {s : ByteArray} (h : s.size = 0) : byt s = [] := by
  rw [← List.length_eq_zero_iff, byt_len, h]

theorem get_byt (s : ByteArray) (k : Nat) (h : k < s.size) : (s.get! k).toNat = (byt s).getD k 0 := by
  have e : s.get! k = s[k] := by simp [ByteArray.get!, getElem!_pos, h]; rfl
  rw [e, List.getD_eq_getElem?_getD, byt_get s k h]; rfl
/-- where a sign stands the range takes just it -/
theorem decode_sign (s : ByteArray) (i c : Nat) (r : List Nat) (hc : Sg c) (h : (byt s).drop i = put c ++ r) : Utf8.decode s i = (c, (put c).length) := by
  have hlen : s.size - i = (put c).length + r.length := by
    have := congrArg List.length h
    rw [List.length_drop, byt_len, List.length_append] at this; exact this
  have hp := put_len c
  have key : ∀ k x, k < (put c).length → (put c)[k]? = some x → (s.get! (i + k)).toNat = x := by
    intro k x hk hx
    rw [get_byt s (i + k) (by omega), List.getD_eq_getElem?_getD]
    have : ((byt s).drop i)[k]? = some x := by rw [h, List.getElem?_append_left hk]; exact hx
    rw [List.getElem?_drop] at this
    rw [this]; rfl
  unfold Sg at hc
  rcases put_cases c with ⟨h1, e⟩ | ⟨h1, h2, e⟩ | ⟨h1, h2, e⟩ | ⟨h1, e⟩ <;> rw [e] at key hlen hp ⊢ <;> simp only [List.length_cons, List.length_nil, Nat.zero_add, Nat.reduceAdd] at key hlen hp ⊢
  · have k0 := key 0 _ (by omega) rfl
    simp only [Utf8.decode, k0]
    rw [if_pos h1]
  · have k0 := key 0 _ (by omega) rfl
    have k1 := key 1 _ (by omega) rfl
    have s1 : i + 1 < s.size := by omega
    simp only [Utf8.decode, k0, k1]
    rw [if_neg (by omega), if_pos (by simp; omega), if_pos (by omega)]
    congr 1
    omega
  · have k0 := key 0 _ (by omega) rfl
    have k1 := key 1 _ (by omega) rfl
    have k2 := key 2 _ (by omega) rfl
    have s1 : i + 1 < s.size := by omega
    have s2 : i + 2 < s.size := by omega
    simp only [Utf8.decode, k0, k1, k2]
    have e : (224 + c / 4096) % 16 * 4096 + (128 + c / 64 % 64) % 64 * 64 + (128 + c % 64) % 64 = c := by omega
    rw [if_neg (by omega), if_neg (by simp; omega), if_pos (by simp; omega), e, if_pos]
    simp [Utf8.valid]; omega
  · have k0 := key 0 _ (by omega) rfl
    have k1 := key 1 _ (by omega) rfl
    have k2 := key 2 _ (by omega) rfl
    have k3 := key 3 _ (by omega) rfl
    have s1 : i + 1 < s.size := by omega
    have s2 : i + 2 < s.size := by omega
    have s3 : i + 3 < s.size := by omega
    simp only [Utf8.decode, k0, k1, k2, k3]
    have e : (240 + c / 262144) % 8 * 262144 + (128 + c / 4096 % 64) % 64 * 4096 + (128 + c / 64 % 64) % 64 * 64 + (128 + c % 64) % 64 = c := by omega
    rw [if_neg (by omega), if_neg (by simp; omega), if_neg (by simp; omega), if_pos (by simp; omega), e, if_pos]
    simp [Utf8.valid]; omega
end Ut
end Go.Proofs.Ytelladgeehlkpaa
namespace Go.Proofs.Ytelladgeehlkpaa
open Go.RowKit
namespace Ut
/-- the first byte's row: how many bytes, the bounds of the second -/
def ld (b : Nat) : Nat × Nat × Nat :=
  if b < 128 then (1, 0, 0) else if b < 194 then (0, 0, 0) else if b < 224 then (2, 128, 191)
  else if b = 224 then (3, 160, 191) else if b = 237 then (3, 128, 159) else if b < 240 then (3, 128, 191)
  else if b = 240 then (4, 144, 191) else if b < 244 then (4, 128, 191) else if b = 244 then (4, 128, 143) else (0, 0, 0)
def ldV (b : Nat) : Value := .tuple #[.int .i64 ((ld b).1 : Nat), .int .u8 ((ld b).2.1 : Nat), .int .u8 ((ld b).2.2 : Nat)]
set_option maxRecDepth 100000 in
set_option maxHeartbeats 1000000 in
theorem lead_any (b : Nat) (w : World) (hb : b < 256) :
    Calls Try.prog 81 #[.int .u8 b] w fun e w' => e = .returned (ldV b) ∧ w = w' := by
  go_enter Try.func81, Try.ntmps81
  go_wp2
  all_goals
    go_ret3
    refine ⟨?_, rfl⟩
    (try simp only [beq_iff_eq, beq_eq_false_iff_ne, ne_eq] at *)
    unfold ldV ld
    repeat first | rw [if_pos (by omega)] | rw [if_neg (by omega)]
    rfl
/-- what signLength answers -/
theorem sgl_ld (a : Nat) (t : List Nat) : sgl (a :: t) = if (ld a).1 < 2 then (ld a).1 else
    if t.length + 1 < (ld a).1 ∨ t.getD 0 0 < (ld a).2.1 ∨ (ld a).2.2 < t.getD 0 0 then 0
    else if (3 ≤ (ld a).1 → 128 ≤ t.getD 1 0 ∧ t.getD 1 0 ≤ 191) ∧ (4 ≤ (ld a).1 → 128 ≤ t.getD 2 0 ∧ t.getD 2 0 ≤ 191) then (ld a).1 else 0 := by
  have e3 : ∀ lo hi : Nat, a < 240 → 224 ≤ a → (if a = 224 then 160 else 128) = lo → (if a = 237 then 159 else 191) = hi →
      sgl (a :: t) = if t.length + 1 < 3 ∨ t.getD 0 0 < lo ∨ hi < t.getD 0 0 then 0 else if (128 ≤ t.getD 1 0 ∧ t.getD 1 0 ≤ 191) then 3 else 0 := by
    intro lo hi h1 h2 hlo hhi
    simp only [sgl]
    rw [if_neg (by omega), if_neg (by omega), if_neg (by omega), if_pos h1]
    match t with
    | [] => simp
    | [b] => simp
    | b :: c :: t =>
      simp only [hlo, hhi, List.length_cons, List.getD_cons_zero, List.getD_cons_succ]
      clear hlo hhi
      split <;> split <;> (try split) <;> omega
  have e4 : ∀ lo hi : Nat, a < 245 → 240 ≤ a → (if a = 240 then 144 else 128) = lo → (if a = 244 then 143 else 191) = hi →
      sgl (a :: t) = if t.length + 1 < 4 ∨ t.getD 0 0 < lo ∨ hi < t.getD 0 0 then 0 else if (128 ≤ t.getD 1 0 ∧ t.getD 1 0 ≤ 191) ∧ (128 ≤ t.getD 2 0 ∧ t.getD 2 0 ≤ 191) then 4 else 0 := by
    intro lo hi h1 h2 hlo hhi
    simp only [sgl]
    rw [if_neg (by omega), if_neg (by omega), if_neg (by omega), if_neg (by omega), if_pos h1]
    match t with
    | [] => simp
    | [b] => simp
    | [b, c] => simp
    | b :: c :: d :: t =>
      simp only [hlo, hhi, List.length_cons, List.getD_cons_zero, List.getD_cons_succ]
      clear hlo hhi e3
      split <;> split <;> (try split) <;> omega
  unfold ld
  by_cases h1 : a < 128
  · simp only [if_pos h1]; simp only [sgl]; rw [if_pos h1, if_pos (by omega)]
  by_cases h2 : a < 194
  · simp only [if_neg h1, if_pos h2]; simp only [sgl]; rw [if_neg h1, if_pos h2, if_pos (by omega)]
  by_cases h3 : a < 224
  · simp only [if_neg h1, if_neg h2, if_pos h3]; simp only [sgl]; rw [if_neg h1, if_neg h2, if_pos h3]
    rw [if_neg (by omega)]
    match t with
    | [] => simp
    | b :: t =>
      simp only [List.length_cons, List.getD_cons_zero]
      clear e3 e4
      split <;> split <;> (try split) <;> omega
  by_cases h4 : a < 240
  · by_cases h5 : a = 224
    · simp only [if_neg h1, if_neg h2, if_neg h3, if_pos h5]
      rw [e3 160 191 h4 (by omega) (if_pos h5) (if_neg (by omega))]
      simp
    by_cases h6 : a = 237
    · simp only [if_neg h1, if_neg h2, if_neg h3, if_neg h5, if_pos h6]
      rw [e3 128 159 h4 (by omega) (if_neg h5) (if_pos h6)]
      simp
    · simp only [if_neg h1, if_neg h2, if_neg h3, if_neg h5, if_neg h6, if_pos h4]
      rw [e3 128 191 h4 (by omega) (if_neg h5) (if_neg h6)]
      simp
  by_cases h7 : a < 245
  · have n5 : ¬ a = 224 := by omega
    have n6 : ¬ a = 237 := by omega
    by_cases h5 : a = 240
    · simp only [if_neg h1, if_neg h2, if_neg h3, if_neg n5, if_neg n6, if_neg h4, if_pos h5]
      rw [e4 144 191 h7 (by omega) (if_pos h5) (if_neg (by omega))]
      simp
    by_cases h6 : a = 244
    · have n7 : ¬ a < 244 := by omega
      simp only [if_neg h1, if_neg h2, if_neg h3, if_neg n5, if_neg n6, if_neg h4, if_neg h5, if_neg n7, if_pos h6]
      rw [e4 128 143 h7 (by omega) (if_neg h5) (if_pos h6)]
      simp
    · have n7 : a < 244 := by omega
      simp only [if_neg h1, if_neg h2, if_neg h3, if_neg n5, if_neg n6, if_neg h4, if_neg h5, if_pos n7]
      rw [e4 128 191 h7 (by omega) (if_neg h5) (if_neg h6)]
      simp
  · simp only [sgl]
    rw [if_neg h1, if_neg h2, if_neg h3, if_neg h4, if_neg h7]
    have n5 : ¬ a = 224 := by omega
    have n6 : ¬ a = 237 := by omega
    have n7 : ¬ a = 240 := by omega
    have n8 : ¬ a < 244 := by omega
    have n9 : ¬ a = 244 := by omega
    simp only [if_neg h1, if_neg h2, if_neg h3, if_neg n5, if_neg n6, if_neg h4, if_neg n7, if_neg n8, if_neg n9]
    rw [if_pos (by omega)]
theorem ld_bd (a : Nat) : (ld a).1 ≤ 4 ∧ (ld a).2.1 < 256 ∧ (ld a).2.2 < 256 := by
  unfold ld
  repeat' split
  all_goals simp
theorem lead_eq {b n lo hi : Nat} (w : World) (hb : b < 256) (h : Hid (ld b = (n, lo, hi))) :
    Calls Try.prog 81 #[.int .u8 b] w fun e w' => e = .returned (.tuple #[.int .i64 (n : Nat), .int .u8 (lo : Nat), .int .u8 (hi : Nat)]) ∧ w = w' := by
  have := lead_any b w hb
  unfold ldV at this
  rw [h.out] at this
  exact this
theorem ret_nat {a b : Nat} (h : a = b) : Ending.returned (.int .i64 (a : Nat)) = .returned (.int .i64 (b : Nat)) := by rw [h]
theorem byt_getD (s : ByteArray) (k : Nat) (h : k + 1 < s.size) : ((byt s).drop 1).getD k 0 = s[k + 1].toNat := by
  rw [List.getD_eq_getElem?_getD, List.getElem?_drop, Nat.add_comm, byt_get s (k + 1) h]; rfl
def Cont (s : ByteArray) (k : Nat) : Prop := ∀ j (h : j < s.size), 2 ≤ j → j < k → 128 ≤ s[j].toNat ∧ s[j].toNat ≤ 191
theorem Cont.snoc {s : ByteArray} {k : Nat} (H : Cont s k) (h : k < s.size) (h1 : 128 ≤ s[k].toNat) (h2 : s[k].toNat ≤ 191) : Cont s (k + 1) := by
  intro j hj h3 h4
  by_cases e : j < k
  · exact H j hj h3 e
  · obtain rfl : j = k := by omega
    exact ⟨h1, h2⟩
theorem sgl_no {s : ByteArray} {n lo hi k : Nat} (_ : Cont s k) (hn2 : ¬ n < 2) (hl : ¬ s.size < n) {h1 : 1 < s.size} (G0 : Hid (((byt s).drop 1).getD 0 0 = s[1].toNat)) (g1 : ¬ s[1].toNat < lo) (g2 : ¬ hi < s[1].toNat)
    (hk2 : 2 ≤ k) (hkn : k < n) (hn4 : n ≤ 4) (hks : k < s.size) (hb : ¬ (128 ≤ s[k].toNat ∧ s[k].toNat ≤ 191)) :
    (if n < 2 then n else if s.size < n ∨ ((byt s).drop 1).getD 0 0 < lo ∨ hi < ((byt s).drop 1).getD 0 0 then 0
    else if (3 ≤ n → 128 ≤ ((byt s).drop 1).getD 1 0 ∧ ((byt s).drop 1).getD 1 0 ≤ 191) ∧ (4 ≤ n → 128 ≤ ((byt s).drop 1).getD 2 0 ∧ ((byt s).drop 1).getD 2 0 ≤ 191) then n else 0) = 0 := by
  rw [if_neg hn2, G0.out, if_neg (by omega), if_neg]
  rintro ⟨a, b⟩
  obtain ⟨k, rfl⟩ : ∃ j, k = j + 1 := ⟨k - 1, by omega⟩
  rw [← byt_getD s k hks] at hb
  by_cases e : k = 1
  · subst e; exact hb (a (by omega))
  · obtain rfl : k = 2 := by omega
    exact hb (b (by omega))
theorem sgl_yes {s : ByteArray} {n lo hi : Nat} (H : Cont s n) (hn2 : ¬ n < 2) (hl : ¬ s.size < n) {h1 : 1 < s.size} (G0 : Hid (((byt s).drop 1).getD 0 0 = s[1].toNat)) (g1 : ¬ s[1].toNat < lo) (g2 : ¬ hi < s[1].toNat) (hn4 : n ≤ 4) :
    (if n < 2 then n else if s.size < n ∨ ((byt s).drop 1).getD 0 0 < lo ∨ hi < ((byt s).drop 1).getD 0 0 then 0
    else if (3 ≤ n → 128 ≤ ((byt s).drop 1).getD 1 0 ∧ ((byt s).drop 1).getD 1 0 ≤ 191) ∧ (4 ≤ n → 128 ≤ ((byt s).drop 1).getD 2 0 ∧ ((byt s).drop 1).getD 2 0 ≤ 191) then n else 0) = n := by
  rw [if_neg hn2, G0.out, if_neg (by omega), if_pos]
  refine ⟨fun h => ?_, fun h => ?_⟩
  · rw [byt_getD s 1 (by omega)]; exact H 2 (by omega) (by omega) (by omega)
  · rw [byt_getD s 2 (by omega)]; exact H 3 (by omega) (by omega) (by omega)
set_option maxRecDepth 100000 in
set_option maxHeartbeats 1000000 in
theorem signLength_any (s : ByteArray) (w : World) (h0 : 0 < s.size) (hs : s.size ≤ maxLen) :
    Calls Try.prog 77 #[.string s] w fun e w' => e = .returned (.int .i64 (sgl (byt s) : Nat)) ∧ w = w' := by
  unfold maxLen at hs
  have hcons : byt s = s[0].toNat :: (byt s).drop 1 := by simpa using byt_at s 0 h0
  have hsg := sgl_ld s[0].toNat ((byt s).drop 1)
  rw [← hcons] at hsg
  obtain ⟨n, lo, hi, hld⟩ : ∃ n lo hi, ld s[0].toNat = (n, lo, hi) := ⟨_, _, _, rfl⟩
  have hbd := ld_bd s[0].toNat
  rw [hld] at hsg hbd
  simp only at hsg hbd
  obtain ⟨hn4, hlo, hhi⟩ := hbd
  have hlen : ((byt s).drop 1).length + 1 = s.size := by rw [List.length_drop, byt_len]; omega
  rw [hlen] at hsg
  have HS := Lib.hid hsg
  have HL := Lib.hid hld
  have hb0 : s[0].toNat < 256 := s[0].toNat_lt
  clear hsg hld hcons hlen
  by_cases hn2 : n < 2
  · go_enter Try.func77, Try.ntmps77
    go_wp2_with (go_at_call 81; refine (lead_eq _ hb0 HL).mono ?_; rintro e w' ⟨rfl, rfl⟩)
    go_ret
    exact ⟨ret_nat (by rw [HS.out, if_pos hn2]), rfl⟩
  by_cases hl : s.size < n
  · go_enter Try.func77, Try.ntmps77
    go_wp2_with (go_at_call 81; refine (lead_eq _ hb0 HL).mono ?_; rintro e w' ⟨rfl, rfl⟩)
    go_ret
    exact ⟨ret_nat (a := 0) (by rw [HS.out, if_neg hn2, if_pos (.inl hl)]), rfl⟩
  have h1 : 1 < s.size := by omega
  have G0 := Lib.hid (byt_getD s 0 h1)
  simp only [Nat.zero_add] at G0
  have hb1 : s[1].toNat < 256 := s[1].toNat_lt
  by_cases g1 : s[1].toNat < lo
  · go_enter Try.func77, Try.ntmps77
    go_wp2_with (go_at_call 81; refine (lead_eq _ hb0 HL).mono ?_; rintro e w' ⟨rfl, rfl⟩)
    go_ret
    exact ⟨ret_nat (a := 0) (by rw [HS.out, if_neg hn2, if_pos]; rw [G0.out]; exact .inr (.inl g1)), rfl⟩
  by_cases g2 : hi < s[1].toNat
  · go_enter Try.func77, Try.ntmps77
    go_wp2_with (go_at_call 81; refine (lead_eq _ hb0 HL).mono ?_; rintro e w' ⟨rfl, rfl⟩)
    go_ret
    exact ⟨ret_nat (a := 0) (by rw [HS.out, if_neg hn2, if_pos]; rw [G0.out]; exact .inr (.inr g2)), rfl⟩
  go_enter Try.func77, Try.ntmps77
  go_wp2_with (go_at_call 81; refine (lead_eq _ hb0 HL).mono ?_; rintro e w' ⟨rfl, rfl⟩)
  go_loop [6] (fun i => ∃ k : Nat, 2 ≤ k ∧ k ≤ n ∧ i = .int .i64 k ∧ Cont s k) (fun i => n - (intOf i).toNat)
  case atStart => exact ⟨2, by omega, by omega, rfl, fun j h h1 h2 => by omega⟩
  case round =>
    obtain ⟨k, hk2, hkn, rfl, hc⟩ := hrel
    have HC := Lib.hid hc
    clear hc
    by_cases hlt : k < n
    · have hks : k < s.size := by omega
      have hbk : s[k].toNat < 256 := s[k].toNat_lt
      by_cases b1 : s[k].toNat < 128
      · go_wp2
        go_ret
        exact ⟨ret_nat (a := 0) (by rw [HS.out, sgl_no HC.out hn2 hl G0 g1 g2 hk2 hlt hn4 hks (fun h => by omega)]), rfl⟩
      by_cases b2 : 191 < s[k].toNat
      · go_wp2
        go_ret
        exact ⟨ret_nat (a := 0) (by rw [HS.out, sgl_no HC.out hn2 hl G0 g1 g2 hk2 hlt hn4 hks (fun h => by omega)]), rfl⟩
      · go_wp2
        go_round
        case rel => exact ⟨k + 1, by omega, by omega, by go_num, HC.out.snoc hks (by omega) (by omega)⟩
        case measure => simp [intOf]; omega
    · obtain rfl : k = n := by omega
      go_wp2
      go_ret
      exact ⟨ret_nat (by rw [HS.out, sgl_yes HC.out hn2 hl G0 g1 g2 hn4]), rfl⟩
/-- how far a text has been read: its signs up to k -/
structure Read (s : ByteArray) (k : Nat) (cs : List Nat) : Prop where
  le : k ≤ s.size
  sg : Sgs cs
  eq : byt s = puts cs ++ (byt s).drop k
theorem Read.start (s : ByteArray) : Read s 0 [] := ⟨by omega, Sgs.nil, rfl⟩
theorem Read.step {s : ByteArray} {k : Nat} {cs : List Nat} (h : Read s k cs) (h0 : sgl ((byt s).drop k) ≠ 0) :
    Read s (k + sgl ((byt s).drop k)) (cs ++ [cp ((byt s).drop k)]) := by
  obtain ⟨g1, g2⟩ := sigs_step h.sg h.eq h0
  have g3 := sgl_len h0
  rw [List.length_drop, byt_len] at g3
  refine ⟨by omega, g1, ?_⟩
  rw [List.drop_drop] at g2
  exact g2
theorem Read.stop {s : ByteArray} {k : Nat} {cs : List Nat} (h : Read s k cs) (hk : k < s.size) (h0 : sgl ((byt s).drop k) = 0) : sigs (byt s) = none :=
  sigs_stop h.sg h.eq (by rw [byt_at s k hk]; simp) h0
theorem Read.done {s : ByteArray} {k : Nat} {cs : List Nat} (h : Read s k cs) (hk : ¬ k < s.size) : sigs (byt s) = some cs := by
  have e := h.eq
  rw [List.drop_of_length_le (by rw [byt_len]; omega), List.append_nil] at e
  rw [e]; exact sigs_puts h.sg
theorem Read.next {s : ByteArray} {k : Nat} {cs cs' : List Nat} (h : Read s k cs) (hk : k < s.size) (hv : sigs (byt s) = some cs') :
    ∃ c r, Sg c ∧ cs' = cs ++ c :: r ∧ (byt s).drop k = put c ++ puts r ∧ Read s (k + (put c).length) (cs ++ [c]) ∧ Utf8.decode s k = (c, (put c).length) := by
  obtain ⟨g1, g2⟩ := sigs_iff.1 hv
  obtain ⟨r, rfl, g4⟩ := puts_split h.sg g1 (by rw [← g2]; exact h.eq)
  match r with
  | [] => rw [byt_at s k hk] at g4; simp at g4
  | c :: r =>
    have hc : Sg c := g1 c (by simp)
    rw [puts_cons] at g4
    have e := sgl_put hc (puts r)
    have h2 := h.step (by rw [g4, e.1]; have := put_len c; omega)
    rw [g4, e.1, e.2] at h2
    exact ⟨c, r, hc, rfl, g4, h2, decode_sign s k c _ hc g4⟩
theorem ret_bool {a b : Bool} (h : a = b) : Ending.returned (.bool a) = .returned (.bool b) := by rw [h]
set_option maxRecDepth 100000 in
set_option maxHeartbeats 1000000 in
theorem valid_any (s : ByteArray) (w : World) (hs : s.size ≤ maxLen) :
    Calls Try.prog 67 #[.string s] w fun e w' => e = .returned (.bool (vldB (byt s))) ∧ w = w' := by
  have hs' := hs
  unfold maxLen at hs
  go_enter Try.func67, Try.ntmps67
  go_wp2
  go_loop [3] (fun i => ∃ (k : Nat) (cs : List Nat), i = .int .i64 k ∧ Read s k cs) (fun i => s.size - (intOf i).toNat)
  case atStart => exact ⟨0, [], rfl, Read.start s⟩
  case round =>
    obtain ⟨k, cs, rfl, hr⟩ := hrel
    have hk := hr.le
    by_cases hlt : k < s.size
    · have hc := signLength_any (s.extract k s.size) w (by rw [ByteArray.size_extract]; omega) (by rw [ByteArray.size_extract]; unfold maxLen; omega)
      rw [byt_from] at hc
      by_cases h0 : sgl ((byt s).drop k) = 0
      · rw [h0] at hc
        have HV := Lib.hid (vldB_none (hr.stop hlt h0))
        clear h0
        go_wp2_with (go_at_call 77; refine hc.mono ?_; rintro e w' ⟨rfl, rfl⟩)
        go_ret
        exact ⟨ret_bool HV.out.symm, rfl⟩
      · have hl := sgl_len h0
        rw [List.length_drop, byt_len] at hl
        have hst := hr.step h0
        have hz : 1 ≤ sgl ((byt s).drop k) ∧ sgl ((byt s).drop k) ≤ s.size - k := ⟨hl.2.1, hl.2.2.2⟩
        generalize sgl ((byt s).drop k) = n at hc hst hz
        clear hl h0
        have hne : ((n : Int) == 0) = false := by simp; omega
        go_wp2_with (go_at_call 77; refine hc.mono ?_; rintro e w' ⟨rfl, rfl⟩)
        go_round
        case rel => exact ⟨k + n, _, by go_num, hst⟩
        case measure => simp [intOf]; omega
    · have HV := Lib.hid (vldB_some (hr.done hlt))
      go_wp2
      go_ret
      exact ⟨ret_bool HV.out.symm, rfl⟩
end Ut
end Go.Proofs.Ytelladgeehlkpaa
namespace Go.Proofs.Ytelladgeehlkpaa
open Go.RowKit
namespace Ut
/-- the signs of a text, none of what is none -/
def sgsOf (s : ByteArray) : List Nat := (sigs (byt s)).getD []
theorem sgsOf_some {s : ByteArray} {cs : List Nat} (h : sigs (byt s) = some cs) : sgsOf s = cs := by unfold sgsOf; rw [h]; rfl
theorem sgsOf_none {s : ByteArray} (h : sigs (byt s) = none) : sgsOf s = [] := by unfold sgsOf; rw [h]; rfl
theorem sgsOf_sg (s : ByteArray) : Sgs (sgsOf s) := by
  unfold sgsOf
  cases h : sigs (byt s) with
  | none => exact Sgs.nil
  | some cs => exact (sigs_iff.1 h).1
theorem sgsOf_len (s : ByteArray) : (sgsOf s).length ≤ s.size := by
  unfold sgsOf
  cases h : sigs (byt s) with
  | none => simp
  | some cs => have := puts_len cs; rw [← (sigs_iff.1 h).2, byt_len] at this; exact this
theorem Below.iter (w : World) (s : ByteArray) (pos : Nat) : Below w.heap.size w (w.iter s pos) := (Below.refl _ _).alloc (Nat.le_refl _) _
theorem Read.len {s : ByteArray} {k : Nat} {cs : List Nat} (h : Read s k cs) : cs.length ≤ k ∧ (puts cs).length = k := by
  have := congrArg List.length h.eq
  rw [List.length_append, List.length_drop, byt_len] at this
  have h1 := puts_len cs
  have h2 := h.le
  omega
/-- the first signs of a text -/
def frst (s : ByteArray) (n : Int) : List Nat := puts ((sgsOf s).take n.toNat)
theorem ret_str {a b : ByteArray} (h : a = b) : Ending.returned (.string a) = .returned (.string b) := by rw [h]
theorem str_nil : str [] = ByteArray.empty := rfl
end Ut
end Go.Proofs.Ytelladgeehlkpaa
