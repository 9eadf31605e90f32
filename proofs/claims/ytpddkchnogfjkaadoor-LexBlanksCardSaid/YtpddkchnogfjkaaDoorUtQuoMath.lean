/- How signs are quoted, and what strings of JSON stand for, as mathematics. No condition. -/
import Derived.Test.YtpddkchnogfjkaaDoorUtBytes
namespace Go.Proofs.YtpddkchnogfjkaaDoor
namespace Ut
/-- a digit of the base 16 -/
def hx (d : Nat) : Nat := if d < 10 then 48 + d else 87 + d
/-- a sign, quoted -/
def quo (c : Nat) : List Nat :=
  if c = 34 then [92, 34] else if c = 92 then [92, 92] else if c = 8 then [92, 98] else if c = 9 then [92, 116] else if c = 10 then [92, 110]
  else if c = 12 then [92, 102] else if c = 13 then [92, 114] else if c < 32 then [92, 117, 48, 48, hx (c / 16), hx (c % 16)] else put c
theorem quo_low {c : Nat} (h : c < 32) (h1 : c ≠ 8) (h2 : c ≠ 9) (h3 : c ≠ 10) (h4 : c ≠ 12) (h5 : c ≠ 13) : quo c = [92, 117, 48, 48, hx (c / 16), hx (c % 16)] := by
  unfold quo; rw [if_neg (by omega), if_neg (by omega), if_neg h1, if_neg h2, if_neg h3, if_neg h4, if_neg h5, if_pos h]
theorem quo_put {c : Nat} (h : ¬ c < 32) (h1 : c ≠ 34) (h2 : c ≠ 92) : quo c = put c := by
  unfold quo; rw [if_neg h1, if_neg h2, if_neg (by omega), if_neg (by omega), if_neg (by omega), if_neg (by omega), if_neg (by omega), if_neg h]
theorem hx_bd {d : Nat} (h : d < 16) : 48 ≤ hx d ∧ hx d < 103 := by unfold hx; split <;> omega
theorem quo_cases (c : Nat) : ((c = 34 ∨ c = 92 ∨ c = 8 ∨ c = 9 ∨ c = 10 ∨ c = 12 ∨ c = 13) ∧ ∃ x, quo c = [92, x] ∧ 32 ≤ x ∧ x < 128) ∨ (c < 32 ∧ quo c = [92, 117, 48, 48, hx (c / 16), hx (c % 16)]) ∨ (32 ≤ c ∧ c ≠ 34 ∧ c ≠ 92 ∧ quo c = put c) := by
  by_cases h1 : c = 34
  · subst h1; exact .inl ⟨.inl rfl, 34, rfl, by omega, by omega⟩
  by_cases h2 : c = 92
  · subst h2; exact .inl ⟨.inr (.inl rfl), 92, rfl, by omega, by omega⟩
  by_cases h3 : c = 8
  · subst h3; exact .inl ⟨by omega, 98, rfl, by omega, by omega⟩
  by_cases h4 : c = 9
  · subst h4; exact .inl ⟨by omega, 116, rfl, by omega, by omega⟩
  by_cases h5 : c = 10
  · subst h5; exact .inl ⟨by omega, 110, rfl, by omega, by omega⟩
  by_cases h6 : c = 12
  · subst h6; exact .inl ⟨by omega, 102, rfl, by omega, by omega⟩
  by_cases h7 : c = 13
  · subst h7; exact .inl ⟨by omega, 114, rfl, by omega, by omega⟩
  by_cases h8 : c < 32
  · exact .inr (.inl ⟨h8, quo_low h8 h3 h4 h5 h6 h7⟩)
  · exact .inr (.inr ⟨by omega, h1, h2, quo_put h8 h1 h2⟩)
theorem quo_bytes {c : Nat} (hc : Sg c) : ∀ x ∈ quo c, 32 ≤ x ∧ x < 256 := by
  intro x hx'
  rcases quo_cases c with ⟨_, y, h, h1, h2⟩ | ⟨h1, h⟩ | ⟨h1, _, _, h⟩ <;> rw [h] at hx'
  · simp at hx'; omega
  · have := hx_bd (d := c / 16) (by omega)
    have := hx_bd (d := c % 16) (by omega)
    simp at hx'; omega
  · refine ⟨?_, put_lt hc x hx'⟩
    rcases put_cases c with ⟨_, h⟩ | ⟨_, _, h⟩ | ⟨_, _, h⟩ | ⟨_, h⟩ <;> rw [h] at hx' <;> simp at hx' <;> omega
theorem quo_len (c : Nat) : 1 ≤ (quo c).length ∧ (quo c).length ≤ 6 := by
  rcases quo_cases c with ⟨_, y, h, _⟩ | ⟨_, h⟩ | ⟨_, _, _, h⟩ <;> rw [h]
  · simp
  · simp
  · have := put_len c; omega
def quos (cs : List Nat) : List Nat := cs.flatMap quo
theorem quos_snoc (cs : List Nat) (c : Nat) : quos (cs ++ [c]) = quos cs ++ quo c := by unfold quos; simp
theorem quos_len (cs : List Nat) : (quos cs).length ≤ 6 * cs.length := by
  induction cs with
  | nil => simp [quos]
  | cons c cs ih =>
    have := quo_len c
    have e : quos (c :: cs) = quo c ++ quos cs := rfl
    rw [e, List.length_append, List.length_cons]; omega
theorem quos_bytes {cs : List Nat} (h : Sgs cs) : ∀ x ∈ quos cs, 32 ≤ x ∧ x < 256 := by
  intro x hx
  unfold quos at hx
  rw [List.mem_flatMap] at hx
  obtain ⟨c, hc, hx⟩ := hx
  exact quo_bytes (h c hc) x hx
/-- signs, quoted -/
def quoted (cs : List Nat) : List Nat := 34 :: quos cs ++ [34]
theorem quoted_bytes {cs : List Nat} (h : Sgs cs) : ∀ x ∈ quoted cs, 32 ≤ x ∧ x < 256 := by
  intro x hx
  unfold quoted at hx
  simp at hx
  rcases hx with rfl | hx | rfl
  · omega
  · exact quos_bytes h x hx
  · omega

/-- the value of a digit -/
def dg (b : Nat) : Option Nat := if 48 ≤ b ∧ b ≤ 57 then some (b - 48) else if 97 ≤ b ∧ b ≤ 102 then some (b - 87) else if 65 ≤ b ∧ b ≤ 70 then some (b - 55) else none
theorem dg_lt {b d : Nat} (h : dg b = some d) : d < 16 := by
  unfold dg at h
  split at h
  · simp at h; omega
  split at h
  · simp at h; omega
  split at h
  · simp at h; omega
  · simp at h
theorem dg_hx {d : Nat} (h : d < 16) : dg (hx d) = some d := by
  unfold hx
  split
  · unfold dg; rw [if_pos (by omega)]; congr 1; omega
  · unfold dg; rw [if_neg (by omega), if_pos (by omega)]; congr 1; omega
/-- four digits at the head -/
def four : List Nat → Option Nat
  | a :: b :: c :: d :: _ => match dg a, dg b, dg c, dg d with
    | some a, some b, some c, some d => some (4096 * a + 256 * b + 16 * c + d)
    | _, _, _, _ => none
  | _ => none
theorem four_lt {l : List Nat} {n : Nat} (h : four l = some n) : n < 65536 ∧ 4 ≤ l.length := by
  match l with
  | [] => simp [four] at h
  | [_] => simp [four] at h
  | [_, _] => simp [four] at h
  | [_, _, _] => simp [four] at h
  | a :: b :: c :: d :: t =>
    simp only [four] at h
    split at h
    · rename_i ha hb hc hd
      have := dg_lt ha; have := dg_lt hb; have := dg_lt hc; have := dg_lt hd
      simp at h
      exact ⟨by omega, by simp⟩
    · simp at h
theorem four_is {a b c d x y z u : Nat} {t : List Nat} (ha : dg a = some x) (hb : dg b = some y) (hc : dg c = some z) (hd : dg d = some u) : four (a :: b :: c :: d :: t) = some (4096 * x + 256 * y + 16 * z + u) := by
  simp only [four, ha, hb, hc, hd]
/-- what a short escape stands for -/
def smp (c : Nat) : Option Nat :=
  if c = 34 then some 34 else if c = 92 then some 92 else if c = 47 then some 47 else if c = 98 then some 8 else if c = 116 then some 9
  else if c = 110 then some 10 else if c = 102 then some 12 else if c = 114 then some 13 else none
/-- the number of \u and four digits at the head -/
def unum : List Nat → Option Nat
  | 92 :: 117 :: t => four t
  | _ => none
/-- the escape at the head: what it stands for, how many bytes it takes -/
def esc : List Nat → Option (Nat × Nat)
  | _ :: c :: t =>
    if c = 117 then (match four t with
      | none => none
      | some n => if 55296 ≤ n ∧ n < 56320 then (match unum (t.drop 4) with
          | some m => if 56320 ≤ m ∧ m < 57344 then some (65536 + 1024 * (n - 55296) + (m - 56320), 12) else some (n, 6)
          | none => some (n, 6)) else some (n, 6))
    else (match smp c with | some d => some (d, 2) | none => none)
  | _ => none
/-- one step: what is put, how many bytes it takes; none: wrong form; a surrogate alone puts nothing -/
def stp : List Nat → Option (Option (List Nat) × Nat)
  | [] => none
  | a :: t => if a = 34 ∨ a < 32 then none else if a ≠ 92 then some (some [a], 1)
    else match esc (a :: t) with
      | none => none
      | some (r, n) => if 55296 ≤ r ∧ r < 57344 then some (none, n) else some (some (put r), n)
def cmb (o : Option (List Nat)) : Option (Option (List Nat)) → Option (Option (List Nat))
  | none => none
  | some none => some none
  | some (some b) => some (o.map (· ++ b))
def unqF : Nat → List Nat → Option (Option (List Nat))
  | _, [] => some (some [])
  | 0, _ :: _ => none
  | k + 1, a :: t => match stp (a :: t) with
    | none => none
    | some (o, n) => cmb o (unqF k ((a :: t).drop n))
/-- what stands between the signs ": none: wrong form; some none: a surrogate alone -/
def unq (l : List Nat) : Option (Option (List Nat)) := unqF l.length l
theorem esc_n {l : List Nat} {r n : Nat} (h : esc l = some (r, n)) : 2 ≤ n ∧ n ≤ l.length ∧ n ≤ 12 ∧ r < 1114112 ∧ (put r).length + 1 ≤ n := by
  match l with
  | [] => simp [esc] at h
  | [_] => simp [esc] at h
  | a :: c :: t =>
    simp only [esc] at h
    by_cases hc : c = 117
    · rw [if_pos hc] at h
      cases hf : four t with
      | none => rw [hf] at h; simp at h
      | some m =>
        rw [hf] at h
        have hm := four_lt hf
        have h6 : ∀ q, (some (m, 6) : Option (Nat × Nat)) = some q → 2 ≤ q.2 ∧ q.2 ≤ (a :: c :: t).length ∧ q.2 ≤ 12 ∧ q.1 < 1114112 ∧ (put q.1).length + 1 ≤ q.2 := by
          intro q hq
          simp at hq
          subst hq
          refine ⟨by simp, by simp; omega, by simp, by simp; omega, ?_⟩
          have := put_len m; simp; omega
        simp only at h
        by_cases hh : 55296 ≤ m ∧ m < 56320
        · rw [if_pos hh] at h
          cases hu : unum (t.drop 4) with
          | none => rw [hu] at h; exact h6 _ h
          | some u =>
            rw [hu] at h
            simp only at h
            by_cases hl : 56320 ≤ u ∧ u < 57344
            · rw [if_pos hl] at h
              simp at h
              obtain ⟨rfl, rfl⟩ := h
              have hlen : 6 ≤ (t.drop 4).length := by
                match hd : t.drop 4, hu with
                | 92 :: 117 :: t', hu =>
                  have := four_lt (l := t') hu
                  simp; omega
              rw [List.length_drop] at hlen
              refine ⟨by omega, by simp; omega, by omega, by omega, ?_⟩
              have := put_len (65536 + 1024 * (m - 55296) + (u - 56320)); omega
            · rw [if_neg hl] at h; exact h6 _ h
        · rw [if_neg hh] at h; exact h6 _ h
    · rw [if_neg hc] at h
      cases hs : smp c with
      | none => rw [hs] at h; simp at h
      | some d =>
        rw [hs] at h
        simp at h
        obtain ⟨rfl, rfl⟩ := h
        have hd : d < 128 := by
          unfold smp at hs
          repeat (split at hs; · simp at hs; omega)
          simp at hs
        refine ⟨by omega, by simp, by omega, by omega, ?_⟩
        rw [put1 hd]; simp
theorem stp_n {l : List Nat} {o : Option (List Nat)} {n : Nat} (h : stp l = some (o, n)) : 1 ≤ n ∧ n ≤ l.length ∧ n ≤ 12 ∧ ∀ p, o = some p → p.length ≤ n := by
  match l with
  | [] => simp [stp] at h
  | a :: t =>
    simp only [stp] at h
    by_cases h1 : a = 34 ∨ a < 32
    · rw [if_pos h1] at h; simp at h
    rw [if_neg h1] at h
    by_cases h2 : a ≠ 92
    · rw [if_pos h2] at h
      simp at h
      obtain ⟨rfl, rfl⟩ := h
      exact ⟨by omega, by simp, by omega, fun p hp => by simp at hp; subst hp; simp⟩
    rw [if_neg h2] at h
    cases he : esc (a :: t) with
    | none => rw [he] at h; simp at h
    | some q =>
      obtain ⟨r, m⟩ := q
      rw [he] at h
      simp only at h
      have g := esc_n he
      split at h <;> simp at h <;> obtain ⟨rfl, rfl⟩ := h
      · exact ⟨by omega, by omega, by omega, fun p hp => by simp at hp⟩
      · exact ⟨by omega, by omega, by omega, fun p hp => by simp at hp; subst hp; omega⟩
theorem unqF_more : ∀ (k : Nat) (l : List Nat), l.length ≤ k → unqF k l = unq l := by
  intro k
  induction k using Nat.strongRecOn with
  | ind k ih =>
    intro l hl
    match l with
    | [] => cases k <;> rfl
    | a :: t =>
      match k with
      | 0 => simp at hl
      | k + 1 =>
        unfold unq
        simp only [List.length_cons, unqF]
        cases hs : stp (a :: t) with
        | none => rfl
        | some q =>
          obtain ⟨o, n⟩ := q
          have g := stp_n hs
          simp only
          have e1 : ((a :: t).drop n).length ≤ k := by rw [List.length_drop]; simp at hl ⊢; omega
          have e2 : ((a :: t).drop n).length ≤ t.length := by rw [List.length_drop]; simp; omega
          rw [ih k (by omega) _ e1]
          by_cases hk : t.length < k + 1
          · rw [ih t.length hk _ e2]
          · simp at hl; omega
theorem unq_nil : unq [] = some (some []) := rfl
theorem unq_bad {l : List Nat} (hl : l ≠ []) (h : stp l = none) : unq l = none := by
  match l with
  | [] => simp at hl
  | a :: t => unfold unq; simp only [List.length_cons, unqF, h]
theorem unq_step {l : List Nat} {o : Option (List Nat)} {n : Nat} (h : stp l = some (o, n)) : unq l = cmb o (unq (l.drop n)) := by
  have g := stp_n h
  match l with
  | [] => simp at g; omega
  | a :: t =>
    conv => lhs; unfold unq
    simp only [List.length_cons, unqF, h]
    rw [unqF_more]
    rw [List.length_drop]; simp; omega
/-- what has been put of a prefix -/
def app (a b : Option (List Nat)) : Option (List Nat) := a.bind fun x => b.map (x ++ ·)
theorem cmb_app (a b : Option (List Nat)) (r : Option (Option (List Nat))) : cmb a (cmb b r) = cmb (app a b) r := by
  match a, b, r with
  | _, _, none => rfl
  | _, _, some none => rfl
  | none, none, some (some _) => rfl
  | none, some _, some (some _) => rfl
  | some _, none, some (some _) => rfl
  | some a, some b, some (some c) => simp [cmb, app]
theorem cmb_nil (r : Option (Option (List Nat))) : cmb (some []) r = r := by
  match r with
  | none => rfl
  | some none => rfl
  | some (some b) => simp [cmb]
theorem cmb_end (o : Option (List Nat)) : cmb o (some (some [])) = some o := by cases o <;> simp [cmb]
end Ut
end Go.Proofs.YtpddkchnogfjkaaDoor
