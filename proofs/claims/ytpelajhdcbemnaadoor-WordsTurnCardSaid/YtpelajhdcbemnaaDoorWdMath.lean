/- Mathematics of layer 8: parts of a text, found byte by byte; no program. -/
import Derived.Lib.SplitLaws
import Derived.Lib.IndexMore
namespace Go.Proofs.YtpelajhdcbemnaaDoor
namespace Wd
open Go.Lib
/-- the parts of l, between places of p -/
def ps (l p : List UInt8) : List (List UInt8) := split l p
theorem ps_miss {l p : List UInt8} (h : index l p = -1) : ps l p = [l] := by
  unfold ps split
  rw [count_miss h]
  rfl
theorem ps_hit {l p : List UInt8} {i : Nat} (hp : p ≠ []) (h : index l p = i) : ps l p = l.take i :: ps (l.drop (i + p.length)) p := by
  unfold ps split
  rw [count_hit hp h, Nat.add_comm 1]
  have hm : ¬ (index l p == -1) = true := fun e => by have := beq_iff_eq.1 e; omega
  have e : (index l p).toNat = i := by omega
  rw [splitK, if_neg hm, e, Nat.add_zero]
theorem ps_length {l p : List UInt8} (hp : p ≠ []) : (ps l p).length = count l p + 1 := by
  have : ∀ (n : Nat) (l : List UInt8), l.length ≤ n → (ps l p).length = count l p + 1 := by
    intro n
    induction n with
    | zero =>
      intro l hl
      rcases index_spec l p with ⟨h1, _⟩ | ⟨i, h1, h2, h3, _⟩
      · rw [ps_miss h1, count_miss h1]; rfl
      · have := index_room l p (by omega)
        have := List.length_pos_iff.2 hp
        omega
    | succ n ih =>
      intro l hl
      rcases index_spec l p with ⟨h1, _⟩ | ⟨i, h1, h2, h3, _⟩
      · rw [ps_miss h1, count_miss h1]; rfl
      · have := List.length_pos_iff.2 hp
        rw [ps_hit hp h1, count_hit hp h1, List.length_cons, ih _ (by rw [List.length_drop]; omega)]
        omega
  exact this _ _ (Nat.le_refl _)
/-- does p stand in l at i? -/
def atL (l p : List UInt8) (i : Int) : Bool := decide (0 ≤ i ∧ i + p.length ≤ l.length ∧ (l.drop i.toNat).take p.length = p)
theorem atL_occ {l p : List UInt8} {i : Nat} (h : i ≤ l.length) : atL l p i = occAt l p i := by
  unfold atL occAt
  rw [Bool.eq_iff_iff, decide_eq_true_iff, List.isPrefixOf_iff_prefix]
  constructor
  · rintro ⟨_, _, h3⟩
    rw [← h3]
    simpa using List.take_prefix _ _
  · intro h1
    have h2 := h1.length_le
    rw [List.length_drop] at h2
    refine ⟨by omega, by omega, ?_⟩
    have := List.prefix_iff_eq_take.1 h1
    simpa using this.symm
/-- how far the parts have been found: those that are, where the next begins, and how far it goes on -/
structure Sc (l p : List UInt8) (f i : Nat) (ws : List (List UInt8)) : Prop where
  le : f ≤ i
  lt : i ≤ l.length + 1
  fl : f ≤ l.length
  eq : ws ++ ps (l.drop f) p = ps l p
  no : NoOcc (l.drop f) p (i - f)
theorem Sc.start (l p : List UInt8) : Sc l p 0 0 [] := ⟨Nat.le_refl _, by omega, by omega, rfl, NoOcc.zero _ _⟩
theorem occ_drop {l p : List UInt8} {f i : Nat} (h : f ≤ i) : occAt (l.drop f) p (i - f) = occAt l p i := by
  unfold occAt
  rw [List.drop_drop]
  congr 2
  omega
theorem Sc.miss {l p : List UInt8} {f i : Nat} {ws : List (List UInt8)} (h : Sc l p f i ws) (hi : i ≤ l.length) (ha : atL l p i = false) : Sc l p f (i + 1) ws := by
  refine ⟨by have := h.le; omega, by omega, h.fl, h.eq, ?_⟩
  have := h.le
  rw [show i + 1 - f = i - f + 1 by omega]
  refine h.no.succ ?_
  rw [occ_drop h.le, ← atL_occ hi]
  exact ha
theorem Sc.hit {l p : List UInt8} {f i : Nat} {ws : List (List UInt8)} (h : Sc l p f i ws) (hp : p ≠ []) (hi : i ≤ l.length) (ha : atL l p i = true) :
    i + p.length ≤ l.length ∧ Sc l p (i + p.length) (i + p.length) (ws ++ [(l.drop f).take (i - f)]) := by
  have hr : i + p.length ≤ l.length := by
    unfold atL at ha
    have := of_decide_eq_true ha
    omega
  have hle := h.le
  have ho : occAt (l.drop f) p (i - f) = true := by rw [occ_drop h.le, ← atL_occ hi]; exact ha
  have hx := index_hit h.no (by rw [List.length_drop]; omega) ho
  refine ⟨hr, Nat.le_refl _, by omega, hr, ?_, ?_⟩
  · have := h.eq
    rw [ps_hit hp hx, List.drop_drop, show f + (i - f + p.length) = i + p.length by omega] at this
    rw [← this, List.append_assoc]
    rfl
  · rw [Nat.sub_self]; exact NoOcc.zero _ _
theorem Sc.done {l p : List UInt8} {f i : Nat} {ws : List (List UInt8)} (h : Sc l p f i ws) (hp : p ≠ []) (hi : l.length < i) : ps l p = ws ++ [l.drop f] := by
  have := List.length_pos_iff.2 hp
  have hx := index_past hp h.no (by rw [List.length_drop]; have := h.le; omega)
  rw [← h.eq, ps_miss hx]
/-- texts, one behind the other, p between them -/
def jn (xs : List (List UInt8)) (p : List UInt8) : List UInt8 := p.intercalate xs
/-- what is split is joined again -/
theorem ps_join (l p : List UInt8) (hp : p ≠ []) : jn (ps l p) p = l := by
  have : ∀ (n : Nat) (l : List UInt8), l.length ≤ n → jn (ps l p) p = l := by
    intro n
    induction n with
    | zero =>
      intro l hl
      rcases index_spec l p with ⟨h1, _⟩ | ⟨i, h1, h2, h3, _⟩
      · rw [ps_miss h1]; simp [jn]
      · have := index_room l p (by omega)
        have := List.length_pos_iff.2 hp
        omega
    | succ n ih =>
      intro l hl
      rcases index_spec l p with ⟨h1, _⟩ | ⟨i, h1, h2, h3, _⟩
      · rw [ps_miss h1]; simp [jn]
      · have hroom := index_room l p (by omega)
        have := List.length_pos_iff.2 hp
        have hrec := ih (l.drop (i + p.length)) (by rw [List.length_drop]; omega)
        have hne : ps (l.drop (i + p.length)) p ≠ [] := by
          intro e
          have := ps_length (l := l.drop (i + p.length)) hp
          rw [e] at this
          simp at this
        rw [ps_hit hp h1]
        obtain ⟨x, r, hxr⟩ : ∃ x r, ps (l.drop (i + p.length)) p = x :: r := by
          cases hq : ps (l.drop (i + p.length)) p with
          | nil => exact absurd hq hne
          | cons x r => exact ⟨x, r, rfl⟩
        unfold jn at hrec ⊢
        rw [hxr] at hrec ⊢
        rw [List.intercalate_cons_cons, hrec]
        have ho : (l.drop i).take p.length = p := by
          have := List.prefix_iff_eq_take.1 (List.isPrefixOf_iff_prefix.1 h3)
          exact this.symm
        conv => rhs; rw [← List.take_append_drop i l, ← List.take_append_drop p.length (l.drop i), ho, List.drop_drop]
        rw [List.append_assoc]
  exact this _ _ (Nat.le_refl _)
/-- no part has p in it -/
theorem ps_none (l p : List UInt8) (hp : p ≠ []) : ∀ x ∈ ps l p, index x p = -1 := by
  have : ∀ (n : Nat) (l : List UInt8), l.length ≤ n → ∀ x ∈ ps l p, index x p = -1 := by
    intro n
    induction n with
    | zero =>
      intro l hl x hx
      rcases index_spec l p with ⟨h1, _⟩ | ⟨i, h1, h2, h3, _⟩
      · rw [ps_miss h1] at hx
        rw [List.mem_singleton.1 hx]
        exact h1
      · have := index_room l p (by omega)
        have := List.length_pos_iff.2 hp
        omega
    | succ n ih =>
      intro l hl x hx
      rcases index_spec l p with ⟨h1, _⟩ | ⟨i, h1, h2, h3, h4⟩
      · rw [ps_miss h1] at hx
        rw [List.mem_singleton.1 hx]
        exact h1
      · have hroom := index_room l p (by omega)
        have := List.length_pos_iff.2 hp
        rw [ps_hit hp h1] at hx
        rcases List.mem_cons.1 hx with rfl | hx
        · refine index_none fun j hj => ?_
          cases ho : occAt (l.take i) p j with
          | false => rfl
          | true =>
            exfalso
            have h5 : p <+: (l.take i).drop j := List.isPrefixOf_iff_prefix.1 ho
            have h6 := h5.length_le
            rw [List.length_drop, List.length_take] at h6
            have h7 : occAt l p j = true := by
              unfold occAt
              rw [List.isPrefixOf_iff_prefix]
              refine h5.trans ?_
              rw [List.drop_take]
              exact List.take_prefix _ _
            rw [h4 j (by omega)] at h7
            cases h7
        · exact ih (l.drop (i + p.length)) (by rw [List.length_drop]; omega) x hx
  exact this _ _ (Nat.le_refl _)
/-- parts without a byte, joined by it, are split into just these -/
theorem ps_of_join (c : UInt8) : ∀ xs : List (List UInt8), xs ≠ [] → (∀ x ∈ xs, c ∉ x) → ps (jn xs [c]) [c] = xs
  | [], h, _ => absurd rfl h
  | [x], _, hx => by
    have e : jn [x] [c] = x := by simp [jn]
    rw [e]
    refine ps_miss (index_none fun j hj => ?_)
    cases ho : occAt x [c] j with
    | false => rfl
    | true =>
      exfalso
      have h5 : [c] <+: x.drop j := List.isPrefixOf_iff_prefix.1 ho
      exact hx x (by simp) (List.mem_of_mem_drop (h5.subset (by simp)))
  | x :: y :: r, _, hx => by
    have e : jn (x :: y :: r) [c] = x ++ [c] ++ jn (y :: r) [c] := by unfold jn; rw [List.intercalate_cons_cons]
    have hix : index (jn (x :: y :: r) [c]) [c] = (x.length : Nat) := by
      rw [e]
      refine index_first (by simp) ?_ fun j hj => ?_
      · unfold occAt
        rw [List.isPrefixOf_iff_prefix, List.append_assoc, List.drop_left]
        exact List.prefix_append _ _
      · cases ho : occAt (x ++ [c] ++ jn (y :: r) [c]) [c] j with
        | false => rfl
        | true =>
          exfalso
          have h5 : [c] <+: (x ++ [c] ++ jn (y :: r) [c]).drop j := List.isPrefixOf_iff_prefix.1 ho
          rw [List.append_assoc, List.drop_append_of_le_length (by omega)] at h5
          have h6 : x.drop j ≠ [] := by
            intro e
            have := congrArg List.length e
            rw [List.length_drop] at this
            simp at this
            omega
          obtain ⟨z, zs, hz⟩ : ∃ z zs, x.drop j = z :: zs := by
            cases hq : x.drop j with
            | nil => exact absurd hq h6
            | cons z zs => exact ⟨z, zs, rfl⟩
          rw [hz] at h5
          have h7 : c = z := by
            obtain ⟨t, ht⟩ := h5
            simpa using (List.cons.inj ht).1
          subst h7
          exact hx x (by simp) (List.mem_of_mem_drop (by rw [hz]; simp))
    rw [ps_hit (by simp) hix, e, List.append_assoc, List.take_left, show x.length + [c].length = (x ++ [c]).length by simp, ← List.append_assoc, List.drop_left, ps_of_join c (y :: r) (by simp) (fun z hz => hx z (by simp [hz]))]
end Wd
end Go.Proofs.YtpelajhdcbemnaaDoor
