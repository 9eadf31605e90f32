/- The six policies of the document's Sort: each is right, and which level is below which. No condition. -/
import Derived.Test.YtmfdclnepmgmlaaLvCongr
namespace Go.Proofs.Ytmfdclnepmgmlaa
open Go.RowKit
namespace Lv
/-- the names of the policy k -/
def sn : Nat → List ByteArray
  | 0 => [⟨#[108, 111, 119]⟩, ⟨#[104, 105, 103, 104]⟩]
  | 1 => [⟨#[108, 111, 119]⟩, ⟨#[108, 101, 102, 116]⟩, ⟨#[114, 105, 103, 104, 116]⟩, ⟨#[104, 105, 103, 104]⟩]
  | 2 => [⟨#[97]⟩, ⟨#[98]⟩, ⟨#[99]⟩]
  | 3 => [⟨#[111, 110, 101]⟩]
  | 4 => [⟨#[116, 111, 112]⟩, ⟨#[120]⟩, ⟨#[121]⟩, ⟨#[122]⟩, ⟨#[98, 111, 116]⟩]
  | _ => [⟨#[111]⟩, ⟨#[112]⟩, ⟨#[113]⟩, ⟨#[114]⟩, ⟨#[112, 113]⟩, ⟨#[112, 114]⟩, ⟨#[113, 114]⟩, ⟨#[97, 108, 108]⟩]
/-- its pairs -/
def sp : Nat → List (Int × Int)
  | 0 => [(0, 1)]
  | 1 => [(0, 1), (0, 2), (1, 3), (2, 3)]
  | 2 => [(0, 1), (1, 2)]
  | 3 => []
  | 4 => [(4, 1), (4, 2), (4, 3), (1, 0), (2, 0), (3, 0)]
  | _ => [(0, 1), (0, 2), (0, 3), (1, 4), (2, 4), (1, 5), (3, 5), (2, 6), (3, 6), (4, 7), (5, 7), (6, 7)]
/-- which level is below which, bit by bit -/
def sm : Nat → Nat
  | 0 => 515
  | 1 => 135006735
  | 2 => 263687
  | 3 => 1
  | 4 => 133295309569
  | _ => 9277591776625210111
/-- the table of a number's bits -/
def tm (m : Nat) : Nat → Nat → Bool := fun a b => Nat.testBit m (a * 8 + b)
def certB (t : Nat → Nat → Bool) (ps : List (Int × Int)) (n : Nat) : Bool :=
  (List.range 8).all fun a => (List.range 8).all fun b => (!pairT ps n a b || t a b) && ((!t a b || (List.range 8).any fun c => pairT ps n a c && (List.range 8).any fun d => pairT ps n c d && pairT ps n d b) && (List.range 8).all fun c => !(t a b && t b c) || t a c)
theorem cl_of {t : Nat → Nat → Bool} {ps : List (Int × Int)} {n : Nat} (h : certB t ps n = true) : ∀ a b, a < 8 → b < 8 → cl ps n a b = t a b := by
  have H : ∀ a b, a < 8 → b < 8 → (pairT ps n a b = true → t a b = true) ∧ (t a b = true → ∃ c d, c < 8 ∧ d < 8 ∧ pairT ps n a c = true ∧ pairT ps n c d = true ∧ pairT ps n d b = true) ∧ ∀ c, c < 8 → t a b = true → t b c = true → t a c = true := by
    intro a b ha hb
    unfold certB at h
    rw [List.all_eq_true] at h
    have h := h a (List.mem_range.2 ha)
    rw [List.all_eq_true] at h
    have h := h b (List.mem_range.2 hb)
    simp only [Bool.and_eq_true, Bool.or_eq_true, Bool.not_eq_true', List.any_eq_true, List.all_eq_true, List.mem_range, Bool.and_eq_false_iff] at h
    obtain ⟨h1, h2, h3⟩ := h
    refine ⟨fun hp => ?_, fun ht => ?_, fun c hc h4 h5 => ?_⟩
    · rcases h1 with h1 | h1
      · rw [hp] at h1; cases h1
      · exact h1
    · rcases h2 with h2 | ⟨c, hc, h4, d, hd, h5, h6⟩
      · rw [ht] at h2; cases h2
      · exact ⟨c, d, hc, hd, h4, h5, h6⟩
    · rcases h3 c hc with (h6 | h6) | h6
      · rw [h4] at h6; cases h6
      · rw [h5] at h6; cases h6
      · exact h6
  intro a b ha hb
  rw [Bool.eq_iff_iff]
  constructor
  · intro hc
    exact clo_least (r := pairT ps n) (fun x y z hx hy hz h1 h2 => (H x y hx hy).2.2 z hz h1 h2) (fun x y hx hy hp => (H x y hx hy).1 hp) hc
  · intro ht
    obtain ⟨c, d, hc, hd, h1, h2, h3⟩ := (H a b ha hb).2.1 ht
    have s := clo_sub (pairT ps n)
    have tr := clo_trans (pairT ps n)
    exact tr a d b ha hd hb (tr a c d ha hc hd (s a c ha hc h1) (s c d hc hd h2)) (s d b hd hb h3)
def nmB (s : ByteArray) : Bool := decide (1 ≤ s.size) && decide (s.size ≤ 16) && ltrI ((s.data.getD 0 0).toNat : Int) && s.data.toList.all fun c => okI (c.toNat : Int)
def unB : List ByteArray → Bool
  | [] => true
  | x :: l => (l.all fun y => x.data.toList != y.data.toList) && unB l
theorem unB_ne : ∀ {ss : List ByteArray}, unB ss = true → ∀ (i j : Nat) (x : ByteArray), j < i → ss[i]? = some x → ss[j]? ≠ some x
  | [], _, i, j, x, _, hx => by simp at hx
  | y :: l, h, i, j, x, hij, hx => by
    unfold unB at h
    rw [Bool.and_eq_true, List.all_eq_true] at h
    match i, hij, hx with
    | i + 1, hij, hx =>
      rw [List.getElem?_cons_succ] at hx
      match j, hij with
      | 0, _ =>
        rw [List.getElem?_cons_zero]
        intro e
        cases e
        have := h.1 y (List.mem_of_getElem? hx)
        simp at this
      | j + 1, hij =>
        rw [List.getElem?_cons_succ]
        exact unB_ne h.2 i j x (by omega) hx
def goodB (ss : List ByteArray) (ps : List (Int × Int)) (t : Nat → Nat → Bool) : Bool :=
  decide (1 ≤ ss.length) && decide (ss.length ≤ 8) && ss.all nmB && unB ss && prB ps ss.length && certB t ps ss.length &&
  ((List.range 8).all fun a => (List.range 8).all fun b => (t a b && t b a) == pairT [] ss.length a b) &&
  ((List.range ss.length).all fun a => (List.range ss.length).all fun b => (leastO t ss.length a b).isSome && (leastO (trn t) ss.length a b).isSome)
theorem good_of {ss : List ByteArray} {ps : List (Int × Int)} {t : Nat → Nat → Bool} (h : goodB ss ps t = true) : Good ss ps ∧ ∀ a b, a < 8 → b < 8 → cl ps ss.length a b = t a b := by
  unfold goodB at h
  simp only [Bool.and_eq_true] at h
  obtain ⟨⟨⟨⟨⟨⟨⟨h1, h2⟩, h3⟩, h4⟩, h5⟩, h6⟩, h7⟩, h8⟩ := h
  have h1 := of_decide_eq_true h1
  have h2 := of_decide_eq_true h2
  rw [List.all_eq_true] at h3 h7 h8
  have hc := cl_of h6
  have h9 : ∀ a b, a < ss.length → b < ss.length → (leastO t ss.length a b).isSome = true ∧ (leastO (trn t) ss.length a b).isSome = true := by
    intro a b ha hb
    have := h8 a (List.mem_range.2 ha)
    rw [List.all_eq_true] at this
    have := this b (List.mem_range.2 hb)
    rwa [Bool.and_eq_true] at this
  refine ⟨⟨⟨h1, h2, fun i x hx => name_of (h3 x (List.mem_of_getElem? hx)), unB_ne h4⟩, h5, ?_, ?_, ?_⟩, hc⟩
  · refine relA_congr fun a b ha hb => ?_
    have e1 := hc a b ha hb
    have e2 := hc b a hb ha
    show (cl ps ss.length a b && cl ps ss.length b a) = pairT [] ss.length a b
    rw [e1, e2]
    have := h7 a (List.mem_range.2 ha)
    rw [List.all_eq_true] at this
    exact eq_of_beq (this b (List.mem_range.2 hb))
  · exact AllL_congr hc h2 fun a b ha hb => (h9 a b ha hb).1
  · exact AllL_congr (trn_congr hc) h2 fun a b ha hb => (h9 a b ha hb).2
theorem sort_goodB : ∀ k, goodB (sn k) (sp k) (tm (sm k)) = true
  | 0 => by decide +kernel
  | 1 => by decide +kernel
  | 2 => by decide +kernel
  | 3 => by decide +kernel
  | 4 => by decide +kernel
  | _ + 5 => by show goodB (sn 5) (sp 5) (tm (sm 5)) = true; decide +kernel
/-- each of the policies is right -/
theorem sort_good (k : Nat) : Good (sn k) (sp k) := (good_of (sort_goodB k)).1
/-- and its table -/
theorem sort_cl (k : Nat) : ∀ a b, a < 8 → b < 8 → cl (sp k) (sn k).length a b = tm (sm k) a b := (good_of (sort_goodB k)).2
end Lv
end Go.Proofs.Ytmfdclnepmgmlaa
