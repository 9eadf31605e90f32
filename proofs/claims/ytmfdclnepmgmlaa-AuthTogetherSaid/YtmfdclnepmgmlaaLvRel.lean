/- Relations of eight by eight, as cells, and what package level works out of them. No condition. -/
import Derived.WalkKit
namespace Go.Proofs.Ytmfdclnepmgmlaa
namespace Lv
/-- a table of 8 by 8 bools, as its 64 cells -/
def relA (r : Nat → Nat → Bool) : Array Value := (Array.range 64).map fun i => .bool (r (i / 8) (i % 8))
theorem relA_size (r : Nat → Nat → Bool) : (relA r).size = 64 := by simp [relA]
theorem relA_at (r : Nat → Nat → Bool) (a b : Nat) (ha : a < 8) (hb : b < 8) : (relA r)[a * 8 + b]? = some (.bool (r a b)) := by
  have h1 : (a * 8 + b) / 8 = a := by omega
  have h2 : (a * 8 + b) % 8 = b := by omega
  have h3 : a * 8 + b < 64 := by omega
  simp only [relA, Array.getElem?_map, Array.getElem?_range, if_pos h3, Option.map_some, h1, h2]
/-- is c below each level that is above both a and b? -/
def bbB (r : Nat → Nat → Bool) (n a b c : Nat) : Bool := (List.range n).all fun d => !(r a d && r b d) || r c d
theorem bbB_false {r : Nat → Nat → Bool} {n a b c k : Nat} (h : k < n) (h1 : r a k = true) (h2 : r b k = true) (h3 : r c k = false) : bbB r n a b c = false := by
  unfold bbB
  rw [List.all_eq_false]
  exact ⟨k, by simpa using h, by simp [h1, h2, h3]⟩
theorem bbB_true {r : Nat → Nat → Bool} {n a b c : Nat} (h : ∀ d, d < n → r a d = true → r b d = true → r c d = true) : bbB r n a b c = true := by
  unfold bbB
  rw [List.all_eq_true]
  intro d hd
  have := h d (by simpa using hd)
  cases h1 : r a d <;> cases h2 : r b d <;> simp_all
theorem relA_congr {r s : Nat → Nat → Bool} (h : ∀ a b, a < 8 → b < 8 → r a b = s a b) : relA r = relA s := by
  unfold relA
  apply Array.ext
  · simp
  · intro i h1 h2
    simp at h1
    simp only [Array.getElem_map, Array.getElem_range]
    rw [h (i / 8) (i % 8) (by omega) (by omega)]
theorem relA_inj {r s : Nat → Nat → Bool} (h : relA r = relA s) (a b : Nat) (ha : a < 8) (hb : b < 8) : r a b = s a b := by
  have h1 := relA_at r a b ha hb
  have h2 := relA_at s a b ha hb
  rw [h, h2] at h1
  simpa using h1.symm
/-- a table of 8 by 8 numbers, as its 64 cells -/
def chA (j : Nat → Nat → Nat) : Array Value := (Array.range 64).map fun i => .int .i64 (j (i / 8) (i % 8) : Nat)
theorem chA_size (r : Nat → Nat → Nat) : (chA r).size = 64 := by simp [chA]
theorem chA_at (r : Nat → Nat → Nat) (a b : Nat) (ha : a < 8) (hb : b < 8) : (chA r)[a * 8 + b]? = some (.int .i64 (r a b : Nat)) := by
  have h1 : (a * 8 + b) / 8 = a := by omega
  have h2 : (a * 8 + b) % 8 = b := by omega
  have h3 : a * 8 + b < 64 := by omega
  simp only [chA, Array.getElem?_map, Array.getElem?_range, if_pos h3, Option.map_some, h1, h2]
theorem chA_congr {r s : Nat → Nat → Nat} (h : ∀ a b, a < 8 → b < 8 → r a b = s a b) : chA r = chA s := by
  unfold chA
  apply Array.ext
  · simp
  · intro i h1 h2
    simp at h1
    simp only [Array.getElem_map, Array.getElem_range]
    rw [h (i / 8) (i % 8) (by omega) (by omega)]
theorem chA_one (r : Nat → Nat → Nat) : (chA r).all (·.oneCell') = true := by
  rw [Array.all_eq_true]
  intro i h
  simp [chA, Value.oneCell']
def upd {α : Type} (s : Nat → Nat → α) (a b : Nat) (v : α) : Nat → Nat → α := fun x y => if x = a ∧ y = b then v else s x y
theorem upd_same {α : Type} (s : Nat → Nat → α) (a b : Nat) (v : α) : upd s a b v a b = v := by simp [upd]
theorem upd_other {α : Type} (s : Nat → Nat → α) (a b x y : Nat) (v : α) (h : ¬ (x = a ∧ y = b)) : upd s a b v x y = s x y := by simp [upd, h]
theorem relA_set (s : Nat → Nat → Bool) (a b : Nat) (v : Bool) (hb : b < 8) : (relA s).setIfInBounds (a * 8 + b) (.bool v) = relA (upd s a b v) := by
  apply Array.ext
  · simp [relA_size]
  · intro i h1 h2
    simp only [Array.size_setIfInBounds, relA_size] at h1
    rw [Array.getElem_setIfInBounds (by simpa [relA_size] using h1)]
    simp only [relA, Array.getElem_map, Array.getElem_range, upd]
    by_cases h : a * 8 + b = i
    · rw [if_pos h, if_pos ⟨by omega, by omega⟩]
    · rw [if_neg h, if_neg (fun hh => h (by omega))]
theorem relA_one (r : Nat → Nat → Bool) : (relA r).all (·.oneCell') = true := by
  rw [Array.all_eq_true]
  intro i h
  simp [relA, Value.oneCell']
theorem chA_set (s : Nat → Nat → Nat) (a b : Nat) (v : Nat) (hb : b < 8) : (chA s).setIfInBounds (a * 8 + b) (.int .i64 (v : Nat)) = chA (upd s a b v) := by
  apply Array.ext
  · simp [chA_size]
  · intro i h1 h2
    simp only [Array.size_setIfInBounds, chA_size] at h1
    rw [Array.getElem_setIfInBounds (by simpa [chA_size] using h1)]
    simp only [chA, Array.getElem_map, Array.getElem_range, upd]
    by_cases h : a * 8 + b = i
    · rw [if_pos h, if_pos ⟨by omega, by omega⟩]
    · rw [if_neg h, if_neg (fun hh => h (by omega))]
def dbl (r : Nat → Nat → Bool) : Nat → Nat → Bool := fun a c => (List.range 8).any fun b => r a b && r b c
theorem dbl_iff {r : Nat → Nat → Bool} {a c : Nat} : dbl r a c = true ↔ ∃ b, b < 8 ∧ r a b = true ∧ r b c = true := by
  simp [dbl]
/-- which threes come ahead of (a, b, c) -/
def ahead (a b c x m y : Nat) : Prop := x < a ∨ x = a ∧ (m < b ∨ m = b ∧ y < c)
/-- what stands in the table that doubled fills, when it has gone through all ahead of (a, b, c) -/
structure DblTo (r s : Nat → Nat → Bool) (a b c : Nat) : Prop where
  is : ∀ x y, x < 8 → y < 8 → s x y = true → dbl r x y = true
  has : ∀ x m y, x < 8 → m < 8 → y < 8 → ahead a b c x m y → r x m = true → r m y = true → s x y = true
theorem DblTo.start (r : Nat → Nat → Bool) : DblTo r (fun _ _ => false) 0 0 0 := ⟨fun _ _ _ _ h => by simp at h, fun x m y _ _ _ h => by unfold ahead at h; omega⟩
theorem DblTo.next {r s : Nat → Nat → Bool} {a b c : Nat} (h : DblTo r s a b c) (hn : ¬ (r a b = true ∧ r b c = true)) : DblTo r s a b (c + 1) :=
  ⟨h.is, fun x m y hx hm hy ha h1 h2 => by
    by_cases e : x = a ∧ m = b ∧ y = c
    · obtain ⟨rfl, rfl, rfl⟩ := e
      exact absurd ⟨h1, h2⟩ hn
    · exact h.has x m y hx hm hy (by unfold ahead at ha ⊢; omega) h1 h2⟩
theorem DblTo.put {r s : Nat → Nat → Bool} {a b c : Nat} (h : DblTo r s a b c) (hb : b < 8) (h1 : r a b = true) (h2 : r b c = true) : DblTo r (upd s a c true) a b (c + 1) :=
  ⟨fun x y hx hy h3 => by
    by_cases e : x = a ∧ y = c
    · obtain ⟨rfl, rfl⟩ := e
      exact dbl_iff.2 ⟨b, hb, h1, h2⟩
    · rw [upd_other _ _ _ _ _ _ e] at h3
      exact h.is x y hx hy h3, fun x m y hx hm hy ha h3 h4 => by
    by_cases e : x = a ∧ y = c
    · obtain ⟨rfl, rfl⟩ := e
      exact upd_same _ _ _ _
    · rw [upd_other _ _ _ _ _ _ e]
      exact h.has x m y hx hm hy (by unfold ahead at ha ⊢; omega) h3 h4⟩
theorem DblTo.in3 {r s : Nat → Nat → Bool} {a b : Nat} (h : DblTo r s a b 8) : DblTo r s a (b + 1) 0 :=
  ⟨h.is, fun x m y hx hm hy ha => h.has x m y hx hm hy (by unfold ahead at ha ⊢; omega)⟩
theorem DblTo.in2 {r s : Nat → Nat → Bool} {a : Nat} (h : DblTo r s a 8 0) : DblTo r s (a + 1) 0 0 :=
  ⟨h.is, fun x m y hx hm hy ha => h.has x m y hx hm hy (by unfold ahead at ha ⊢; omega)⟩
theorem DblTo.fin {r s : Nat → Nat → Bool} (h : DblTo r s 8 0 0) : relA s = relA (dbl r) := by
  apply relA_congr
  intro a c ha hc
  rw [Bool.eq_iff_iff]
  constructor
  · exact h.is a c ha hc
  · intro hd
    obtain ⟨b, hb, h1, h2⟩ := dbl_iff.1 hd
    exact h.has a b c ha hb hc (by unfold ahead; omega) h1 h2
end Lv
end Go.Proofs.Ytmfdclnepmgmlaa
