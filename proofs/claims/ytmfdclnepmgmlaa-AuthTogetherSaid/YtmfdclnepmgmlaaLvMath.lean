/- Lattices, as plain mathematics. No condition. -/
import Derived.Test.YtmfdclnepmgmlaaLvCongr
namespace Go.Proofs.Ytmfdclnepmgmlaa
open Go.RowKit
namespace Lv
structure Ord (r : Nat → Nat → Bool) (n : Nat) : Prop where
  refl : ∀ a, a < n → r a a = true
  trans : ∀ a b c, a < n → b < n → c < n → r a b = true → r b c = true → r a c = true
  anti : ∀ a b, a < n → b < n → r a b = true → r b a = true → a = b
structure IsJ (r : Nat → Nat → Bool) (n : Nat) (j : Nat → Nat → Nat) : Prop where
  lt : ∀ a b, a < n → b < n → j a b < n
  left : ∀ a b, a < n → b < n → r a (j a b) = true
  right : ∀ a b, a < n → b < n → r b (j a b) = true
  least : ∀ a b d, a < n → b < n → d < n → r a d = true → r b d = true → r (j a b) d = true
theorem Ord.turn {r : Nat → Nat → Bool} {n : Nat} (h : Ord r n) : Ord (trn r) n :=
  ⟨h.refl, fun a b c ha hb hc h1 h2 => h.trans c b a hc hb ha h2 h1, fun a b ha hb h1 h2 => h.anti a b ha hb h2 h1⟩
section
variable {r : Nat → Nat → Bool} {n : Nat} {j m : Nat → Nat → Nat} (o : Ord r n) (J : IsJ r n j) (M : IsJ (trn r) n m)
include o J
theorem j_comm (a b : Nat) (ha : a < n) (hb : b < n) : j b a = j a b :=
  o.anti _ _ (J.lt b a hb ha) (J.lt a b ha hb) (J.least b a _ hb ha (J.lt a b ha hb) (J.right a b ha hb) (J.left a b ha hb)) (J.least a b _ ha hb (J.lt b a hb ha) (J.right b a hb ha) (J.left b a hb ha))
theorem j_idem (a : Nat) (ha : a < n) : j a a = a :=
  o.anti _ _ (J.lt a a ha ha) ha (J.least a a a ha ha ha (o.refl a ha) (o.refl a ha)) (J.left a a ha ha)
theorem j_of (a b : Nat) (ha : a < n) (hb : b < n) (h : r a b = true) : j a b = b :=
  o.anti _ _ (J.lt a b ha hb) hb (J.least a b b ha hb hb h (o.refl b hb)) (J.right a b ha hb)
theorem j_leq (a b : Nat) (ha : a < n) (hb : b < n) : r a b = true ↔ j a b = b :=
  ⟨j_of o J a b ha hb, fun h => by have := J.left a b ha hb; rwa [h] at this⟩
theorem j_assoc (a b c : Nat) (ha : a < n) (hb : b < n) (hc : c < n) : j (j a b) c = j a (j b c) := by
  have l1 := J.lt a b ha hb
  have l2 := J.lt b c hb hc
  have l3 := J.lt (j a b) c l1 hc
  have l4 := J.lt a (j b c) ha l2
  refine o.anti _ _ l3 l4 ?_ ?_
  · refine J.least _ _ _ l1 hc l4 (J.least _ _ _ ha hb l4 (J.left a (j b c) ha l2) ?_) ?_
    · exact o.trans _ _ _ hb l2 l4 (J.left b c hb hc) (J.right a (j b c) ha l2)
    · exact o.trans _ _ _ hc l2 l4 (J.right b c hb hc) (J.right a (j b c) ha l2)
  · refine J.least _ _ _ ha l2 l3 ?_ (J.least _ _ _ hb hc l3 ?_ (J.right (j a b) c l1 hc))
    · exact o.trans _ _ _ ha l1 l3 (J.left a b ha hb) (J.left (j a b) c l1 hc)
    · exact o.trans _ _ _ hb l1 l3 (J.right a b ha hb) (J.left (j a b) c l1 hc)
include M
theorem j_absorb (a b : Nat) (ha : a < n) (hb : b < n) : j a (m a b) = a := by
  have : r (m a b) a = true := M.left a b ha hb
  rw [j_comm o J (m a b) a (M.lt a b ha hb) ha]
  exact j_of o J _ _ (M.lt a b ha hb) ha this
end
theorem leastO_spec {r : Nat → Nat → Bool} {n a b k : Nat} (h : leastO r n a b = some k) : k < n ∧ r a k = true ∧ r b k = true ∧ ∀ d, d < n → r a d = true → r b d = true → r k d = true := by
  have h1 := List.find?_some h
  simp only [Bool.and_eq_true] at h1
  refine ⟨leastO_lt h, h1.1.1, h1.1.2, fun d hd ha hb => ?_⟩
  have h2 := h1.2
  unfold bbB at h2
  rw [List.all_eq_true] at h2
  have := h2 d (by simpa using hd)
  simpa [ha, hb] using this
theorem isJ_of {r : Nat → Nat → Bool} {n : Nat} (h : AllL r n) : IsJ r n (joinT r n) := by
  have key : ∀ a b, a < n → b < n → ∃ k, leastO r n a b = some k ∧ joinT r n a b = k := fun a b ha hb => by
    obtain ⟨k, hk⟩ := Option.isSome_iff_exists.1 (h a b ha hb)
    exact ⟨k, hk, by simp [joinT, ha, hb, hk]⟩
  refine ⟨fun a b ha hb => ?_, fun a b ha hb => ?_, fun a b ha hb => ?_, fun a b d ha hb hd h1 h2 => ?_⟩ <;> obtain ⟨k, hk, e⟩ := key a b ha hb <;> rw [e] <;> obtain ⟨l1, l2, l3, l4⟩ := leastO_spec hk
  · exact l1
  · exact l2
  · exact l3
  · exact l4 d hd h1 h2
theorem pairT_in {ps : List (Int × Int)} {n a b : Nat} (h : prB ps n = true) (hp : pairT ps n a b = true) : a < n ∧ b < n := by
  unfold pairT at hp
  simp only [Bool.or_eq_true, Bool.and_eq_true, decide_eq_true_eq, List.any_eq_true] at hp
  rcases hp with ⟨rfl, h2⟩ | ⟨x, hx, h1, h2⟩
  · exact ⟨h2, h2⟩
  · obtain ⟨i, hi⟩ := List.getElem?_of_mem hx
    have := prB_get h hi
    omega
theorem cl_in {ps : List (Int × Int)} {n a b : Nat} (h : prB ps n = true) (hc : cl ps n a b = true) : a < n ∧ b < n := by
  have := clo_least (r := pairT ps n) (t := fun a b => decide (a < n) && decide (b < n)) (fun a b c _ _ _ h1 h2 => by simp at *; omega) (fun a b _ _ hp => by simpa using pairT_in h hp) hc
  simpa using this
theorem good_ord {ss : List ByteArray} {ps : List (Int × Int)} (h : Good ss ps) : Ord (cl ps ss.length) ss.length := by
  have n8 := h.names.2.1
  refine ⟨fun a ha => ?_, fun a b c ha hb hc => clo_trans _ a b c (by omega) (by omega) (by omega), fun a b ha hb h1 h2 => ?_⟩
  · refine clo_sub _ a a (by omega) (by omega) ?_
    simp [pairT, ha]
  · have := relA_inj h.anti a b (by omega) (by omega)
    simp only [shr, trn, h1, h2, Bool.and_true] at this
    have h3 := this.symm
    simp [pairT] at h3
    exact h3.1
theorem good_j {ss : List ByteArray} {ps : List (Int × Int)} (h : Good ss ps) : IsJ (cl ps ss.length) ss.length (joinT (cl ps ss.length) ss.length) := isJ_of h.joins
theorem good_m {ss : List ByteArray} {ps : List (Int × Int)} (h : Good ss ps) : IsJ (trn (cl ps ss.length)) ss.length (joinT (trn (cl ps ss.length)) ss.length) := isJ_of h.meets
theorem errOf_ne {ss : List ByteArray} {ps : List (Int × Int)} (h : ¬ Good ss ps) : errOf ss ps ≠ 0 := by
  unfold errOf
  split
  · decide
  · split
    · decide
    · decide
end Lv
end Go.Proofs.Ytmfdclnepmgmlaa
