/- What tables say alone of places below 8; texts that are names by a look at them; three objects made one behind the other. No condition. -/
import Derived.Test.YtmfdclnepmgmlaaLvNew
import Derived.Test.YtmfdclnepmgmlaaLvMeth
namespace Go.Proofs.Ytmfdclnepmgmlaa
open Go.RowKit
namespace Lv
theorem three (w : World) (A B C : Obj) : Below w.heap.size w (((w.alloc A).alloc B).alloc C) ∧ (((w.alloc A).alloc B).alloc C).heap[w.heap.size]? = some A ∧ (((w.alloc A).alloc B).alloc C).heap[w.heap.size + 1]? = some B ∧ (((w.alloc A).alloc B).alloc C).heap[w.heap.size + 1 + 1]? = some C := by
  have s1 := al_size w A
  have s2 := al_size (w.alloc A) B
  refine ⟨(((Below.refl _ _).alloc (Nat.le_refl _) _).alloc (by rw [s1]; omega) _).alloc (by rw [s2, s1]; omega) _, ?_, ?_, ?_⟩
  · rw [al_old _ _ _ (by rw [s2, s1]; omega), al_old _ _ _ (by rw [s1]; omega), al_new]
  · rw [al_old _ _ _ (by rw [s2, s1]; omega), ← s1, al_new]
  · rw [← s1, ← s2, al_new]
theorem bbB_congr {r s : Nat → Nat → Bool} (h : ∀ a b, a < 8 → b < 8 → r a b = s a b) {n a b c : Nat} (hn : n ≤ 8) (ha : a < 8) (hb : b < 8) (hc : c < 8) : bbB r n a b c = bbB s n a b c := by
  unfold bbB
  rw [Bool.eq_iff_iff, List.all_eq_true, List.all_eq_true]
  constructor
  · intro H d hd
    have hd8 : d < 8 := by have := List.mem_range.1 hd; omega
    rw [← h a d ha hd8, ← h b d hb hd8, ← h c d hc hd8]
    exact H d hd
  · intro H d hd
    have hd8 : d < 8 := by have := List.mem_range.1 hd; omega
    rw [h a d ha hd8, h b d hb hd8, h c d hc hd8]
    exact H d hd
theorem find_congr {p q : Nat → Bool} : ∀ (l : List Nat), (∀ x, x ∈ l → p x = q x) → l.find? p = l.find? q
  | [], _ => rfl
  | y :: l, h => by
    rw [List.find?_cons, List.find?_cons, h y (by simp), find_congr l fun x hx => h x (by simp [hx])]
theorem leastO_congr {r s : Nat → Nat → Bool} (h : ∀ a b, a < 8 → b < 8 → r a b = s a b) {n a b : Nat} (hn : n ≤ 8) (ha : a < 8) (hb : b < 8) : leastO r n a b = leastO s n a b := by
  unfold leastO
  refine find_congr _ fun c hc => ?_
  have hc8 : c < 8 := by have := List.mem_range.1 hc; omega
  rw [h a c ha hc8, h b c hb hc8, bbB_congr h hn ha hb hc8]
theorem joinT_congr {r s : Nat → Nat → Bool} (h : ∀ a b, a < 8 → b < 8 → r a b = s a b) {n : Nat} (hn : n ≤ 8) : joinT r n = joinT s n := by
  funext a b
  unfold joinT
  split
  · rw [leastO_congr h hn (by omega) (by omega)]
  · rfl
theorem trn_congr {r s : Nat → Nat → Bool} (h : ∀ a b, a < 8 → b < 8 → r a b = s a b) : ∀ a b, a < 8 → b < 8 → trn r a b = trn s a b := fun a b ha hb => h b a hb ha
theorem AllL_congr {r s : Nat → Nat → Bool} (h : ∀ a b, a < 8 → b < 8 → r a b = s a b) {n : Nat} (hn : n ≤ 8) (H : AllL s n) : AllL r n := fun a b ha hb => by
  rw [leastO_congr h hn (by omega) (by omega)]
  exact H a b ha hb
theorem name_of {s : ByteArray} (h : (decide (1 ≤ s.size) && decide (s.size ≤ 16) && ltrI ((s.data.getD 0 0).toNat : Int) && s.data.toList.all fun c => okI (c.toNat : Int)) = true) : nameB s = true := by
  simp only [Bool.and_eq_true, decide_eq_true_eq, List.all_eq_true] at h
  refine nameB_true ⟨h.1.1.1, h.1.1.2, fun h0 => ?_, fun k hk => h.2 _ ?_⟩
  · have := h.1.2
    rw [Array.getD_eq_getD_getElem?, Array.getElem?_eq_getElem (show 0 < s.data.size from h0)] at this
    exact this
  · show s.data[k] ∈ s.data.toList
    simp
end Lv
end Go.Proofs.Ytmfdclnepmgmlaa
