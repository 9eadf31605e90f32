/- What leasts does. -/
import Derived.Test.YtmfdclnepmgmlaaLvLeast
namespace Go.Proofs.Ytmfdclnepmgmlaa
open Go.RowKit
namespace Lv
/-- the join of each two levels that are there, 0 elsewhere -/
def joinT (r : Nat → Nat → Bool) (n : Nat) : Nat → Nat → Nat := fun a b => if a < n ∧ b < n then (leastO r n a b).getD 0 else 0
/-- has each two levels a join? -/
def AllL (r : Nat → Nat → Bool) (n : Nat) : Prop := ∀ a b, a < n → b < n → (leastO r n a b).isSome = true
structure LsTo (r : Nat → Nat → Bool) (n : Nat) (j : Nat → Nat → Nat) (a b : Nat) : Prop where
  val : ∀ x y, x < 8 → y < 8 → j x y = if (x < a ∨ x = a ∧ y < b) ∧ x < n ∧ y < n then (leastO r n x y).getD 0 else 0
  all : ∀ x y, x < n → y < n → (x < a ∨ x = a ∧ y < b) → (leastO r n x y).isSome = true
theorem LsTo.start (r : Nat → Nat → Bool) (n : Nat) : LsTo r n (fun _ _ => 0) 0 0 := ⟨fun x y _ _ => by rw [if_neg (by omega)], fun x y _ _ h => by omega⟩
theorem LsTo.put {r : Nat → Nat → Bool} {n : Nat} {j : Nat → Nat → Nat} {a b k : Nat} (h : LsTo r n j a b) (ha : a < n) (hb : b < n) (hk : leastO r n a b = some k) : LsTo r n (upd j a b k) a (b + 1) :=
  ⟨fun x y hx hy => by
    by_cases e : x = a ∧ y = b
    · obtain ⟨rfl, rfl⟩ := e
      rw [upd_same, if_pos (by omega), hk]; rfl
    · rw [upd_other _ _ _ _ _ _ e, h.val x y hx hy]
      by_cases c : (x < a ∨ x = a ∧ y < b) ∧ x < n ∧ y < n
      · rw [if_pos c, if_pos (by omega)]
      · rw [if_neg c, if_neg (by omega)], fun x y hx hy hh => by
    by_cases e : x = a ∧ y = b
    · obtain ⟨rfl, rfl⟩ := e
      rw [hk]; rfl
    · exact h.all x y hx hy (by omega)⟩
theorem LsTo.row {r : Nat → Nat → Bool} {n : Nat} {j : Nat → Nat → Nat} {a : Nat} (h : LsTo r n j a n) : LsTo r n j (a + 1) 0 :=
  ⟨fun x y hx hy => by
    rw [h.val x y hx hy]
    by_cases c : (x < a ∨ x = a ∧ y < n) ∧ x < n ∧ y < n
    · rw [if_pos c, if_pos (by omega)]
    · rw [if_neg c, if_neg (by omega)], fun x y hx hy hh => h.all x y hx hy (by omega)⟩
theorem LsTo.fin {r : Nat → Nat → Bool} {n : Nat} {j : Nat → Nat → Nat} (h : LsTo r n j n 0) : chA j = chA (joinT r n) ∧ AllL r n :=
  ⟨chA_congr fun x y hx hy => by
    rw [h.val x y hx hy]
    unfold joinT
    by_cases c : x < n ∧ y < n
    · rw [if_pos c, if_pos (by omega)]
    · rw [if_neg c, if_neg (by omega)], fun x y hx hy => h.all x y hx hy (by omega)⟩
structure MemL (w wr : World) (r : Nat → Nat → Bool) (j : Nat → Nat → Nat) : Prop where
  below : Below w.heap.size w wr
  b0 : wr.heap[w.heap.size]? = some (.cells (relA r) 58)
  b1 : ∃ z, wr.heap[w.heap.size + 1]? = some (.cells (chA z) 64)
  b2 : wr.heap[w.heap.size + 1 + 1]? = some (.cells (chA j) 64)
theorem MemL.put {w wr : World} {r : Nat → Nat → Bool} {s : Nat → Nat → Nat} (h : MemL w wr r s) (a c v : Nat) (hc : c < 8) : MemL w (wr.setCell ⟨w.heap.size + 1 + 1, a * 8 + c, none⟩ (.int .i64 (v : Nat))) r (upd s a c v) :=
  ⟨h.below.setCell (by dsimp only; omega) _, (heap_setCell_other _ _ _ _ (by dsimp only; omega)).trans h.b0, h.b1.elim fun z hz => ⟨z, (heap_setCell_other _ _ _ _ (by dsimp only; omega)).trans hz⟩, putC a c v hc h.b2⟩
theorem MemL.go {w wr w1 : World} {r : Nat → Nat → Bool} {s : Nat → Nat → Nat} (h : MemL w wr r s) (hb : Below wr.heap.size wr w1) : MemL w w1 r s :=
  ⟨bt h.below hb, bkeep hb h.b0, h.b1.elim fun z hz => ⟨z, bkeep hb hz⟩, bkeep hb h.b2⟩
theorem MemL.start (w : World) (r : Nat → Nat → Bool) : MemL w (((w.alloc (.cells (relA r) 58)).alloc (.cells (chA fun _ _ => 0) 64)).alloc (.cells (chA fun _ _ => 0) 64)) r (fun _ _ => 0) := by
  have s1 : (w.alloc (.cells (relA r) 58)).heap.size = w.heap.size + 1 := by simp
  have s2 : ((w.alloc (.cells (relA r) 58)).alloc (.cells (chA fun _ _ => 0) 64)).heap.size = w.heap.size + 1 + 1 := by simp
  refine ⟨(((Below.refl _ _).alloc (Nat.le_refl _) _).alloc (by simp) _).alloc (by simp; omega) _, ?_, ⟨fun _ _ => 0, ?_⟩, ?_⟩
  · rw [al_old _ _ _ (by rw [s2]; omega), al_old _ _ _ (by rw [s1]; omega), al_new]
  · rw [al_old _ _ _ (by rw [s2]; omega), ← s1, al_new]
  · rw [← s2, al_new]
/-- what leasts hands back -/
def LsPost (r : Nat → Nat → Bool) (n : Nat) (w : World) (e : Ending) (w' : World) : Prop :=
  Below w.heap.size w w' ∧ ((AllL r n ∧ e = .returned (.tuple #[.agg (chA (joinT r n)), .bool true])) ∨ (¬ AllL r n ∧ e = .returned (.tuple #[.agg (chA fun _ _ => 0), .bool false])))
set_option maxHeartbeats 1000000 in
theorem leasts_any (r : Nat → Nat → Bool) (n : Nat) (w : World) (hn : n ≤ 8) :
    Calls Try.prog 27 #[.agg (relA r), .int .i64 n] w (LsPost r n w) := by
  go_enter Try.func27, Try.ntmps27
  go_wp2
  rw [zeroC]
  go_loopw [7, 12] (fun _ i wr => ∃ (a : Nat) (j : Nat → Nat → Nat), a ≤ n ∧ i = .int .i64 a ∧ MemL w wr r j ∧ LsTo r n j a 0) (fun _ i _ => n - (intOf i).toNat)
  case atStart => exact ⟨0, _, by omega, rfl, MemL.start w r, LsTo.start r n⟩
  case round =>
    obtain ⟨a, j, ha, rfl, hm, hd⟩ := hrel
    obtain ⟨wo, rfl⟩ : ∃ wo : World, wo = wr := ⟨_, rfl⟩
    by_cases hlt : a < n
    · go_wp2
      go_loopw [8, 16] (fun _ i wr => ∃ (b : Nat) (j : Nat → Nat → Nat), b ≤ n ∧ i = .int .i64 b ∧ MemL w wr r j ∧ LsTo r n j a b) (fun _ i _ => n - (intOf i).toNat)
      case atStart => exact ⟨0, j, by omega, rfl, hm, hd⟩
      case round =>
        clear hm hd
        obtain ⟨b, j, hb, rfl, hm, hd⟩ := hrel
        by_cases hlt : b < n
        · cases h0 : leastO r n a b with
          | none =>
            have H0 := Lib.hid h0
            clear h0
            go_wp2_with (first | (refine wpList_loadR rfl _ rfl _ rfl r _ _ hm.b0 ?_) | (go_at_call 34; refine (least_any r n a b _ hn (by omega) (by omega)).mono ?_; rw [H0.out]; rintro e w1 ⟨rfl, hb1⟩; have hm1 := hm.go hb1; obtain ⟨z, hz⟩ := hm1.b1; have HZ := Lib.hid hz; clear hz) | (refine wpList_storeC rfl _ _ rfl _ z _ rfl (congrArg Value.agg zeroC) _ HZ.out ?_))
            refine bodyPost_ret (v := .tuple #[.agg (chA fun _ _ => 0), .bool false]) (resultC2 rfl _ _ _ _ (fun _ _ => 0) _ _ rfl rfl (setRow_heap _ _ _ _ _ _ HZ.out)) rfl ⟨below_setRow hm1.below (by omega) _, .inr ⟨fun h => by have := h a b (by omega) hlt; rw [H0.out] at this; simp at this, rfl⟩⟩
          | some k =>
            have H0 := Lib.hid h0
            clear h0
            go_wp2_with (first | (refine wpList_loadR rfl _ rfl _ rfl r _ _ hm.b0 ?_) | (go_at_call 34; refine (least_any r n a b _ hn (by omega) (by omega)).mono ?_; rw [H0.out]; rintro e w1 ⟨rfl, hb1⟩; have hm1 := hm.go hb1; have c3 := (cell_of_row w1 (w.heap.size + 1 + 1) (a * 8 + b) _ _ _ hm1.b2).trans (chA_at j a b (by omega) (by omega)); have c4 := frozen_of_row w1 (w.heap.size + 1 + 1) (a * 8 + b) _ _ hm1.b2))
            go_roundw
            case rel => exact ⟨b + 1, _, by omega, by go_num, hm1.put a b k (by omega), hd.put (by omega) hlt H0.out⟩
            case measure => simp [intOf]; omega
        · obtain rfl : b = n := by omega
          go_wp2
          go_roundw
          case rel => exact ⟨a + 1, j, by omega, by go_num, hm, hd.row⟩
          case measure => simp [intOf]; omega
    · obtain rfl : a = n := by omega
      obtain ⟨z, hz⟩ := hm.b1
      have HZ := Lib.hid hz
      clear hz
      go_wp2_with (first | (refine wpList_loadC rfl _ rfl _ rfl j _ _ hm.b2 ?_) | (refine wpList_storeC rfl _ _ rfl _ z j rfl rfl _ HZ.out ?_))
      refine bodyPost_ret (v := .tuple #[.agg (chA j), .bool true]) (resultC2 rfl _ _ _ _ j _ _ rfl rfl (setRow_heap _ _ _ _ _ _ HZ.out)) rfl ⟨below_setRow hm.below (by omega) _, .inl ⟨hd.fin.2, by rw [hd.fin.1]⟩⟩
end Lv
end Go.Proofs.Ytmfdclnepmgmlaa
