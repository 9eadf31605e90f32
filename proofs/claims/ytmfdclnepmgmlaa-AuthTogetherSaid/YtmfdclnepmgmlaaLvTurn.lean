/- What turned and shared do. -/
import Derived.Test.YtmfdclnepmgmlaaLvDbl
import Derived.RegionTactic
import Derived.BigRegion
namespace Go.Proofs.Ytmfdclnepmgmlaa
open Go.RowKit
namespace Lv
def trn (r : Nat → Nat → Bool) : Nat → Nat → Bool := fun a b => r b a
def shr (r s : Nat → Nat → Bool) : Nat → Nat → Bool := fun a b => r a b && s a b
structure FillTo (f s : Nat → Nat → Bool) (a b : Nat) : Prop where
  val : ∀ x y, x < 8 → y < 8 → (x < a ∨ x = a ∧ y < b) → s x y = f x y
theorem FillTo.start (f : Nat → Nat → Bool) : FillTo f (fun _ _ => false) 0 0 := ⟨fun x y _ _ h => by omega⟩
theorem FillTo.put {f s : Nat → Nat → Bool} {a b : Nat} (h : FillTo f s a b) : FillTo f (upd s a b (f a b)) a (b + 1) :=
  ⟨fun x y hx hy hh => by
    by_cases e : x = a ∧ y = b
    · obtain ⟨rfl, rfl⟩ := e
      rw [upd_same]
    · rw [upd_other _ _ _ _ _ _ e]
      exact h.val x y hx hy (by omega)⟩
theorem FillTo.row {f s : Nat → Nat → Bool} {a : Nat} (h : FillTo f s a 8) : FillTo f s (a + 1) 0 := ⟨fun x y hx hy hh => h.val x y hx hy (by omega)⟩
theorem FillTo.fin {f s : Nat → Nat → Bool} (h : FillTo f s 8 0) : relA s = relA f := relA_congr fun a b ha hb => h.val a b ha hb (by omega)
/-- what turned has filled stands turned about -/
structure TurnTo (r s : Nat → Nat → Bool) (a b : Nat) : Prop where
  val : ∀ x y, x < 8 → y < 8 → (x < a ∨ x = a ∧ y < b) → s y x = r x y
theorem TurnTo.start (f : Nat → Nat → Bool) : TurnTo f (fun _ _ => false) 0 0 := ⟨fun x y _ _ h => by omega⟩
theorem TurnTo.put {f s : Nat → Nat → Bool} {a b : Nat} (h : TurnTo f s a b) : TurnTo f (upd s b a (f a b)) a (b + 1) :=
  ⟨fun x y hx hy hh => by
    by_cases e : y = b ∧ x = a
    · obtain ⟨rfl, rfl⟩ := e
      rw [upd_same]
    · rw [upd_other _ _ _ _ _ _ e]
      exact h.val x y hx hy (by omega)⟩
theorem TurnTo.row {f s : Nat → Nat → Bool} {a : Nat} (h : TurnTo f s a 8) : TurnTo f s (a + 1) 0 := ⟨fun x y hx hy hh => h.val x y hx hy (by omega)⟩
theorem TurnTo.fin {f s : Nat → Nat → Bool} (h : TurnTo f s 8 0) : relA s = relA (trn f) := relA_congr fun a b ha hb => h.val b a hb ha (by omega)
set_option maxHeartbeats 1000000 in
theorem turned_any (r : Nat → Nat → Bool) (w : World) :
    Calls Try.prog 25 #[.agg (relA r)] w fun e w' => e = .returned (.agg (relA (trn r))) ∧ Below w.heap.size w w' := by
  go_enter Try.func25, Try.ntmps25
  go_wp2
  rw [zeroR]
  go_loopw [4, 6] (fun _ i wr => ∃ (a : Nat) (s : Nat → Nat → Bool), a ≤ 8 ∧ i = .int .i64 a ∧ Mem3 w wr r s ∧ TurnTo r s a 0) (fun _ i _ => 8 - (intOf i).toNat)
  case atStart => exact ⟨0, _, by omega, rfl, Mem3.start w r, TurnTo.start r⟩
  case round =>
    obtain ⟨a, s, ha, rfl, hm, hd⟩ := hrel
    obtain ⟨wo, rfl⟩ : ∃ wo : World, wo = wr := ⟨_, rfl⟩
    by_cases hlt : a < 8
    · go_wp2
      go_loopw [5, 9] (fun _ i wr => ∃ (b : Nat) (s : Nat → Nat → Bool), b ≤ 8 ∧ i = .int .i64 b ∧ Mem3 w wr r s ∧ TurnTo r s a b) (fun _ i _ => 8 - (intOf i).toNat)
      case atStart => exact ⟨0, s, by omega, rfl, hm, hd⟩
      case round =>
        clear hm hd
        obtain ⟨b, s, hb, rfl, hm, hd⟩ := hrel
        by_cases hlt : b < 8
        · have c1 := (cell_of_row wr w.heap.size (a * 8 + b) _ _ _ hm.b0).trans (relA_at r a b (by omega) (by omega))
          have c3 := (cell_of_row wr (w.heap.size + 1 + 1) (b * 8 + a) _ _ _ hm.b2).trans (relA_at s b a (by omega) (by omega))
          have c4 := frozen_of_row wr (w.heap.size + 1 + 1) (b * 8 + a) _ _ hm.b2
          go_wp2
          go_region
          go_wp2
          go_roundw
          case rel => exact ⟨b + 1, _, by omega, by go_num, (hm.put b a _ (by omega)).drew, hd.put⟩
          case measure => simp [intOf]; omega
        · obtain rfl : b = 8 := by omega
          go_wp2
          go_roundw
          case rel => exact ⟨a + 1, s, by omega, by go_num, hm, hd.row⟩
          case measure => simp [intOf]; omega
    · obtain rfl : a = 8 := by omega
      obtain ⟨z, hz⟩ := hm.b1
      have HZ := Lib.hid hz
      clear hz
      go_wp2_with (first | (refine wpList_loadR rfl _ rfl _ rfl s _ _ hm.b2 ?_) | (refine wpList_storeR rfl _ _ rfl _ z s rfl rfl _ HZ.out ?_))
      refine bodyPost_ret (v := .agg (relA s)) (resultR rfl _ _ _ _ s _ rfl (setRow_heap _ _ _ _ _ _ HZ.out)) rfl ⟨by rw [hd.fin], below_setRow hm.below (by omega) _⟩
/-- four tables -/
structure Mem4 (w wr : World) (r q s : Nat → Nat → Bool) : Prop where
  below : Below w.heap.size w wr
  b0 : wr.heap[w.heap.size]? = some (.cells (relA r) 58)
  bq : wr.heap[w.heap.size + 1]? = some (.cells (relA q) 58)
  b1 : ∃ z, wr.heap[w.heap.size + 1 + 1]? = some (.cells (relA z) 58)
  b2 : wr.heap[w.heap.size + 1 + 1 + 1]? = some (.cells (relA s) 58)
theorem Mem4.put {w wr : World} {r q s : Nat → Nat → Bool} (h : Mem4 w wr r q s) (a c : Nat) (v : Bool) (hc : c < 8) : Mem4 w (wr.setCell ⟨w.heap.size + 1 + 1 + 1, a * 8 + c, none⟩ (.bool v)) r q (upd s a c v) :=
  ⟨h.below.setCell (by dsimp only; omega) _, (heap_setCell_other _ _ _ _ (by dsimp only; omega)).trans h.b0, (heap_setCell_other _ _ _ _ (by dsimp only; omega)).trans h.bq, h.b1.elim fun z hz => ⟨z, (heap_setCell_other _ _ _ _ (by dsimp only; omega)).trans hz⟩, putR a c v hc h.b2⟩
theorem Mem4.drew {w wr : World} {r q s : Nat → Nat → Bool} (h : Mem4 w wr r q s) : Mem4 w wr.drew r q s := ⟨h.below.drew, h.b0, h.bq, h.b1, h.b2⟩
theorem Mem4.start (w : World) (r q : Nat → Nat → Bool) : Mem4 w ((((w.alloc (.cells (relA r) 58)).alloc (.cells (relA q) 58)).alloc (.cells (relA fun _ _ => false) 58)).alloc (.cells (relA fun _ _ => false) 58)) r q (fun _ _ => false) := by
  generalize hA : w.alloc (.cells (relA r) 58) = w1
  have s1 : w1.heap.size = w.heap.size + 1 := by rw [← hA]; exact al_size _ _
  have g1 : w1.heap[w.heap.size]? = some (.cells (relA r) 58) := by rw [← hA]; exact al_new _ _
  have k1 : Below w.heap.size w w1 := by rw [← hA]; exact (Below.refl _ _).alloc (Nat.le_refl _) _
  have h3 := Mem3.start w1 q
  have e0 : w1.heap.size = w.heap.size + 1 := s1
  refine ⟨bt k1 h3.below, bkeep h3.below g1, ?_, ?_, ?_⟩
  · have := h3.b0
    rwa [s1] at this
  · obtain ⟨z, hz⟩ := h3.b1
    rw [s1] at hz
    exact ⟨z, hz⟩
  · have := h3.b2
    rwa [s1] at this
set_option maxHeartbeats 1000000 in
theorem shared_any (r q : Nat → Nat → Bool) (w : World) :
    Calls Try.prog 26 #[.agg (relA r), .agg (relA q)] w fun e w' => e = .returned (.agg (relA (shr r q))) ∧ Below w.heap.size w w' := by
  go_enter Try.func26, Try.ntmps26
  go_wp2
  rw [zeroR]
  go_loopw [6, 8] (fun _ i wr => ∃ (a : Nat) (s : Nat → Nat → Bool), a ≤ 8 ∧ i = .int .i64 a ∧ Mem4 w wr r q s ∧ FillTo (shr r q) s a 0) (fun _ i _ => 8 - (intOf i).toNat)
  case atStart => exact ⟨0, _, by omega, rfl, Mem4.start w r q, FillTo.start _⟩
  case round =>
    obtain ⟨a, s, ha, rfl, hm, hd⟩ := hrel
    obtain ⟨wo, rfl⟩ : ∃ wo : World, wo = wr := ⟨_, rfl⟩
    by_cases hlt : a < 8
    · go_wp2
      go_loopw [7, 11] (fun _ i wr => ∃ (b : Nat) (s : Nat → Nat → Bool), b ≤ 8 ∧ i = .int .i64 b ∧ Mem4 w wr r q s ∧ FillTo (shr r q) s a b) (fun _ i _ => 8 - (intOf i).toNat)
      case atStart => exact ⟨0, s, by omega, rfl, hm, hd⟩
      case round =>
        clear hm hd
        obtain ⟨b, s, hb, rfl, hm, hd⟩ := hrel
        by_cases hlt : b < 8
        · have c1 := (cell_of_row wr w.heap.size (a * 8 + b) _ _ _ hm.b0).trans (relA_at r a b (by omega) (by omega))
          have c2 := (cell_of_row wr (w.heap.size + 1) (a * 8 + b) _ _ _ hm.bq).trans (relA_at q a b (by omega) (by omega))
          have c3 := (cell_of_row wr (w.heap.size + 1 + 1 + 1) (a * 8 + b) _ _ _ hm.b2).trans (relA_at s a b (by omega) (by omega))
          have c4 := frozen_of_row wr (w.heap.size + 1 + 1 + 1) (a * 8 + b) _ _ hm.b2
          have hput : ∀ v, v = shr r q a b → FillTo (shr r q) (upd s a b v) a (b + 1) := fun v hv => by rw [hv]; exact hd.put
          have HP := Lib.hid hput
          clear hput
          cases h1 : r a b
          · rw [h1] at c1
            go_wp2
            go_region
            go_wp2
            go_roundw
            case rel => exact ⟨b + 1, _, by omega, by go_num, (hm.put a b _ (by omega)).drew, HP.out _ (by simp [shr, h1])⟩
            case measure => simp [intOf]; omega
          · rw [h1] at c1
            go_wp2
            go_region
            go_wp2
            go_roundw
            case rel => exact ⟨b + 1, _, by omega, by go_num, (hm.put a b _ (by omega)).drew, HP.out _ (by simp [shr, h1])⟩
            case measure => simp [intOf]; omega
        · obtain rfl : b = 8 := by omega
          go_wp2
          go_roundw
          case rel => exact ⟨a + 1, s, by omega, by go_num, hm, hd.row⟩
          case measure => simp [intOf]; omega
    · obtain rfl : a = 8 := by omega
      obtain ⟨z, hz⟩ := hm.b1
      have HZ := Lib.hid hz
      clear hz
      go_wp2_with (first | (refine wpList_loadR rfl _ rfl _ rfl s _ _ hm.b2 ?_) | (refine wpList_storeR rfl _ _ rfl _ z s rfl rfl _ HZ.out ?_))
      refine bodyPost_ret (v := .agg (relA s)) (resultR rfl _ _ _ _ s _ rfl (setRow_heap _ _ _ _ _ _ HZ.out)) rfl ⟨by rw [hd.fin], below_setRow hm.below (by omega) _⟩
end Lv
end Go.Proofs.Ytmfdclnepmgmlaa
