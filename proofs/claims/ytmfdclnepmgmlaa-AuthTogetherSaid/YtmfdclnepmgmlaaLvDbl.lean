/- What doubled does. -/
import Derived.Test.YtmfdclnepmgmlaaLvBB
import Derived.Test.YtmfdclnepmgmlaaLvRows
namespace Go.Proofs.Ytmfdclnepmgmlaa
open Go.RowKit
namespace Lv
/-- three tables, made one behind the other: what came in, the result, what is being filled -/
structure Mem3 (w wr : World) (r s : Nat → Nat → Bool) : Prop where
  below : Below w.heap.size w wr
  b0 : wr.heap[w.heap.size]? = some (.cells (relA r) 58)
  b1 : ∃ z, wr.heap[w.heap.size + 1]? = some (.cells (relA z) 58)
  b2 : wr.heap[w.heap.size + 1 + 1]? = some (.cells (relA s) 58)
theorem Mem3.put {w wr : World} {r s : Nat → Nat → Bool} (h : Mem3 w wr r s) (a c : Nat) (v : Bool) (hc : c < 8) : Mem3 w (wr.setCell ⟨w.heap.size + 1 + 1, a * 8 + c, none⟩ (.bool v)) r (upd s a c v) :=
  ⟨h.below.setCell (by dsimp only; omega) _, (heap_setCell_other _ _ _ _ (by dsimp only; omega)).trans h.b0, h.b1.elim fun z hz => ⟨z, (heap_setCell_other _ _ _ _ (by dsimp only; omega)).trans hz⟩, putR a c v hc h.b2⟩
theorem Mem3.drew {w wr : World} {r s : Nat → Nat → Bool} (h : Mem3 w wr r s) : Mem3 w wr.drew r s := ⟨h.below.drew, h.b0, h.b1, h.b2⟩
theorem Mem3.start (w : World) (r : Nat → Nat → Bool) : Mem3 w (((w.alloc (.cells (relA r) 58)).alloc (.cells (relA fun _ _ => false) 58)).alloc (.cells (relA fun _ _ => false) 58)) r (fun _ _ => false) := by
  have s1 : (w.alloc (.cells (relA r) 58)).heap.size = w.heap.size + 1 := by simp
  have s2 : ((w.alloc (.cells (relA r) 58)).alloc (.cells (relA fun _ _ => false) 58)).heap.size = w.heap.size + 1 + 1 := by simp
  refine ⟨(((Below.refl _ _).alloc (Nat.le_refl _) _).alloc (by simp) _).alloc (by simp; omega) _, ?_, ⟨fun _ _ => false, ?_⟩, ?_⟩
  · rw [al_old _ _ _ (by rw [s2]; omega), al_old _ _ _ (by rw [s1]; omega), al_new]
  · rw [al_old _ _ _ (by rw [s2]; omega), ← s1, al_new]
  · rw [← s2, al_new]
set_option maxHeartbeats 1000000 in
theorem doubled_any (r : Nat → Nat → Bool) (w : World) :
    Calls Try.prog 33 #[.agg (relA r)] w fun e w' => e = .returned (.agg (relA (dbl r))) ∧ Below w.heap.size w w' := by
  go_enter Try.func33, Try.ntmps33
  go_wp2
  rw [zeroR]
  go_loopw [4, 7] (fun _ i wr => ∃ (a : Nat) (s : Nat → Nat → Bool), a ≤ 8 ∧ i = .int .i64 a ∧ Mem3 w wr r s ∧ DblTo r s a 0 0) (fun _ i _ => 8 - (intOf i).toNat)
  case atStart => exact ⟨0, _, by omega, rfl, Mem3.start w r, DblTo.start r⟩
  case round =>
    obtain ⟨a, s, ha, rfl, hm, hd⟩ := hrel
    obtain ⟨wo, rfl⟩ : ∃ wo : World, wo = wr := ⟨_, rfl⟩
    by_cases hlt : a < 8
    · go_wp2
      go_loopw [5, 10] (fun _ i wr => ∃ (b : Nat) (s : Nat → Nat → Bool), b ≤ 8 ∧ i = .int .i64 b ∧ Mem3 w wr r s ∧ DblTo r s a b 0) (fun _ i _ => 8 - (intOf i).toNat)
      case atStart => exact ⟨0, s, by omega, rfl, hm, hd⟩
      case round =>
        clear hm hd
        obtain ⟨b, s, hb, rfl, hm, hd⟩ := hrel
        obtain ⟨wp, rfl⟩ : ∃ wo : World, wo = wr := ⟨_, rfl⟩
        by_cases hlt : b < 8
        · go_wp2
          go_loopw [6, 13] (fun _ i wr => ∃ (c : Nat) (s : Nat → Nat → Bool), c ≤ 8 ∧ i = .int .i64 c ∧ Mem3 w wr r s ∧ DblTo r s a b c) (fun _ i _ => 8 - (intOf i).toNat)
          case atStart => exact ⟨0, s, by omega, rfl, hm, hd⟩
          case round =>
            clear hm hd
            obtain ⟨c, s, hc, rfl, hm, hd⟩ := hrel
            by_cases hlt : c < 8
            · have c1 := (cell_of_row wr w.heap.size (a * 8 + b) _ _ _ hm.b0).trans (relA_at r a b (by omega) (by omega))
              have c2 := (cell_of_row wr w.heap.size (b * 8 + c) _ _ _ hm.b0).trans (relA_at r b c (by omega) (by omega))
              have c3 := (cell_of_row wr (w.heap.size + 1 + 1) (a * 8 + c) _ _ _ hm.b2).trans (relA_at s a c (by omega) (by omega))
              have c4 := frozen_of_row wr (w.heap.size + 1 + 1) (a * 8 + c) _ _ hm.b2
              cases h1 : r a b
              · rw [h1] at c1
                go_wp2
                go_roundw
                case rel => exact ⟨c + 1, s, by omega, by go_num, hm, hd.next (by simp [h1])⟩
                case measure => simp [intOf]; omega
              · cases h2 : r b c
                · rw [h1] at c1
                  rw [h2] at c2
                  go_wp2
                  go_roundw
                  case rel => exact ⟨c + 1, s, by omega, by go_num, hm, hd.next (by simp [h2])⟩
                  case measure => simp [intOf]; omega
                · rw [h1] at c1
                  rw [h2] at c2
                  go_wp2
                  go_roundw
                  case rel => exact ⟨c + 1, _, by omega, by go_num, hm.put a c true hlt, hd.put (by omega) h1 h2⟩
                  case measure => simp [intOf]; omega
            · obtain rfl : c = 8 := by omega
              go_wp2
              go_roundw
              case rel => exact ⟨b + 1, s, by omega, by go_num, hm, hd.in3⟩
              case measure => simp [intOf]; omega
        · obtain rfl : b = 8 := by omega
          go_wp2
          go_roundw
          case rel => exact ⟨a + 1, s, by omega, by go_num, hm, hd.in2⟩
          case measure => simp [intOf]; omega
    · obtain rfl : a = 8 := by omega
      obtain ⟨z, hz⟩ := hm.b1
      have HZ := Lib.hid hz
      clear hz
      go_wp2_with (first | (refine wpList_loadR rfl _ rfl _ rfl s _ _ hm.b2 ?_) | (refine wpList_storeR rfl _ _ rfl _ z s rfl rfl _ HZ.out ?_))
      refine bodyPost_ret (v := .agg (relA s)) (resultR rfl _ _ _ _ s _ rfl (setRow_heap _ _ _ _ _ _ HZ.out)) rfl ⟨by rw [hd.fin], Go.below_setRow hm.below (by omega) _⟩
end Lv
end Go.Proofs.Ytmfdclnepmgmlaa
