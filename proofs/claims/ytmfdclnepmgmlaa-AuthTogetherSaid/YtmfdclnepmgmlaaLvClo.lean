/- The closure of a relation, and what closed does. -/
import Derived.Test.YtmfdclnepmgmlaaLvDbl
import Derived.Test.YtmfdclnepmgmlaaLvEq
import Derived.Deep.LoopGhost
namespace Go.Proofs.Ytmfdclnepmgmlaa
open Go.RowKit
namespace Lv
def Sub8 (r s : Nat → Nat → Bool) : Prop := ∀ a b, a < 8 → b < 8 → r a b = true → s a b = true
def Trans8 (t : Nat → Nat → Bool) : Prop := ∀ a b c, a < 8 → b < 8 → c < 8 → t a b = true → t b c = true → t a c = true
def Rf (r : Nat → Nat → Bool) : Prop := ∀ a b, a < 8 → b < 8 → r a b = true → r a a = true
def Reach (r : Nat → Nat → Bool) (a b : Nat) : Prop := ∀ t, Trans8 t → Sub8 r t → t a b = true
open Classical in
noncomputable def clo (r : Nat → Nat → Bool) : Nat → Nat → Bool := fun a b => decide (Reach r a b)
theorem clo_iff {r : Nat → Nat → Bool} {a b : Nat} : clo r a b = true ↔ Reach r a b := by simp [clo]
theorem clo_sub (r : Nat → Nat → Bool) : Sub8 r (clo r) := fun a b ha hb h => clo_iff.2 fun _ _ hs => hs a b ha hb h
theorem clo_trans (r : Nat → Nat → Bool) : Trans8 (clo r) := fun a b c ha hb hc h1 h2 => clo_iff.2 fun t ht hs => ht a b c ha hb hc (clo_iff.1 h1 t ht hs) (clo_iff.1 h2 t ht hs)
theorem clo_least {r t : Nat → Nat → Bool} (ht : Trans8 t) (hs : Sub8 r t) {a b : Nat} (h : clo r a b = true) : t a b = true := clo_iff.1 h t ht hs
theorem clo_fix {r : Nat → Nat → Bool} (ht : Trans8 r) : relA (clo r) = relA r := relA_congr fun a b ha hb => by
  rw [Bool.eq_iff_iff]
  exact ⟨clo_least ht (fun _ _ _ _ h => h), clo_sub r a b ha hb⟩
/-- how many places hold -/
def cnt (r : Nat → Nat → Bool) : Nat := (List.range 64).countP fun i => r (i / 8) (i % 8)
theorem cnt_le (r : Nat → Nat → Bool) : cnt r ≤ 64 := by
  have := List.countP_le_length (p := fun i => r (i / 8) (i % 8)) (l := List.range 64)
  simpa [cnt] using this
theorem countP_lt {p q : Nat → Bool} : ∀ (l : List Nat), (∀ x, x ∈ l → p x = true → q x = true) → (∃ x, x ∈ l ∧ p x = false ∧ q x = true) → l.countP p < l.countP q
  | [], _, h => by obtain ⟨x, hx, _⟩ := h; simp at hx
  | y :: l, hle, h => by
    have hm : l.countP p ≤ l.countP q := List.countP_mono_left fun x hx hp => hle x (by simp [hx]) hp
    obtain ⟨x, hx, hpx, hqx⟩ := h
    simp only [List.countP_cons]
    rcases List.mem_cons.1 hx with rfl | hx
    · simp [hpx, hqx]; omega
    · have ih := countP_lt l (fun z hz => hle z (by simp [hz])) ⟨x, hx, hpx, hqx⟩
      have := hle y (by simp)
      cases hp : p y
      · cases hq : q y <;> simp <;> omega
      · rw [this hp]; simp; omega
theorem dbl_sub {r : Nat → Nat → Bool} (h : Rf r) : Sub8 r (dbl r) := fun a b ha hb hr => dbl_iff.2 ⟨a, ha, h a b ha hb hr, hr⟩
theorem dbl_rf {r : Nat → Nat → Bool} (h : Rf r) : Rf (dbl r) := fun a b ha _ hr => by
  obtain ⟨c, hc, h1, _⟩ := dbl_iff.1 hr
  have := h a c ha hc h1
  exact dbl_iff.2 ⟨a, ha, this, this⟩
theorem dbl_least {r t : Nat → Nat → Bool} (ht : Trans8 t) (hs : Sub8 r t) : Sub8 (dbl r) t := fun a b ha hb hr => by
  obtain ⟨c, hc, h1, h2⟩ := dbl_iff.1 hr
  exact ht a c b ha hc hb (hs a c ha hc h1) (hs c b hc hb h2)
theorem dbl_fix {r : Nat → Nat → Bool} (h : relA (dbl r) = relA r) : Trans8 r := fun a b c ha hb hc h1 h2 => by
  rw [← relA_inj h a c ha hc]
  exact dbl_iff.2 ⟨b, hb, h1, h2⟩
theorem cnt_dbl {r : Nat → Nat → Bool} (h : Rf r) (hn : relA (dbl r) ≠ relA r) : cnt r < cnt (dbl r) := by
  refine countP_lt _ (fun i hi hp => dbl_sub h _ _ (by simp at hi; omega) (by omega) hp) ?_
  false_or_by_contra
  rename_i hh
  apply hn
  apply relA_congr
  intro a b ha hb
  rw [Bool.eq_iff_iff]
  refine ⟨fun hd => ?_, dbl_sub h a b ha hb⟩
  cases hr : r a b with
  | true => rfl
  | false =>
    exact absurd ⟨a * 8 + b, by simp; omega, by rw [show (a * 8 + b) / 8 = a by omega, show (a * 8 + b) % 8 = b by omega]; exact hr, by rw [show (a * 8 + b) / 8 = a by omega, show (a * 8 + b) % 8 = b by omega]; exact hd⟩ hh
/-- how far closed has come -/
structure CloTo (r s : Nat → Nat → Bool) : Prop where
  rf : Rf s
  sub : Sub8 r s
  least : ∀ t, Trans8 t → Sub8 r t → Sub8 s t
theorem CloTo.start {r : Nat → Nat → Bool} (h : Rf r) : CloTo r r := ⟨h, fun _ _ _ _ h => h, fun _ _ h => h⟩
theorem CloTo.next {r s : Nat → Nat → Bool} (h : CloTo r s) : CloTo r (dbl s) := ⟨dbl_rf h.rf, fun a b ha hb hr => dbl_sub h.rf a b ha hb (h.sub a b ha hb hr), fun t ht hs => dbl_least ht (h.least t ht hs)⟩
theorem CloTo.fin {r s : Nat → Nat → Bool} (h : CloTo r s) (he : relA (dbl s) = relA s) : relA s = relA (clo r) := relA_congr fun a b ha hb => by
  rw [Bool.eq_iff_iff, clo_iff]
  exact ⟨fun hs t ht hr => h.least t ht hr a b ha hb hs, fun hr => hr s (dbl_fix he) h.sub⟩
structure MemC (w wr : World) (s : Nat → Nat → Bool) : Prop where
  below : Below w.heap.size w wr
  b0 : wr.heap[w.heap.size]? = some (.cells (relA s) 58)
  b1 : ∃ z, wr.heap[w.heap.size + 1]? = some (.cells (relA z) 58)
theorem MemC.go {w wr w1 : World} {s : Nat → Nat → Bool} (h : MemC w wr s) (hb : Below wr.heap.size wr w1) : MemC w w1 s :=
  ⟨bt h.below hb, bkeep hb h.b0, h.b1.elim fun z hz => ⟨z, bkeep hb hz⟩⟩
theorem MemC.put {w wr : World} {s : Nat → Nat → Bool} (h : MemC w wr s) (t : Nat → Nat → Bool) : MemC w (wr.setRow w.heap.size (relA t)) t :=
  ⟨below_setRow h.below (by omega) _, setRow_heap _ _ _ _ _ _ h.b0, h.b1.elim fun z hz => ⟨z, (setRow_other _ _ _ _ (by omega)).trans hz⟩⟩
theorem MemC.start (w : World) (r : Nat → Nat → Bool) : MemC w ((w.alloc (.cells (relA r) 58)).alloc (.cells (relA fun _ _ => false) 58)) r := by
  have s1 : (w.alloc (.cells (relA r) 58)).heap.size = w.heap.size + 1 := al_size _ _
  refine ⟨((Below.refl _ _).alloc (Nat.le_refl _) _).alloc (by simp) _, ?_, ⟨fun _ _ => false, ?_⟩⟩
  · rw [al_old _ _ _ (by rw [s1]; omega), al_new]
  · rw [← s1, al_new]
set_option maxHeartbeats 1000000 in
theorem closed_any (r : Nat → Nat → Bool) (w : World) (hr : Rf r) :
    Calls Try.prog 23 #[.agg (relA r)] w fun e w' => e = .returned (.agg (relA (clo r))) ∧ Below w.heap.size w w' := by
  go_enter Try.func23, Try.ntmps23
  go_wp2_with (refine wpList_allocR rfl rfl ?_)
  go_frame
  rw [al_size]
  go_loopg [3] (64 - cnt r) (fun k _ wr => ∃ s, k = 64 - cnt s ∧ MemC w wr s ∧ CloTo r s)
  case atStart => exact ⟨r, rfl, MemC.start w r, CloTo.start hr⟩
  case round =>
    obtain ⟨s, hk, hm, hc⟩ := hrel
    have HK := Lib.hid hk
    clear hk
    have hEq := fun (w : World) (r s : Nat → Nat → Bool) => run_eqR w r s
    cases he : eqR (dbl s) s
    · go_wp2_with (first | (refine wpList_loadR rfl _ rfl _ rfl s _ _ hm.b0 ?_) | (go_at_call 33; refine (doubled_any s _).mono ?_; rintro e w1 ⟨rfl, hb1⟩; have hm1 := hm.go hb1) | (refine wpList_allocR rfl rfl ?_) | (refine wpList_storeRn rfl _ _ rfl _ _ rfl rfl _ ?_; have hm2 := hm1.go ((Below.refl _ _).alloc (Nat.le_refl _) (.cells (relA (dbl s)) 58))) | (refine wpList_loadR rfl _ rfl _ rfl (dbl s) _ _ (al_new _ _) ?_) | (refine wpList_loadR rfl _ rfl _ rfl s _ _ hm2.b0 ?_) | (refine wpList_storeR rfl _ _ rfl _ s (dbl s) rfl rfl _ hm2.b0 ?_))
      go_frame
      go_roundg (64 - cnt (dbl s))
      case measure =>
        have h1 := cnt_dbl hc.rf (fun h => by rw [eqR_iff.2 h] at he; cases he)
        have h2 := cnt_le (dbl s)
        rw [HK.out]
        omega
      case rel => exact ⟨dbl s, rfl, hm2.put _, hc.next⟩
    · obtain ⟨z, hz⟩ := hm.b1
      have HZ := Lib.hid hz
      clear hz
      go_wp2_with (first | (refine wpList_loadR rfl _ rfl _ rfl s _ _ hm.b0 ?_) | (go_at_call 33; refine (doubled_any s _).mono ?_; rintro e w1 ⟨rfl, hb1⟩; have hm1 := hm.go hb1) | (refine wpList_allocR rfl rfl ?_) | (refine wpList_storeRn rfl _ _ rfl _ _ rfl rfl _ ?_; have hm2 := hm1.go ((Below.refl _ _).alloc (Nat.le_refl _) (.cells (relA (dbl s)) 58))) | (refine wpList_loadR rfl _ rfl _ rfl (dbl s) _ _ (al_new _ _) ?_) | (refine wpList_loadR rfl _ rfl _ rfl s _ _ hm2.b0 ?_) | (refine wpList_storeR rfl _ _ rfl _ s (dbl s) rfl rfl _ hm2.b0 ?_) | (refine wpList_storeR rfl _ _ rfl _ z s rfl rfl _ (bkeep ((Below.refl _ _).alloc (Nat.le_refl _) _) (bkeep hb1 HZ.out)) ?_))
      refine bodyPost_ret (v := .agg (relA s)) (resultR rfl _ _ _ _ s _ rfl (setRow_heap _ _ _ _ _ _ (bkeep ((Below.refl _ _).alloc (Nat.le_refl _) _) (bkeep hb1 HZ.out)))) rfl ⟨by rw [hc.fin (eqR_iff.1 he)], below_setRow hm2.below (by omega) _⟩
end Lv
end Go.Proofs.Ytmfdclnepmgmlaa
