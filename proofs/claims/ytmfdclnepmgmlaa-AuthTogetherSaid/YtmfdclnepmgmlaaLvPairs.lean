/- Pairs of ints behind a slice; what pairsRight and paired do. -/
import Derived.Test.YtmfdclnepmgmlaaLvDbl
import Derived.RegionTactic
import Derived.BigRegion
namespace Go.Proofs.Ytmfdclnepmgmlaa
open Go.RowKit
namespace Lv
/-- a slice of pairs of ints that holds ps -/
structure PairsAt (w : World) (v : Value) (ps : List (Int × Int)) : Prop where
  form : ∃ a cap, v = .slice a ps.length cap ∧ ∀ i x, ps[i]? = some x → ∃ b off, a = some ⟨b, off, none⟩ ∧ w.cell? ⟨b, off + i * 2, none⟩ = some (.int .i64 x.1) ∧ w.cell? ⟨b, off + i * 2 + 1, none⟩ = some (.int .i64 x.2)
theorem cellB {w w1 : World} {b o : Nat} {v : Value} (hb : Below w.heap.size w w1) (h : w.cell? ⟨b, o, none⟩ = some v) : w1.cell? ⟨b, o, none⟩ = some v := (hb.cell (p := ⟨b, o, none⟩) (block_lt_of_cell h)).trans h
theorem PairsAt.go {w w1 : World} {v : Value} {ps : List (Int × Int)} (h : PairsAt w v ps) (hb : Below w.heap.size w w1) : PairsAt w1 v ps := by
  obtain ⟨a, cap, hv, hc⟩ := h.form
  refine ⟨a, cap, hv, fun i x hx => ?_⟩
  obtain ⟨b, off, ha, h1, h2⟩ := hc i x hx
  exact ⟨b, off, ha, cellB hb h1, cellB hb h2⟩
theorem PairsAt.nil (w : World) : PairsAt w (.slice none 0 0) [] := ⟨none, 0, rfl, fun i x h => by simp at h⟩
def prB (ps : List (Int × Int)) (n : Nat) : Bool := decide (ps.length ≤ 64) && ps.all fun p => inI p.1 n && inI p.2 n
theorem prB_long {ps : List (Int × Int)} {n : Nat} (h : 64 < ps.length) : prB ps n = false := by
  have : ¬ ps.length ≤ 64 := by omega
  simp [prB, this]
theorem prB_no {ps : List (Int × Int)} {n k : Nat} {x : Int × Int} (hx : ps[k]? = some x) (h : (inI x.1 n && inI x.2 n) = false) : prB ps n = false := by
  unfold prB
  have : (ps.all fun p => inI p.1 n && inI p.2 n) = false := by
    rw [List.all_eq_false]
    exact ⟨x, List.mem_of_getElem? hx, by simp [h]⟩
  rw [this]; simp
theorem prB_yes {ps : List (Int × Int)} {n : Nat} (h64 : ps.length ≤ 64) (h : ∀ i x, i < ps.length → ps[i]? = some x → (inI x.1 n && inI x.2 n) = true) : prB ps n = true := by
  unfold prB
  have : (ps.all fun p => inI p.1 n && inI p.2 n) = true := by
    rw [List.all_eq_true]
    intro x hx
    obtain ⟨i, hi⟩ := List.getElem?_of_mem hx
    exact h i x (List.getElem?_eq_some_iff.1 hi).1 hi
  rw [this]; simp [h64]
theorem prB_get {ps : List (Int × Int)} {n i : Nat} {x : Int × Int} (h : prB ps n = true) (hx : ps[i]? = some x) : 0 ≤ x.1 ∧ x.1 < n ∧ 0 ≤ x.2 ∧ x.2 < n := by
  unfold prB at h
  rw [Bool.and_eq_true, List.all_eq_true] at h
  have := h.2 x (List.mem_of_getElem? hx)
  simp [inI] at this
  omega
set_option maxHeartbeats 1000000 in
theorem pairsRight_any (v : Value) (ps : List (Int × Int)) (n : Nat) (w : World) (hp : PairsAt w v ps) (hl : ps.length ≤ maxLen) :
    Calls Try.prog 22 #[v, .int .i64 n] w fun e w' => e = .returned (.bool (prB ps n)) ∧ Below w.heap.size w w' := by
  obtain ⟨a, cap, rfl, hc⟩ := hp.form
  unfold maxLen at hl
  have HC := Lib.hid hc
  clear hc hp
  by_cases h64 : 64 < ps.length
  · have d1 : decide ((64 : Int) < (ps.length : Int)) = true := by simp; omega
    go_enter Try.func22, Try.ntmps22
    go_wp2
    go_ret
    exact ⟨ret_bool (prB_long h64).symm, Below.refl _ _⟩
  · have d1 : decide ((64 : Int) < (ps.length : Int)) = false := by simp; omega
    go_enter Try.func22, Try.ntmps22
    go_wp2
    go_loopw [6, 12] (fun _ i wr => ∃ k : Nat, k ≤ ps.length ∧ i = .int .i64 k ∧ Below w.heap.size w wr ∧ ∀ i x, i < k → ps[i]? = some x → (inI x.1 n && inI x.2 n) = true) (fun _ i _ => ps.length - (intOf i).toNat)
    case atStart => exact ⟨0, by omega, rfl, Below.refl _ _, fun i x h => by omega⟩
    case round =>
      obtain ⟨k, hk, rfl, hb, hall⟩ := hrel
      have HA := Lib.hid hall
      clear hall
      by_cases hlt : k < ps.length
      · obtain ⟨⟨x, y⟩, hx⟩ : ∃ x, ps[k]? = some x := ⟨_, List.getElem?_eq_getElem hlt⟩
        obtain ⟨b, off, rfl, c1, c2⟩ := HC.out k _ hx
        have HX := Lib.hid hx
        clear hx
        have e1 := cellB hb c1
        have e2 := cellB hb c2
        have h0 := block_lt_of_cell c1
        clear c1 c2
        dsimp only at e1 e2 h0
        have hsz := hb.size
        cases g1 : inI x n
        · go_wp2_with (go_at_call 31; refine (within_any _ _ _).mono ?_; rintro e w' ⟨rfl, rfl⟩)
          go_ret
          exact ⟨ret_bool (prB_no HX.out (by simp [g1])).symm, hb.alloc hsz _⟩
        · cases g2 : inI y n
          · go_wp2_with (go_at_call 31; refine (within_any _ _ _).mono ?_; rintro e w' ⟨rfl, rfl⟩)
            go_ret
            exact ⟨ret_bool (prB_no HX.out (by simp [g2])).symm, hb.alloc hsz _⟩
          · go_wp2_with (go_at_call 31; refine (within_any _ _ _).mono ?_; rintro e w' ⟨rfl, rfl⟩)
            go_roundw
            case rel =>
              refine ⟨k + 1, by omega, by go_num, hb.alloc hsz _, fun i z hi hz => ?_⟩
              by_cases hik : i < k
              · exact HA.out i z hik hz
              · obtain rfl : i = k := by omega
                have := HX.out
                rw [this] at hz
                cases hz
                simp [g1, g2]
            case measure => simp [intOf]; omega
      · obtain rfl : k = ps.length := by omega
        go_wp2
        go_ret
        exact ⟨ret_bool (prB_yes (by omega) HA.out).symm, hb⟩
/-- the pairs themselves, and each level below itself -/
def pairT (ps : List (Int × Int)) (n : Nat) : Nat → Nat → Bool := fun a b => (decide (a = b) && decide (a < n)) || ps.any fun p => decide (p.1 = (a : Int)) && decide (p.2 = (b : Int))
structure DiagTo (s : Nat → Nat → Bool) (k : Nat) : Prop where
  val : ∀ x y, x < 8 → y < 8 → s x y = (decide (x = y) && decide (x < k))
theorem DiagTo.start : DiagTo (fun _ _ => false) 0 := ⟨fun x y _ _ => by simp⟩
theorem DiagTo.put {s : Nat → Nat → Bool} {k : Nat} (h : DiagTo s k) : DiagTo (upd s k k true) (k + 1) :=
  ⟨fun x y hx hy => by
    by_cases e : x = k ∧ y = k
    · obtain ⟨rfl, rfl⟩ := e
      rw [upd_same]; simp
    · rw [upd_other _ _ _ _ _ _ e, h.val x y hx hy]
      by_cases exy : x = y
      · subst exy
        have : x ≠ k := fun h => e ⟨h, h⟩
        simp; omega
      · simp [exy]⟩
structure PairTo (ps : List (Int × Int)) (n : Nat) (s : Nat → Nat → Bool) (k : Nat) : Prop where
  val : ∀ x y, x < 8 → y < 8 → s x y = pairT (ps.take k) n x y
theorem DiagTo.pairs {s : Nat → Nat → Bool} {n : Nat} (ps : List (Int × Int)) (h : DiagTo s n) : PairTo ps n s 0 := ⟨fun x y hx hy => by rw [h.val x y hx hy]; simp [pairT]⟩
theorem PairTo.put {ps : List (Int × Int)} {n : Nat} {s : Nat → Nat → Bool} {k a b : Nat} (h : PairTo ps n s k) (hx : ps[k]? = some ((a : Int), (b : Int))) : PairTo ps n (upd s a b true) (k + 1) :=
  ⟨fun x y hx' hy => by
    have ht : ps.take (k + 1) = ps.take k ++ [((a : Int), (b : Int))] := by
      rw [List.take_add_one, hx]; rfl
    by_cases e : x = a ∧ y = b
    · obtain ⟨rfl, rfl⟩ := e
      rw [upd_same, ht]
      simp [pairT]
    · rw [upd_other _ _ _ _ _ _ e, h.val x y hx' hy, ht]
      have : (decide ((a : Int) = (x : Int)) && decide ((b : Int) = (y : Int))) = false := by
        simp; omega
      simp [pairT, this]⟩
theorem PairTo.fin {ps : List (Int × Int)} {n : Nat} {s : Nat → Nat → Bool} (h : PairTo ps n s ps.length) : relA s = relA (pairT ps n) :=
  relA_congr fun a b ha hb => by rw [h.val a b ha hb, List.take_length]
/-- two tables: the result, what is being filled -/
structure Mem2 (w wr : World) (s : Nat → Nat → Bool) : Prop where
  below : Below w.heap.size w wr
  b1 : ∃ z, wr.heap[w.heap.size]? = some (.cells (relA z) 58)
  b2 : wr.heap[w.heap.size + 1]? = some (.cells (relA s) 58)
theorem Mem2.put {w wr : World} {s : Nat → Nat → Bool} (h : Mem2 w wr s) (a c : Nat) (v : Bool) (hc : c < 8) : Mem2 w (wr.setCell ⟨w.heap.size + 1, a * 8 + c, none⟩ (.bool v)) (upd s a c v) :=
  ⟨h.below.setCell (by dsimp only; omega) _, h.b1.elim fun z hz => ⟨z, (heap_setCell_other _ _ _ _ (by dsimp only; omega)).trans hz⟩, putR a c v hc h.b2⟩
theorem Mem2.drew {w wr : World} {s : Nat → Nat → Bool} (h : Mem2 w wr s) : Mem2 w wr.drew s := ⟨h.below.drew, h.b1, h.b2⟩
theorem Mem2.go {w wr w1 : World} {s : Nat → Nat → Bool} (h : Mem2 w wr s) (hb : Below wr.heap.size wr w1) : Mem2 w w1 s :=
  ⟨bt h.below hb, h.b1.elim fun z hz => ⟨z, bkeep hb hz⟩, bkeep hb h.b2⟩
theorem Mem2.start (w : World) : Mem2 w ((w.alloc (.cells (relA fun _ _ => false) 58)).alloc (.cells (relA fun _ _ => false) 58)) (fun _ _ => false) := by
  have s1 : (w.alloc (.cells (relA fun _ _ => false) 58)).heap.size = w.heap.size + 1 := al_size _ _
  refine ⟨((Below.refl _ _).alloc (Nat.le_refl _) _).alloc (by simp) _, ⟨fun _ _ => false, ?_⟩, ?_⟩
  · rw [al_old _ _ _ (by rw [s1]; omega), al_new]
  · rw [← s1, al_new]
theorem Mem2.size {w wr : World} {s : Nat → Nat → Bool} (h : Mem2 w wr s) : w.heap.size + 1 < wr.heap.size := lt_of_some h.b2
set_option maxHeartbeats 1000000 in
theorem paired_any (v : Value) (ps : List (Int × Int)) (n : Nat) (w : World) (hn : n ≤ 8) (hp : PairsAt w v ps) (hr : prB ps n = true) :
    Calls Try.prog 24 #[v, .int .i64 n] w fun e w' => e = .returned (.agg (relA (pairT ps n))) ∧ Below w.heap.size w w' := by
  have hl : ps.length ≤ 64 := by
    unfold prB at hr
    simp only [Bool.and_eq_true, decide_eq_true_eq] at hr
    exact hr.1
  have HR := Lib.hid hr
  obtain ⟨a, cap, rfl, hc⟩ := hp.form
  have HC := Lib.hid hc
  clear hc hp hr
  go_enter Try.func24, Try.ntmps24
  go_wp2
  rw [zeroR]
  go_loopw [6, 10] (fun _ i wr => ∃ (k : Nat) (s : Nat → Nat → Bool), k ≤ n ∧ i = .int .i64 k ∧ Mem2 w wr s ∧ DiagTo s k) (fun _ i _ => n - (intOf i).toNat)
  case atStart => exact ⟨0, _, by omega, rfl, Mem2.start w, DiagTo.start⟩
  case round =>
    obtain ⟨k, s, hk, rfl, hm, hd⟩ := hrel
    obtain ⟨wo, rfl⟩ : ∃ wo : World, wo = wr := ⟨_, rfl⟩
    by_cases hlt : k < n
    · have c3 := (cell_of_row wo (w.heap.size + 1) (k * 8 + k) _ _ _ hm.b2).trans (relA_at s k k (by omega) (by omega))
      have c4 := frozen_of_row wo (w.heap.size + 1) (k * 8 + k) _ _ hm.b2
      go_wp2
      go_roundw
      case rel => exact ⟨k + 1, _, by omega, by go_num, hm.put k k true (by omega), hd.put⟩
      case measure => simp [intOf]; omega
    · obtain rfl : k = n := by omega
      go_wp2
      go_loopw [8, 20] (fun _ i wr => ∃ (m : Nat) (s : Nat → Nat → Bool), m ≤ ps.length ∧ i = .int .i64 m ∧ Mem2 w wr s ∧ PairTo ps k s m) (fun _ i _ => ps.length - (intOf i).toNat)
      case atStart => exact ⟨0, s, by omega, rfl, hm, hd.pairs ps⟩
      case round =>
        clear hm hd
        obtain ⟨m, s, hm0, rfl, hm, hd⟩ := hrel
        by_cases hlt : m < ps.length
        · obtain ⟨⟨x, y⟩, hx⟩ : ∃ x, ps[m]? = some x := ⟨_, List.getElem?_eq_getElem hlt⟩
          obtain ⟨b, off, rfl, c1, c2⟩ := HC.out m _ hx
          obtain ⟨x0, x1, y0, y1⟩ := prB_get HR.out hx
          dsimp only at x0 x1 y0 y1 c1 c2
          obtain ⟨x, rfl⟩ := Int.eq_ofNat_of_zero_le x0
          obtain ⟨y, rfl⟩ := Int.eq_ofNat_of_zero_le y0
          have HX := Lib.hid hx
          clear hx
          have e1 := cellB hm.below c1
          have e2 := cellB hm.below c2
          have h0 := block_lt_of_cell c1
          clear c1 c2
          dsimp only at h0
          have hsz := hm.size
          have c3 := (cell_of_row wr (w.heap.size + 1) (x * 8 + y) _ _ _ hm.b2).trans (relA_at s x y (by omega) (by omega))
          have c4 := frozen_of_row wr (w.heap.size + 1) (x * 8 + y) _ _ hm.b2
          go_wp2
          go_region
          go_wp2
          go_roundw
          case rel => exact ⟨m + 1, _, by omega, by go_num, ((hm.put x y true (by omega)).go ((Below.refl _ _).alloc (Nat.le_refl _) _)).drew, hd.put HX.out⟩
          case measure => simp [intOf]; omega
        · obtain rfl : m = ps.length := by omega
          obtain ⟨z, hz⟩ := hm.b1
          have HZ := Lib.hid hz
          clear hz
          go_wp2_with (first | (refine wpList_loadR rfl _ rfl _ rfl s _ _ hm.b2 ?_) | (refine wpList_storeR rfl _ _ rfl _ z s rfl rfl _ HZ.out ?_))
          refine bodyPost_ret (v := .agg (relA s)) (resultR rfl _ _ _ _ s _ rfl (setRow_heap _ _ _ _ _ _ HZ.out)) rfl ⟨by rw [hd.fin], below_setRow hm.below (by omega) _⟩
end Lv
end Go.Proofs.Ytmfdclnepmgmlaa
