/- The closure of a relation, and what closed does. -/
import Derived.Test.YtelladgeehlkpaaPd
import Derived.Test.YtelladgeehlkpaaPe
import Derived.Deep.LoopGhost
import Derived.Deep.RegionLaw
namespace Go.Proofs.Ytelladgeehlkpaa
open Go.RowKit
namespace Lv
def Sub8 (r s : Nat → Nat → Bool) : Prop := ∀ a b, a < 8 → b < 8 → r a b = true → s a b = true
def Trans8 (t : Nat → Nat → Bool) : Prop := ∀ a b c, a < 8 → b < 8 → c < 8 → t a b = true → t b c = true → t a c = true
def Rf (r : Nat → Nat → Bool) : Prop := ∀ a b, a < 8 → b < 8 → r a b = true → r a a = true
def Reach (r : Nat → Nat → Bool) (a b : Nat) : Prop := ∀ t, Trans8 t → Sub8 r t → t a b = true
open Classical in
noncomputable def clo (r : Nat → Nat → Bool) : Nat → Nat → Bool := fun a b => decide (Reach r a b)
theorem clo_iff {r : Nat → Nat → Bool} {a b : Nat} : clo r a b = true ↔ Reach r a b := by simp [clo]
theorem clo_sub (r : Nat → Nat → Bool) : Sub8 r (clo r) := fun a b ha hb h => clo_iff.2 fun _ _ hs => hs a b ha hb h
theorem clo_trans (r : Nat → Nat → Bool) : Trans8 (clo r) := fun a b c ha hb hc h1 h2 => clo_iff.2 fun t ht hs => ht a b c ha hb hc (clo_iff.1 h1 t ht hs) (clo_iff.1 h2 t ht hs)
theorem clo_least {r t : Nat → Nat → Bool} (ht : Trans8 t) (hs : Sub8 r t) {a b : Nat} (h : clo r a b = true) : t a b = true := clo_iff.1 h t ht hs
theorem clo_fix {r : Nat → Nat → Bool} (ht : Trans8 r) : relA (clo r) = relA r := relA_congr fun a b ha hb => by
  rw [Bool.eq_iff_iff]
  exact ⟨clo_least ht (fun _ _ _ _ h => h), clo_sub r a b ha hb⟩
/-- how many places hold -/
def cnt (r : Nat → Nat → Bool) : Nat := (List.range 64).countP fun i => r (i / 8) (i % 8)
theorem cnt_le (r : Nat → Nat → Bool) : cnt r ≤ 64 := by
  have := List.countP_le_length (p := fun i => r (i / 8) (i % 8)) (l := List.range 64)
  simpa [cnt] using this
theorem countP_lt {p q : Nat → Bool} : ∀ (l : List Nat), (∀ x, x ∈ l → p x = true → q x = true) → (∃ x, x ∈ l ∧ p x = false ∧ q x = true) → l.countP p < l.countP q
  | [], _, h => by obtain ⟨x, hx, _⟩ := h; simp at hx
  | y :: l, hle, h => by
    have hm : l.countP p ≤ l.countP q := List.countP_mono_left fun x hx hp => hle x (by simp [hx]) hp
    obtain ⟨x, hx, hpx, hqx⟩ := h
    simp only [List.countP_cons]
    rcases List.mem_cons.1 hx with rfl | hx
    · simp [hpx, hqx]; omega
    · have ih := countP_lt l (fun z hz => hle z (by simp [hz])) ⟨x, hx, hpx, hqx⟩
      have := hle y (by simp)
      cases hp : p y
      · cases hq : q y <;> simp <;> omega
      · rw [this hp]; simp; omega
theorem dbl_sub {r : Nat → Nat → Bool} (h : Rf r) : Sub8 r (dbl r) := fun a b ha hb hr => dbl_iff.2 ⟨a, ha, h a b ha hb hr, hr⟩
theorem dbl_rf {r : Nat → Nat → Bool} (h : Rf r) : Rf (dbl r) := fun a b ha _ hr => by
  obtain ⟨c, hc, h1, _⟩ := dbl_iff.1 hr
  have := h a c ha hc h1
  exact dbl_iff.2 ⟨a, ha, this, this⟩
theorem dbl_least {r t : Nat → Nat → Bool} (ht : Trans8 t) (hs : Sub8 r t) : Sub8 (dbl r) t := fun a b ha hb hr => by
  obtain ⟨c, hc, h1, h2⟩ := dbl_iff.1 hr
  exact ht a c b ha hc hb (hs a c ha hc h1) (hs c b hc hb h2)
theorem dbl_fix {r : Nat → Nat → Bool} (h : relA (dbl r) = relA r) : Trans8 r := fun a b c ha hb hc h1 h2 => by
  rw [← relA_inj h a c ha hc]
  exact dbl_iff.2 ⟨b, hb, h1, h2⟩
theorem cnt_dbl {r : Nat → Nat → Bool} (h : Rf r) (hn : relA (dbl r) ≠ relA r) : cnt r < cnt (dbl r) := by
  refine countP_lt _ (fun i hi hp => dbl_sub h _ _ (by simp at hi; omega) (by omega) hp) ?_
  false_or_by_contra
  rename_i hh
  apply hn
  apply relA_congr
  intro a b ha hb
  rw [Bool.eq_iff_iff]
  refine ⟨fun hd => ?_, dbl_sub h a b ha hb⟩
  cases hr : r a b with
  | true => rfl
  | false =>
    exact absurd ⟨a * 8 + b, by simp; omega, by rw [show (a * 8 + b) / 8 = a by omega, show (a * 8 + b) % 8 = b by omega]; exact hr, by rw [show (a * 8 + b) / 8 = a by omega, show (a * 8 + b) % 8 = b by omega]; exact hd⟩ hh
/-- how far closed has come -/
structure CloTo (r s : Nat → Nat → Bool) : Prop where
  rf : Rf s
  sub : Sub8 r s
  least : ∀ t, Trans8 t → Sub8 r t → Sub8 s t
theorem CloTo.start {r : Nat → Nat → Bool} (h : Rf r) : CloTo r r := ⟨h, fun _ _ _ _ h => h, fun _ _ h => h⟩
theorem CloTo.next {r s : Nat → Nat → Bool} (h : CloTo r s) : CloTo r (dbl s) := ⟨dbl_rf h.rf, fun a b ha hb hr => dbl_sub h.rf a b ha hb (h.sub a b ha hb hr), fun t ht hs => dbl_least ht (h.least t ht hs)⟩
theorem CloTo.fin {r s : Nat → Nat → Bool} (h : CloTo r s) (he : relA (dbl s) = relA s) : relA s = relA (clo r) := relA_congr fun a b ha hb => by
  rw [Bool.eq_iff_iff, clo_iff]
  exact ⟨fun hs t ht hr => h.least t ht hr a b ha hb hs, fun hr => hr s (dbl_fix he) h.sub⟩
structure MemC (w wr : World) (s : Nat → Nat → Bool) : Prop where
  below : Below w.heap.size w wr
  b0 : wr.heap[w.heap.size]? = some (.cells (relA s) 81)
  b1 : ∃ z, wr.heap[w.heap.size + 1]? = some (.cells (relA z) 81)
theorem MemC.go {w wr w1 : World} {s : Nat → Nat → Bool} (h : MemC w wr s) (hb : Below wr.heap.size wr w1) : MemC w w1 s :=
  ⟨bt h.below hb, bkeep hb h.b0, h.b1.elim fun z hz => ⟨z, bkeep hb hz⟩⟩
theorem MemC.put {w wr : World} {s : Nat → Nat → Bool} (h : MemC w wr s) (t : Nat → Nat → Bool) : MemC w (wr.setRow w.heap.size (relA t)) t :=
  ⟨below_setRow h.below (by omega) _, setRow_heap _ _ _ _ _ _ h.b0, h.b1.elim fun z hz => ⟨z, (setRow_other _ _ _ _ (by omega)).trans hz⟩⟩
theorem MemC.start (w : World) (r : Nat → Nat → Bool) : MemC w ((w.alloc (.cells (relA r) 81)).alloc (.cells (relA fun _ _ => false) 81)) r := by
  have s1 : (w.alloc (.cells (relA r) 81)).heap.size = w.heap.size + 1 := al_size _ _
  refine ⟨((Below.refl _ _).alloc (Nat.le_refl _) _).alloc (by simp) _, ?_, ⟨fun _ _ => false, ?_⟩⟩
  · rw [al_old _ _ _ (by rw [s1]; omega), al_new]
  · rw [← s1, al_new]
set_option maxHeartbeats 1000000 in
theorem closed_any (r : Nat → Nat → Bool) (w : World) (hr : Rf r) :
    Calls Try.prog 43 #[.agg (relA r)] w fun e w' => e = .returned (.agg (relA (clo r))) ∧ Below w.heap.size w w' := by
  go_enter Try.func43, Try.ntmps43
  go_wp2_with (refine wpList_allocR rfl rfl ?_)
  go_frame
  rw [al_size]
  go_loopg [3] (64 - cnt r) (fun k _ wr => ∃ s, k = 64 - cnt s ∧ MemC w wr s ∧ CloTo r s)
  case atStart => exact ⟨r, rfl, MemC.start w r, CloTo.start hr⟩
  case round =>
    obtain ⟨s, hk, hm, hc⟩ := hrel
    have HK := Lib.hid hk
    clear hk
    have hEq := fun (w : World) (r s : Nat → Nat → Bool) => run_eqR w r s
    cases he : eqR (dbl s) s
    · go_wp2_with (first | (refine wpList_loadR rfl _ rfl _ rfl s _ _ hm.b0 ?_) | (go_at_call 62; refine (doubled_any s _).mono ?_; rintro e w1 ⟨rfl, hb1⟩; have hm1 := hm.go hb1) | (refine wpList_allocR rfl rfl ?_) | (refine wpList_storeRn rfl _ _ rfl _ _ rfl rfl _ ?_; have hm2 := hm1.go ((Below.refl _ _).alloc (Nat.le_refl _) (.cells (relA (dbl s)) 81))) | (refine wpList_loadR rfl _ rfl _ rfl (dbl s) _ _ (al_new _ _) ?_) | (refine wpList_loadR rfl _ rfl _ rfl s _ _ hm2.b0 ?_) | (refine wpList_storeR rfl _ _ rfl _ s (dbl s) rfl rfl _ hm2.b0 ?_))
      go_frame
      go_roundg (64 - cnt (dbl s))
      case measure =>
        have h1 := cnt_dbl hc.rf (fun h => by rw [eqR_iff.2 h] at he; cases he)
        have h2 := cnt_le (dbl s)
        rw [HK.out]
        omega
      case rel => exact ⟨dbl s, rfl, hm2.put _, hc.next⟩
    · obtain ⟨z, hz⟩ := hm.b1
      have HZ := Lib.hid hz
      clear hz
      go_wp2_with (first | (refine wpList_loadR rfl _ rfl _ rfl s _ _ hm.b0 ?_) | (go_at_call 62; refine (doubled_any s _).mono ?_; rintro e w1 ⟨rfl, hb1⟩; have hm1 := hm.go hb1) | (refine wpList_allocR rfl rfl ?_) | (refine wpList_storeRn rfl _ _ rfl _ _ rfl rfl _ ?_; have hm2 := hm1.go ((Below.refl _ _).alloc (Nat.le_refl _) (.cells (relA (dbl s)) 81))) | (refine wpList_loadR rfl _ rfl _ rfl (dbl s) _ _ (al_new _ _) ?_) | (refine wpList_loadR rfl _ rfl _ rfl s _ _ hm2.b0 ?_) | (refine wpList_storeR rfl _ _ rfl _ s (dbl s) rfl rfl _ hm2.b0 ?_) | (refine wpList_storeR rfl _ _ rfl _ z s rfl rfl _ (bkeep ((Below.refl _ _).alloc (Nat.le_refl _) _) (bkeep hb1 HZ.out)) ?_))
      refine bodyPost_ret (v := .agg (relA s)) (resultR rfl _ _ _ _ s _ rfl (setRow_heap _ _ _ _ _ _ (bkeep ((Below.refl _ _).alloc (Nat.le_refl _) _) (bkeep hb1 HZ.out)))) rfl ⟨by rw [hc.fin (eqR_iff.1 he)], below_setRow hm2.below (by omega) _⟩
end Lv
end Go.Proofs.Ytelladgeehlkpaa
namespace Go.Proofs.Ytelladgeehlkpaa
open Go.RowKit
namespace Lv
noncomputable def cl (ps : List (Int × Int)) (n : Nat) : Nat → Nat → Bool := clo (pairT ps n)
/-- no two unlike levels are below one another -/
def Anti (c : Nat → Nat → Bool) (n : Nat) : Prop := relA (shr c (trn c)) = relA (pairT [] n)
def foldT (j : Nat → Nat → Nat) (k : Nat) : Nat := (List.range k).foldl (fun t a => j t a) 0
theorem foldT_succ (j : Nat → Nat → Nat) (k : Nat) : foldT j (k + 1) = j (foldT j k) k := by simp [foldT, List.range_succ]
def latOf (ss : List ByteArray) (n : Nat) (c : Nat → Nat → Bool) : Array Value := latA n (nmOf ss) c (joinT c n) (joinT (trn c) n) (foldT (joinT (trn c) n) n) (foldT (joinT c n) n)
structure Good (ss : List ByteArray) (ps : List (Int × Int)) : Prop where
  names : NamesP ss
  pairs : prB ps ss.length = true
  anti : Anti (cl ps ss.length) ss.length
  joins : AllL (cl ps ss.length) ss.length
  meets : AllL (trn (cl ps ss.length)) ss.length
open Classical in
noncomputable def errOf (ss : List ByteArray) (ps : List (Int × Int)) : Int := if ¬ NamesP ss then 10 else if prB ps ss.length = false then 2 else if Good ss ps then 0 else 9
def NewPost (ss : List ByteArray) (ps : List (Int × Int)) (w : World) (e : Ending) (w' : World) : Prop :=
  Below w.heap.size w w' ∧ ((Good ss ps ∧ ∃ g, e = .returned (.tuple #[.pointer (some ⟨g, 0, none⟩), .int .i64 0]) ∧ w.heap.size ≤ g ∧ w'.heap[g]? = some (.cells (latOf ss ss.length (cl ps ss.length)) 85)) ∨
    (¬ Good ss ps ∧ e = .returned (.tuple #[.pointer none, .int .i64 (errOf ss ps)])))
theorem pairT_rf (ps : List (Int × Int)) (n : Nat) (h : prB ps n = true) : Rf (pairT ps n) := by
  intro a b ha hb hr
  unfold pairT at hr ⊢
  simp only [Bool.or_eq_true, Bool.and_eq_true, decide_eq_true_eq, List.any_eq_true] at hr ⊢
  rcases hr with ⟨_, h2⟩ | ⟨x, hx, h1, _⟩
  · exact .inl ⟨trivial, h2⟩
  · obtain ⟨i, hi⟩ := List.getElem?_of_mem hx
    have := prB_get h hi
    exact .inl ⟨trivial, by omega⟩
theorem leastO_lt {r : Nat → Nat → Bool} {n a b k : Nat} (h : leastO r n a b = some k) : k < n := by
  have := List.mem_of_find?_eq_some h
  simpa using this
theorem joinT_lt {r : Nat → Nat → Bool} {n a b : Nat} (h0 : 0 < n) : joinT r n a b < n := by
  unfold joinT
  split
  · cases h : leastO r n a b with
    | none => simpa using h0
    | some k => exact leastO_lt h
  · exact h0
theorem foldT_lt {r : Nat → Nat → Bool} {n k : Nat} (h0 : 0 < n) : foldT (joinT r n) k < n := by
  cases k with
  | zero => simpa [foldT] using h0
  | succ k => rw [foldT_succ]; exact joinT_lt h0
theorem nil_pr (n : Nat) : prB [] n = true := by simp [prB]
set_option maxHeartbeats 1000000 in
theorem new_noname (vn vb vp : Value) (ss : List ByteArray) (ps : List (Int × Int)) (w : World) (hs : NamesAt w vn ss) (hl : ss.length ≤ maxLen) (hn : ¬ NamesP ss) :
    Calls Try.prog 21 #[.agg #[vn, vb, vp]] w (NewPost ss ps w) := by
  have g1 := namesB_false hn
  have HN := Lib.hid hn
  clear hn
  go_enter Try.func21, Try.ntmps21
  go_wp2_with fail
  refine (namesRight_any vn ss _ (hs.go ((Below.refl _ _).alloc (Nat.le_refl _) _)) hl).mono ?_
  rintro e w' ⟨rfl, rfl⟩
  go_wp2
  go_ret2
  have he : errOf ss ps = 10 := by simp [errOf, HN.out]
  exact ⟨(Below.refl _ _).alloc (Nat.le_refl _) _, .inr ⟨fun h => HN.out h.names, by rw [he]; rfl⟩⟩
set_option maxHeartbeats 1000000 in
theorem new_nopair (vn vb vp : Value) (ss : List ByteArray) (ps : List (Int × Int)) (w : World) (hs : NamesAt w vn ss) (hp : PairsAt w vb ps) (hl : ss.length ≤ maxLen) (hl2 : ps.length ≤ maxLen) (hn : NamesP ss) (hr : prB ps ss.length = false) :
    Calls Try.prog 21 #[.agg #[vn, vb, vp]] w (NewPost ss ps w) := by
  have g1 := namesB_true hn
  have HN := Lib.hid hn
  clear hn
  obtain ⟨a, cap, rfl, hcap, hc⟩ := hs.form
  have HC := Lib.hid hc
  clear hc
  go_enter Try.func21, Try.ntmps21
  go_wp2_with fail
  refine (namesRight_any _ ss _ (hs.go ((Below.refl _ _).alloc (Nat.le_refl _) _)) hl).mono ?_
  rintro e w' ⟨rfl, rfl⟩
  go_wp2_with fail
  refine (pairsRight_any vb ps ss.length _ (hp.go ((Below.refl _ _).alloc (Nat.le_refl _) _)) hl2).mono ?_
  rintro e w1 ⟨rfl, hb1⟩
  go_wp2
  go_ret2
  have he : errOf ss ps = 2 := by simp [errOf, HN.out, hr]
  exact ⟨bt ((Below.refl _ _).alloc (Nat.le_refl _) _) hb1, .inr ⟨fun h => (Bool.false_ne_true (hr.symm.trans h.pairs)), by rw [he]; rfl⟩⟩
set_option maxHeartbeats 2000000 in
set_option maxRecDepth 100000 in
theorem new_rest (vn vb vp : Value) (ss : List ByteArray) (ps : List (Int × Int)) (w : World) (hs : NamesAt w vn ss) (hp : PairsAt w vb ps) (hl : ss.length ≤ maxLen) (hl2 : ps.length ≤ maxLen) (hn : NamesP ss) (hr : prB ps ss.length = true) :
    Calls Try.prog 21 #[.agg #[vn, vb, vp]] w (NewPost ss ps w) := by
  have g1 := namesB_true hn
  have n8 : ss.length ≤ 8 := hn.2.1
  have n1 : 1 ≤ ss.length := hn.1
  have HN := Lib.hid hn
  have HR := Lib.hid hr
  clear hn
  obtain ⟨a, cap, rfl, hcap, hc⟩ := hs.form
  obtain ⟨b, off, rfl, _, _⟩ := hc 0 _ (List.getElem?_eq_getElem n1)
  have HC := Lib.hid hc
  clear hc
  have hEq := fun (w : World) (r s : Nat → Nat → Bool) => run_eqR w r s
  go_enter Try.func21, Try.ntmps21
  go_wp2_with fail
  have hb0 : Below w.heap.size w (w.alloc (Obj.cells #[Value.slice (some ⟨b, off, none⟩) ss.length cap, vb, vp] 56)) := (Below.refl _ _).alloc (Nat.le_refl _) _
  have f0 := al_new w (Obj.cells #[Value.slice (some ⟨b, off, none⟩) ss.length cap, vb, vp] 56)
  have F0 := Lib.hid f0
  clear f0
  refine (namesRight_any _ ss _ (hs.go hb0) hl).mono ?_
  rintro e w' ⟨rfl, rfl⟩
  go_wp2_with fail
  refine (pairsRight_any vb ps ss.length _ (hp.go hb0) hl2).mono ?_
  rintro e w1 ⟨rfl, hb1⟩
  have k1 := bt hb0 hb1
  have F1 := Lib.hid (bkeep hb1 F0.out)
  have c1 := cell_of_row w1 w.heap.size 1 _ _ _ F1.out
  clear hb0 hb1 F0
  go_wp2_with fail
  refine (paired_any vb ps ss.length _ n8 (hp.go k1) HR.out).mono ?_
  rintro e w2 ⟨rfl, hb2⟩
  have k2 := bt k1 hb2
  have F2 := Lib.hid (bkeep hb2 F1.out)
  clear k1 hb2 F1 c1
  go_wp2_with fail
  refine (closed_any _ _ (pairT_rf ps ss.length HR.out)).mono ?_
  rintro e w3 ⟨rfl, hb3⟩
  have k3 := bt k2 hb3
  have F3 := Lib.hid (bkeep hb3 F2.out)
  clear k2 hb3 F2
  generalize hc0 : clo (pairT ps ss.length) = c
  have HC0 := Lib.hid hc0
  clear hc0
  go_wp2_with (first | (refine wpList_allocR rfl rfl ?_) | (refine wpList_storeRn rfl _ _ rfl _ _ rfl rfl _ ?_) | (refine wpList_loadR rfl _ rfl _ rfl c _ _ (al_new _ _) ?_))
  refine (turned_any c _).mono ?_
  rintro e w4 ⟨rfl, hb4⟩
  have hb3 : Below w3.heap.size w3 (w3.alloc (.cells (relA c) 81)) := (Below.refl _ _).alloc (Nat.le_refl _) _
  have k4 := bt (bt k3 hb3) hb4
  have F4 := Lib.hid (bkeep hb4 (bkeep hb3 F3.out))
  have G5 := Lib.hid (bkeep hb4 (al_new w3 (.cells (relA c) 81)))
  clear k3 hb3 hb4 F3
  generalize w3.heap.size = g5 at G5 ⊢
  go_wp2_with (first | (refine wpList_allocR rfl rfl ?_) | (refine wpList_storeRn rfl _ _ rfl _ _ rfl rfl _ ?_) | (refine wpList_loadR rfl _ rfl _ rfl (trn c) _ _ (al_new _ _) ?_) | (refine wpList_loadR rfl _ rfl _ rfl c _ _ (bkeep ((Below.refl _ _).alloc (Nat.le_refl _) _) G5.out) ?_))
  refine (shared_any c (trn c) _).mono ?_
  rintro e w5 ⟨rfl, hb5⟩
  have hb4 : Below w4.heap.size w4 (w4.alloc (.cells (relA (trn c)) 81)) := (Below.refl _ _).alloc (Nat.le_refl _) _
  have k5 := bt (bt k4 hb4) hb5
  have F5 := Lib.hid (bkeep hb5 (bkeep hb4 F4.out))
  have G5' := Lib.hid (bkeep hb5 (bkeep hb4 G5.out))
  have G6 := Lib.hid (bkeep hb5 (al_new w4 (.cells (relA (trn c)) 81)))
  clear k4 hb4 hb5 F4 G5
  generalize w4.heap.size = g6 at G6 ⊢
  go_wp2_with fail
  refine (paired_any _ [] ss.length _ n8 (PairsAt.nil _) (nil_pr _)).mono ?_
  rintro e w6 ⟨rfl, hb6⟩
  have k6 := bt k5 hb6
  have F6 := Lib.hid (bkeep hb6 F5.out)
  have G5 := Lib.hid (bkeep hb6 G5'.out)
  have G6' := Lib.hid (bkeep hb6 G6.out)
  clear k5 hb6 F5 G5' G6
  cases hq : eqR (shr c (trn c)) (pairT [] ss.length)
  · go_wp2
    go_ret2
    have hng : ¬ Good ss ps := fun h => by
      have h1 := h.anti
      unfold Anti cl at h1
      rw [HC0.out, ← eqR_iff, hq] at h1
      cases h1
    have he : errOf ss ps = 9 := by simp [errOf, HN.out, HR.out, hng]
    exact ⟨k6, .inr ⟨hng, by rw [he]; rfl⟩⟩
  · go_wp2_with (first | (refine wpList_loadR rfl _ rfl _ rfl c _ _ G5.out ?_))
    refine (leasts_any c ss.length _ n8).mono ?_
    rintro e w7 ⟨hb7, h7⟩
    have k7 := bt k6 hb7
    have F7 := Lib.hid (bkeep hb7 F6.out)
    have G5' := Lib.hid (bkeep hb7 G5.out)
    have G6 := Lib.hid (bkeep hb7 G6'.out)
    clear k6 hb7 F6 G5 G6'
    rcases h7 with ⟨hj, rfl⟩ | ⟨hj, rfl⟩
    · go_wp2_with (first | (refine wpList_allocC rfl rfl ?_) | (refine wpList_storeCn rfl _ _ rfl _ _ rfl rfl _ ?_) | (refine wpList_loadR rfl _ rfl _ rfl (trn c) _ _ (bkeep ((Below.refl _ _).alloc (Nat.le_refl _) _) G6.out) ?_))
      refine (leasts_any (trn c) ss.length _ n8).mono ?_
      rintro e w8 ⟨hb8, h8⟩
      have hb7 : Below w7.heap.size w7 (w7.alloc (.cells (chA (joinT c ss.length)) 83)) := (Below.refl _ _).alloc (Nat.le_refl _) _
      have k8 := bt (bt k7 hb7) hb8
      have F8 := Lib.hid (bkeep hb8 (bkeep hb7 F7.out))
      have G5 := Lib.hid (bkeep hb8 (bkeep hb7 G5'.out))
      have G7 := Lib.hid (bkeep hb8 (al_new w7 (.cells (chA (joinT c ss.length)) 83)))
      clear k7 hb7 hb8 F7 G5' G6
      generalize w7.heap.size = g7 at G7 ⊢
      rcases h8 with ⟨hm, rfl⟩ | ⟨hm, rfl⟩
      · go_wp2_with (first | (refine wpList_allocC rfl rfl ?_) | (refine wpList_storeCn rfl _ _ rfl _ _ rfl rfl _ ?_; have hb8 : Below w8.heap.size w8 (w8.alloc (.cells (chA (joinT (trn c) ss.length)) 83)) := (Below.refl _ _).alloc (Nat.le_refl _) _) | (refine wpList_loadR rfl _ rfl _ rfl c _ _ (bkeep hb8 G5.out) ?_) | (refine wpList_loadC rfl _ rfl _ rfl (joinT c ss.length) _ _ (bkeep hb8 G7.out) ?_) | (refine wpList_loadC rfl _ rfl _ rfl (joinT (trn c) ss.length) _ _ (al_new _ _) ?_) | (refine wpList_buildL rfl _ _ _ _ rfl ss.length c (joinT c ss.length) (joinT (trn c) ss.length) rfl rfl rfl rfl ?_))
        have hbL : Below (w8.alloc (.cells (chA (joinT (trn c) ss.length)) 83)).heap.size (w8.alloc (.cells (chA (joinT (trn c) ss.length)) 83)) ((w8.alloc (.cells (chA (joinT (trn c) ss.length)) 83)).alloc (.cells (latA ss.length (fun _ => ByteArray.empty) c (joinT c ss.length) (joinT (trn c) ss.length) 0 0) 85)) := (Below.refl _ _).alloc (Nat.le_refl _) _
        have k9 := bt (bt k8 hb8) hbL
        have F9 := Lib.hid (bkeep hbL (bkeep hb8 F8.out))
        have G7' := Lib.hid (bkeep hbL (bkeep hb8 G7.out))
        have G9 := Lib.hid (bkeep hbL (al_new w8 (.cells (chA (joinT (trn c) ss.length)) 83)))
        have GL := Lib.hid (al_new (w8.alloc (.cells (chA (joinT (trn c) ss.length)) 83)) (.cells (latA ss.length (fun _ => ByteArray.empty) c (joinT c ss.length) (joinT (trn c) ss.length) 0 0) 85))
        have hgl : w.heap.size ≤ w8.heap.size + 1 := Nat.le_trans k8.size (Nat.le_succ w8.heap.size)
        have hg9 : w8.heap.size < w8.heap.size + 1 := Nat.lt_succ_self _
        have hg7 : g7 < w8.heap.size := lt_of_some G7.out
        rw [al_size] at GL
        clear hbL hb8 k8 F8 G5 G7
        generalize (w8.alloc (.cells (chA (joinT (trn c) ss.length)) 83)).alloc (.cells (latA ss.length (fun _ => ByteArray.empty) c (joinT c ss.length) (joinT (trn c) ss.length) 0 0) 85) = w9 at k9 F9 G7' G9 GL ⊢
        generalize w8.heap.size + 1 = gl at GL hgl hg9 ⊢
        generalize w8.heap.size = g9 at G9 hg9 hg7 ⊢
        have c0 := cell_of_row w9 w.heap.size 0 _ _ _ F9.out
        have hsrc : ∀ (i : Nat) (x : ByteArray), ss[i]? = some x → w9.cell? ⟨b, off + i, none⟩ = some (.string x) := fun i x hx => by
          obtain ⟨b', off', e, h1, _⟩ := HC.out i x hx
          cases e
          exact cellB k9 h1
        have HSRC := Lib.hid hsrc
        clear hsrc
        go_region_law (refine step_copyL rfl _ _ rfl gl b off cap ss ss.length c (joinT c ss.length) (joinT (trn c) ss.length) 0 0 n8 rfl rfl GL.out HSRC.out ?_)
        have k10 := below_setRow k9.drew hgl (latA ss.length (nmOf ss) c (joinT c ss.length) (joinT (trn c) ss.length) 0 0)
        have GL' := Lib.hid (setRow_heap w9.drew gl _ (latA ss.length (nmOf ss) c (joinT c ss.length) (joinT (trn c) ss.length) 0 0) _ _ GL.out)
        have G7 := Lib.hid ((setRow_other w9.drew gl g7 (latA ss.length (nmOf ss) c (joinT c ss.length) (joinT (trn c) ss.length) 0 0) (by omega)).trans G7'.out)
        have G9' := Lib.hid ((setRow_other w9.drew gl g9 (latA ss.length (nmOf ss) c (joinT c ss.length) (joinT (trn c) ss.length) 0 0) (by omega)).trans G9.out)
        generalize w9.drew.setRow gl (latA ss.length (nmOf ss) c (joinT c ss.length) (joinT (trn c) ss.length) 0 0) = w10 at k10 GL' G7 G9' ⊢
        clear GL G9 G7' k9 F9 c0 HSRC
        have hgood : Good ss ps := ⟨HN.out, HR.out, by unfold Anti cl; rw [HC0.out]; exact eqR_iff.1 hq, by unfold cl; rw [HC0.out]; exact hj, by unfold cl; rw [HC0.out]; exact hm⟩
        go_wp2
        go_loopw [12, 70] (fun _ i wr => ∃ k : Nat, k ≤ ss.length ∧ i = .int .i64 k ∧ Below w.heap.size w wr ∧ wr.heap[g7]? = some (.cells (chA (joinT c ss.length)) 83) ∧ wr.heap[g9]? = some (.cells (chA (joinT (trn c) ss.length)) 83) ∧ wr.heap[gl]? = some (.cells (latA ss.length (nmOf ss) c (joinT c ss.length) (joinT (trn c) ss.length) (foldT (joinT (trn c) ss.length) k) (foldT (joinT c ss.length) k)) 85)) (fun _ i _ => ss.length - (intOf i).toNat)
        case atStart => exact ⟨0, by omega, rfl, k10, G7.out, G9'.out, GL'.out⟩
        case round =>
          clear GL' G7 G9' k10
          obtain ⟨k, hk, rfl, kb, G7, G9, GL⟩ := hrel
          have h7 := Lib.hid G7
          have h9 := Lib.hid G9
          have hL := Lib.hid GL
          clear G7 G9 GL
          by_cases hlt : k < ss.length
          · have t0 : foldT (joinT c ss.length) k < ss.length := foldT_lt (by omega)
            have t1 : foldT (joinT (trn c) ss.length) k < ss.length := foldT_lt (by omega)
            have s0 := foldT_succ (joinT c ss.length) k
            have s1 := foldT_succ (joinT (trn c) ss.length) k
            have S0 := Lib.hid s0
            have S1 := Lib.hid s1
            clear s0 s1
            generalize foldT (joinT c ss.length) k = tp at t0 S0 hL
            generalize foldT (joinT (trn c) ss.length) k = bo at t1 S1 hL
            have a1 := (cell_of_row wr gl 202 _ _ _ hL.out).trans (lat_top _ _ _ _ _ _ _)
            have a2 := (cell_of_row wr gl 201 _ _ _ hL.out).trans (lat_bot _ _ _ _ _ _ _)
            have a3 := (cell_of_row wr g7 (tp * 8 + k) _ _ _ h7.out).trans (chA_at (joinT c ss.length) tp k (by omega) (by omega))
            have a4 := (cell_of_row wr g9 (bo * 8 + k) _ _ _ h9.out).trans (chA_at (joinT (trn c) ss.length) bo k (by omega) (by omega))
            have a5 := frozen_of_row wr gl 202 _ _ hL.out
            have a6 := frozen_of_row wr gl 201 _ _ hL.out
            go_wp2
            go_roundw
            case rel =>
              refine ⟨k + 1, by omega, by go_num, (kb.setCell hgl _).setCell hgl _, ?_, ?_, ?_⟩
              · rw [heap_setCell_other _ _ _ _ (by dsimp only; omega), heap_setCell_other _ _ _ _ (by dsimp only; omega)]
                exact h7.out
              · rw [heap_setCell_other _ _ _ _ (by dsimp only; omega), heap_setCell_other _ _ _ _ (by dsimp only; omega)]
                exact h9.out
              · rw [heap_setCell_same _ gl 201 _ _ _ (heap_setCell_same wr gl 202 _ _ _ hL.out), lat_set_top, lat_set_bot, S0.out, S1.out]
            case measure => simp [intOf]; omega
          · obtain rfl : k = ss.length := by omega
            go_wp2
            go_ret2
            exact ⟨kb, .inl ⟨hgood, gl, rfl, hgl, by unfold latOf cl; rw [HC0.out]; exact hL.out⟩⟩
      · go_wp2_with (first | (refine wpList_allocC rfl rfl ?_) | (refine wpList_storeCn rfl _ _ rfl _ _ rfl rfl _ ?_))
        go_ret2
        have hng : ¬ Good ss ps := fun h => hm (by have := h.meets; unfold cl at this; rwa [HC0.out] at this)
        have he : errOf ss ps = 9 := by simp [errOf, HN.out, HR.out, hng]
        exact ⟨k8.alloc k8.size _, .inr ⟨hng, by rw [he]; rfl⟩⟩
    · go_wp2_with (first | (refine wpList_allocC rfl rfl ?_) | (refine wpList_storeCn rfl _ _ rfl _ _ rfl rfl _ ?_) | (refine wpList_loadR rfl _ rfl _ rfl (trn c) _ _ (bkeep ((Below.refl _ _).alloc (Nat.le_refl _) _) G6.out) ?_))
      refine (leasts_any (trn c) ss.length _ n8).mono ?_
      rintro e w8 ⟨hb8, h8⟩
      have k8 := bt (bt k7 ((Below.refl _ _).alloc (Nat.le_refl _) _)) hb8
      clear k7 hb8 F7 G5' G6
      have hng : ¬ Good ss ps := fun h => hj (by have := h.joins; unfold cl at this; rwa [HC0.out] at this)
      have he : errOf ss ps = 9 := by simp [errOf, HN.out, HR.out, hng]
      have HE := Lib.hid he
      clear he
      rcases h8 with ⟨hm, rfl⟩ | ⟨hm, rfl⟩
      · go_wp2_with (first | (refine wpList_allocC rfl rfl ?_) | (refine wpList_storeCn rfl _ _ rfl _ _ rfl rfl _ ?_))
        go_ret2
        exact ⟨k8.alloc k8.size _, .inr ⟨hng, by rw [HE.out]; rfl⟩⟩
      · go_wp2_with (first | (refine wpList_allocC rfl rfl ?_) | (refine wpList_storeCn rfl _ _ rfl _ _ rfl rfl _ ?_))
        go_ret2
        exact ⟨k8.alloc k8.size _, .inr ⟨hng, by rw [HE.out]; rfl⟩⟩
theorem new_any (vn vb vp : Value) (ss : List ByteArray) (ps : List (Int × Int)) (w : World) (hs : NamesAt w vn ss) (hp : PairsAt w vb ps) (hl : ss.length ≤ maxLen) (hl2 : ps.length ≤ maxLen) :
    Calls Try.prog 21 #[.agg #[vn, vb, vp]] w (NewPost ss ps w) := by
  by_cases hn : NamesP ss
  · cases hr : prB ps ss.length
    · exact new_nopair vn vb vp ss ps w hs hp hl hl2 hn hr
    · exact new_rest vn vb vp ss ps w hs hp hl hl2 hn hr
  · exact new_noname vn vb vp ss ps w hs hl hn
end Lv
end Go.Proofs.Ytelladgeehlkpaa
namespace Go.Proofs.Ytelladgeehlkpaa
open Go.RowKit
namespace Lv
/-- the cells of a lattice stand at block g -/
def LatAt (w : World) (g n : Nat) (nm : Nat → ByteArray) (r : Nat → Nat → Bool) (j m : Nat → Nat → Nat) (bo tp : Nat) : Prop := w.heap[g]? = some (.cells (latA n nm r j m bo tp) 85)
section
variable (w : World) (g n : Nat) (nm : Nat → ByteArray) (r : Nat → Nat → Bool) (j m : Nat → Nat → Nat) (bo tp : Nat)
set_option maxHeartbeats 400000 in
theorem size_any (h : LatAt w g n nm r j m bo tp) :
    Calls Try.prog 60 #[.pointer (some ⟨g, 0, none⟩)] w fun e w' => e = .returned (.int .i64 (n : Nat)) ∧ w = w' := by
  have c0 := (cell_of_row w g 0 _ _ _ h).trans (lat_n _ _ _ _ _ _ _)
  go_enter Try.func60, Try.ntmps60
  go_wp2
  go_ret
  exact ⟨rfl, rfl⟩
set_option maxHeartbeats 400000 in
theorem size_nil :
    Calls Try.prog 60 #[.pointer none] w fun e w' => e = .returned (.int .i64 0) ∧ w = w' := by
  go_enter Try.func60, Try.ntmps60
  go_wp2
  go_ret
  exact ⟨rfl, rfl⟩
set_option maxHeartbeats 400000 in
theorem bottom_any (h : LatAt w g n nm r j m bo tp) :
    Calls Try.prog 17 #[.pointer (some ⟨g, 0, none⟩)] w fun e w' => e = .returned (.int .i64 (bo : Nat)) ∧ w = w' := by
  have c0 := (cell_of_row w g 201 _ _ _ h).trans (lat_bot _ _ _ _ _ _ _)
  go_enter Try.func17, Try.ntmps17
  go_wp2
  go_ret
  exact ⟨rfl, rfl⟩
set_option maxHeartbeats 400000 in
theorem bottom_nil :
    Calls Try.prog 17 #[.pointer none] w fun e w' => e = .returned (.int .i64 0) ∧ w = w' := by
  go_enter Try.func17, Try.ntmps17
  go_wp2
  go_ret
  exact ⟨rfl, rfl⟩
set_option maxHeartbeats 400000 in
theorem top_any (h : LatAt w g n nm r j m bo tp) :
    Calls Try.prog 40 #[.pointer (some ⟨g, 0, none⟩)] w fun e w' => e = .returned (.int .i64 (tp : Nat)) ∧ w = w' := by
  have c0 := (cell_of_row w g 202 _ _ _ h).trans (lat_top _ _ _ _ _ _ _)
  go_enter Try.func40, Try.ntmps40
  go_wp2
  go_ret
  exact ⟨rfl, rfl⟩
set_option maxHeartbeats 400000 in
theorem top_nil :
    Calls Try.prog 40 #[.pointer none] w fun e w' => e = .returned (.int .i64 0) ∧ w = w' := by
  go_enter Try.func40, Try.ntmps40
  go_wp2
  go_ret
  exact ⟨rfl, rfl⟩
set_option maxHeartbeats 400000 in
theorem is_any (a : Int) (h : LatAt w g n nm r j m bo tp) :
    Calls Try.prog 39 #[.pointer (some ⟨g, 0, none⟩), .int .i64 a] w fun e w' => e = .returned (.bool (inI a n)) ∧ w = w' := by
  go_enter Try.func39, Try.ntmps39
  go_wp2_with (first | (go_at_call 60; refine (size_any _ _ _ _ _ _ _ _ _ h).mono ?_; rintro e w' ⟨rfl, rfl⟩) | (go_at_call 59; refine (within_any _ _ _).mono ?_; rintro e w' ⟨rfl, rfl⟩))
  go_ret
  exact ⟨rfl, rfl⟩
set_option maxHeartbeats 400000 in
theorem is_nil (a : Int) :
    Calls Try.prog 39 #[.pointer none, .int .i64 a] w fun e w' => e = .returned (.bool false) ∧ w = w' := by
  go_enter Try.func39, Try.ntmps39
  go_wp2_with (first | (go_at_call 60; refine (size_nil _).mono ?_; rintro e w' ⟨rfl, rfl⟩) | (go_at_call 59; refine (within_any _ _ _).mono ?_; rintro e w' ⟨rfl, rfl⟩))
  go_ret
  exact ⟨ret_bool (by simp [inI]), rfl⟩
def leqB (n : Nat) (r : Nat → Nat → Bool) (a b : Int) : Bool := inI a n && inI b n && r a.toNat b.toNat
set_option maxHeartbeats 400000 in
theorem leq_any (a b : Int) (h : LatAt w g n nm r j m bo tp) (hn : n ≤ 8) :
    Calls Try.prog 18 #[.pointer (some ⟨g, 0, none⟩), .int .i64 a, .int .i64 b] w fun e w' => e = .returned (.bool (leqB n r a b)) ∧ w = w' := by
  cases h1 : inI a n
  · go_enter Try.func18, Try.ntmps18
    go_wp2_with (go_at_call 39; refine (is_any _ _ _ _ _ _ _ _ _ _ h).mono ?_; rintro e w' ⟨rfl, rfl⟩)
    go_ret
    exact ⟨ret_bool (by simp [leqB, h1]), rfl⟩
  · cases h2 : inI b n
    · go_enter Try.func18, Try.ntmps18
      go_wp2_with (go_at_call 39; refine (is_any _ _ _ _ _ _ _ _ _ _ h).mono ?_; rintro e w' ⟨rfl, rfl⟩)
      go_ret
      exact ⟨ret_bool (by simp [leqB, h2]), rfl⟩
    · have i1 : 0 ≤ a ∧ a < n := by simpa [inI] using h1
      have i2 : 0 ≤ b ∧ b < n := by simpa [inI] using h2
      obtain ⟨x, rfl⟩ := Int.eq_ofNat_of_zero_le i1.1
      obtain ⟨y, rfl⟩ := Int.eq_ofNat_of_zero_le i2.1
      have c0 := (cell_of_row w g (9 + x * 8 + y) _ _ _ h).trans (lat_r _ _ _ _ _ _ _ x y (by omega) (by omega))
      go_enter Try.func18, Try.ntmps18
      go_wp2_with (go_at_call 39; refine (is_any _ _ _ _ _ _ _ _ _ _ h).mono ?_; rintro e w' ⟨rfl, rfl⟩)
      go_ret
      exact ⟨ret_bool (by simp [leqB, h1, h2]), rfl⟩
set_option maxHeartbeats 400000 in
theorem leq_nil (a b : Int) :
    Calls Try.prog 18 #[.pointer none, .int .i64 a, .int .i64 b] w fun e w' => e = .returned (.bool false) ∧ w = w' := by
  go_enter Try.func18, Try.ntmps18
  go_wp2_with (go_at_call 39; refine (is_nil _ _).mono ?_; rintro e w' ⟨rfl, rfl⟩)
  go_ret
  exact ⟨rfl, rfl⟩
def joinV (n : Nat) (j : Nat → Nat → Nat) (tp : Nat) (a b : Int) : Nat := if inI a n && inI b n then j a.toNat b.toNat else tp
set_option maxHeartbeats 400000 in
theorem join_any (a b : Int) (h : LatAt w g n nm r j m bo tp) (hn : n ≤ 8) :
    Calls Try.prog 16 #[.pointer (some ⟨g, 0, none⟩), .int .i64 a, .int .i64 b] w fun e w' => e = .returned (.int .i64 (joinV n j tp a b : Nat)) ∧ w = w' := by
  cases h1 : inI a n
  · go_enter Try.func16, Try.ntmps16
    go_wp2_with (first | (go_at_call 39; refine (is_any _ _ _ _ _ _ _ _ _ _ h).mono ?_; rintro e w' ⟨rfl, rfl⟩) | (go_at_call 40; refine (top_any _ _ _ _ _ _ _ _ _ h).mono ?_; rintro e w' ⟨rfl, rfl⟩))
    go_ret
    exact ⟨by simp [joinV, h1], rfl⟩
  · cases h2 : inI b n
    · go_enter Try.func16, Try.ntmps16
      go_wp2_with (first | (go_at_call 39; refine (is_any _ _ _ _ _ _ _ _ _ _ h).mono ?_; rintro e w' ⟨rfl, rfl⟩) | (go_at_call 40; refine (top_any _ _ _ _ _ _ _ _ _ h).mono ?_; rintro e w' ⟨rfl, rfl⟩))
      go_ret
      exact ⟨by simp [joinV, h2], rfl⟩
    · have i1 : 0 ≤ a ∧ a < n := by simpa [inI] using h1
      have i2 : 0 ≤ b ∧ b < n := by simpa [inI] using h2
      obtain ⟨x, rfl⟩ := Int.eq_ofNat_of_zero_le i1.1
      obtain ⟨y, rfl⟩ := Int.eq_ofNat_of_zero_le i2.1
      have c0 := (cell_of_row w g (73 + x * 8 + y) _ _ _ h).trans (lat_j _ _ _ _ _ _ _ x y (by omega) (by omega))
      go_enter Try.func16, Try.ntmps16
      go_wp2_with (go_at_call 39; refine (is_any _ _ _ _ _ _ _ _ _ _ h).mono ?_; rintro e w' ⟨rfl, rfl⟩)
      go_ret
      exact ⟨by simp [joinV, h1, h2], rfl⟩
set_option maxHeartbeats 400000 in
theorem join_nil (a b : Int) :
    Calls Try.prog 16 #[.pointer none, .int .i64 a, .int .i64 b] w fun e w' => e = .returned (.int .i64 0) ∧ w = w' := by
  go_enter Try.func16, Try.ntmps16
  go_wp2_with (first | (go_at_call 39; refine (is_nil _ _).mono ?_; rintro e w' ⟨rfl, rfl⟩) | (go_at_call 40; refine (top_nil _).mono ?_; rintro e w' ⟨rfl, rfl⟩))
  go_ret
  exact ⟨rfl, rfl⟩
def meetV (n : Nat) (m : Nat → Nat → Nat) (bo : Nat) (a b : Int) : Nat := if inI a n && inI b n then m a.toNat b.toNat else bo
def textV (n : Nat) (nm : Nat → ByteArray) (a : Int) : ByteArray := if inI a n then nm a.toNat else ByteArray.empty
def FindP (n : Nat) (nm : Nat → ByteArray) (s : ByteArray) (k : Nat) (ok : Bool) : Prop :=
  (ok = true ∧ k < n ∧ nm k = s ∧ ∀ i, i < k → nm i ≠ s) ∨ (ok = false ∧ k = 0 ∧ ∀ i, i < n → nm i ≠ s)
def FindPost (n : Nat) (nm : Nat → ByteArray) (s : ByteArray) (w : World) (e : Ending) (w' : World) : Prop := w = w' ∧ ∃ (k : Nat) (ok : Bool), e = .returned (.tuple #[.int .i64 (k : Nat), .bool ok]) ∧ FindP n nm s k ok
end
end Lv
end Go.Proofs.Ytelladgeehlkpaa
