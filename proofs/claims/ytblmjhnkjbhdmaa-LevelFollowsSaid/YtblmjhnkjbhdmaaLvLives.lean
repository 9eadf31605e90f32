/- The policy low below high, and the chapter's example of it. No condition. -/
import Derived.Test.YtblmjhnkjbhdmaaLvNew
import Derived.Test.YtblmjhnkjbhdmaaLvMeth
namespace Go.Proofs.Ytblmjhnkjbhdmaa
open Go.RowKit
namespace Lv
def low : ByteArray := ⟨#[108, 111, 119]⟩
def high : ByteArray := ⟨#[104, 105, 103, 104]⟩
def SortPost (w : World) (e : Ending) (w' : World) : Prop := Below w.heap.size w w' ∧ ∃ vn vb vp, e = .returned (.agg #[vn, vb, vp]) ∧ NamesAt w' vn [low, high] ∧ PairsAt w' vb [(0, 1)]
theorem three (w : World) (A B C : Obj) : Below w.heap.size w (((w.alloc A).alloc B).alloc C) ∧ (((w.alloc A).alloc B).alloc C).heap[w.heap.size]? = some A ∧ (((w.alloc A).alloc B).alloc C).heap[w.heap.size + 1]? = some B ∧ (((w.alloc A).alloc B).alloc C).heap[w.heap.size + 1 + 1]? = some C := by
  have s1 := al_size w A
  have s2 := al_size (w.alloc A) B
  refine ⟨(((Below.refl _ _).alloc (Nat.le_refl _) _).alloc (by rw [s1]; omega) _).alloc (by rw [s2, s1]; omega) _, ?_, ?_, ?_⟩
  · rw [al_old _ _ _ (by rw [s2, s1]; omega), al_old _ _ _ (by rw [s1]; omega), al_new]
  · rw [al_old _ _ _ (by rw [s2, s1]; omega), ← s1, al_new]
  · rw [← s1, ← s2, al_new]
set_option maxHeartbeats 400000 in
theorem sort0 (w : World) : Calls Try.prog 26 #[.int .i64 0] w (SortPost w) := by
  go_enter Try.func26, Try.ntmps26
  go_wp2
  obtain ⟨hb, h0, h1, h2⟩ := three w (Obj.cells #[Value.slice (some ⟨w.heap.size + 1, 0, none⟩) 2 2, Value.slice (some ⟨w.heap.size + 1 + 1, 0, none⟩) 1 1, Value.slice none 0 0] 26) (Obj.cells #[Value.string low, Value.string high] 9) (Obj.cells #[Value.int IntKind.i64 0, Value.int IntKind.i64 1] 44)
  refine bodyPost_ret (v := .agg #[Value.slice (some ⟨w.heap.size + 1, 0, none⟩) 2 2, Value.slice (some ⟨w.heap.size + 1 + 1, 0, none⟩) 1 1, Value.slice none 0 0]) (by simp [results, Try.results26, go_sem]) rfl ⟨hb, _, _, _, rfl, ?_, ?_⟩
  · refine ⟨_, _, rfl, Nat.le_refl _, fun i x hx => ⟨_, _, rfl, ?_⟩⟩
    match i, hx with
    | 0, hx => cases hx; exact ⟨cell_of_row _ _ _ _ _ _ h1, by decide⟩
    | 1, hx => cases hx; exact ⟨cell_of_row _ _ _ _ _ _ h1, by decide⟩
    | i + 2, hx => simp at hx
  · refine ⟨_, _, rfl, fun i x hx => ⟨_, _, rfl, ?_⟩⟩
    match i, hx with
    | 0, hx => cases hx; exact ⟨cell_of_row _ _ _ _ _ _ h2, cell_of_row _ _ _ _ _ _ h2⟩
    | i + 1, hx => simp at hx
/-! the lattice of that policy -/
def p01 : Nat → Nat → Bool := pairT [(0, 1)] 2
theorem p01_iff (a b : Nat) : p01 a b = true ↔ (a = b ∧ a < 2) ∨ (a = 0 ∧ b = 1) := by
  simp [p01, pairT]
  omega
theorem p01_trans : Trans8 p01 := fun a b c _ _ _ h1 h2 => by
  rw [p01_iff] at *
  omega
theorem bbB_congr {r s : Nat → Nat → Bool} (h : ∀ a b, a < 8 → b < 8 → r a b = s a b) {n a b c : Nat} (hn : n ≤ 8) (ha : a < 8) (hb : b < 8) (hc : c < 8) : bbB r n a b c = bbB s n a b c := by
  unfold bbB
  rw [Bool.eq_iff_iff, List.all_eq_true, List.all_eq_true]
  constructor
  · intro H d hd
    have hd8 : d < 8 := by have := List.mem_range.1 hd; omega
    rw [← h a d ha hd8, ← h b d hb hd8, ← h c d hc hd8]
    exact H d hd
  · intro H d hd
    have hd8 : d < 8 := by have := List.mem_range.1 hd; omega
    rw [h a d ha hd8, h b d hb hd8, h c d hc hd8]
    exact H d hd
theorem find_congr {p q : Nat → Bool} : ∀ (l : List Nat), (∀ x, x ∈ l → p x = q x) → l.find? p = l.find? q
  | [], _ => rfl
  | y :: l, h => by
    rw [List.find?_cons, List.find?_cons, h y (by simp), find_congr l fun x hx => h x (by simp [hx])]
theorem leastO_congr {r s : Nat → Nat → Bool} (h : ∀ a b, a < 8 → b < 8 → r a b = s a b) {n a b : Nat} (hn : n ≤ 8) (ha : a < 8) (hb : b < 8) : leastO r n a b = leastO s n a b := by
  unfold leastO
  refine find_congr _ fun c hc => ?_
  have hc8 : c < 8 := by have := List.mem_range.1 hc; omega
  rw [h a c ha hc8, h b c hb hc8, bbB_congr h hn ha hb hc8]
theorem joinT_congr {r s : Nat → Nat → Bool} (h : ∀ a b, a < 8 → b < 8 → r a b = s a b) {n : Nat} (hn : n ≤ 8) : joinT r n = joinT s n := by
  funext a b
  unfold joinT
  split
  · rw [leastO_congr h hn (by omega) (by omega)]
  · rfl
theorem trn_congr {r s : Nat → Nat → Bool} (h : ∀ a b, a < 8 → b < 8 → r a b = s a b) : ∀ a b, a < 8 → b < 8 → trn r a b = trn s a b := fun a b ha hb => h b a hb ha
theorem AllL_congr {r s : Nat → Nat → Bool} (h : ∀ a b, a < 8 → b < 8 → r a b = s a b) {n : Nat} (hn : n ≤ 8) (H : AllL s n) : AllL r n := fun a b ha hb => by
  rw [leastO_congr h hn (by omega) (by omega)]
  exact H a b ha hb
theorem cl01 : ∀ a b, a < 8 → b < 8 → cl [(0, 1)] 2 a b = p01 a b := fun a b ha hb => relA_inj (clo_fix p01_trans) a b ha hb
theorem j01 : joinT (cl [(0, 1)] 2) 2 = joinT p01 2 := joinT_congr cl01 (by omega)
theorem m01 : joinT (trn (cl [(0, 1)] 2)) 2 = joinT (trn p01) 2 := joinT_congr (trn_congr cl01) (by omega)
theorem all01 {q : Nat → Nat → Bool} (h : (leastO q 2 0 0).isSome && (leastO q 2 0 1).isSome && (leastO q 2 1 0).isSome && (leastO q 2 1 1).isSome) : AllL q 2 := fun a b ha hb => by
  simp only [Bool.and_eq_true] at h
  match a, b, ha, hb with
  | 0, 0, _, _ => exact h.1.1.1
  | 0, 1, _, _ => exact h.1.1.2
  | 1, 0, _, _ => exact h.1.2
  | 1, 1, _, _ => exact h.2
theorem name_of {s : ByteArray} (h : (decide (1 ≤ s.size) && decide (s.size ≤ 16) && ltrI ((s.data.getD 0 0).toNat : Int) && s.data.toList.all fun c => okI (c.toNat : Int)) = true) : nameB s = true := by
  simp only [Bool.and_eq_true, decide_eq_true_eq, List.all_eq_true] at h
  refine nameB_true ⟨h.1.1.1, h.1.1.2, fun h0 => ?_, fun k hk => h.2 _ ?_⟩
  · have := h.1.2
    rw [Array.getD_eq_getD_getElem?, Array.getElem?_eq_getElem (show 0 < s.data.size from h0)] at this
    exact this
  · show s.data[k] ∈ s.data.toList
    simp
theorem good01 : Good [low, high] [(0, 1)] := by
  refine ⟨⟨by decide, by decide, ?_, ?_⟩, by decide, ?_, ?_, ?_⟩
  · intro i x hx
    match i, hx with
    | 0, hx => cases hx; exact name_of (by decide)
    | 1, hx => cases hx; exact name_of (by decide)
    | i + 2, hx => simp at hx
  · intro i j x hj hx
    match i, j, hj, hx with
    | 1, 0, _, hx => cases hx; intro h; cases h
    | i + 2, _, _, hx => simp at hx
  · refine relA_congr fun a b ha hb => ?_
    have e1 := cl01 a b ha hb
    have e2 := cl01 b a hb ha
    show (cl [(0, 1)] 2 a b && cl [(0, 1)] 2 b a) = pairT [] 2 a b
    rw [e1, e2, Bool.eq_iff_iff, Bool.and_eq_true, p01_iff, p01_iff]
    simp [pairT]
    omega
  · exact AllL_congr cl01 (by decide) (all01 (by decide))
  · exact AllL_congr (trn_congr cl01) (by decide) (all01 (by decide))
theorem vals01 : joinV 2 (joinT p01 2) 1 0 1 = 1 ∧ foldT (joinT (trn p01) 2) 2 = 0 ∧ foldT (joinT p01 2) 2 = 1 := by decide
theorem text01 : textV 2 (nmOf [low, high]) 1 = high := by rfl
set_option maxHeartbeats 400000 in
theorem lives_any (w : World) : Calls Try.prog 9 #[] w fun e w' => e = .returned (.bool true) ∧ Below w.heap.size w w' := by
  go_enter Try.func9, Try.ntmps9
  go_wp2_with fail
  refine (sort0 _).mono ?_
  rintro e w1 ⟨hb1, vn, vb, vp, rfl, hn, hp⟩
  have HN := Lib.hid hn
  have HP := Lib.hid hp
  clear hn hp
  go_wp2_with fail
  refine (new_any vn vb vp _ _ _ HN.out HP.out (by decide) (by decide)).mono ?_
  rintro e w2 ⟨hb2, h⟩
  have k2 := bt hb1 hb2
  clear hb1 hb2 HN HP
  rcases h with ⟨_, g, rfl, _, hL⟩ | ⟨hbad, _⟩
  · have hL : LatAt w2 g 2 (nmOf [low, high]) (cl [(0, 1)] 2) (joinT p01 2) (joinT (trn p01) 2) 0 1 := by
      have e : latOf [low, high] [low, high].length (cl [(0, 1)] [low, high].length) = latA 2 (nmOf [low, high]) (cl [(0, 1)] 2) (joinT p01 2) (joinT (trn p01) 2) 0 1 := by
        show latA 2 (nmOf [low, high]) (cl [(0, 1)] 2) (joinT (cl [(0, 1)] 2) 2) (joinT (trn (cl [(0, 1)] 2)) 2) (foldT (joinT (trn (cl [(0, 1)] 2)) 2) 2) (foldT (joinT (cl [(0, 1)] 2) 2) 2) = _
        rw [j01, m01, vals01.2.1, vals01.2.2]
      unfold LatAt
      rw [← e]
      exact hL
    have H := Lib.hid hL
    clear hL
    have v1 := vals01.1
    have v2 := text01
    go_wp2_with (first | (go_at_call 17; refine (join_any _ _ _ _ _ _ _ _ _ _ _ H.out (by decide)).mono ?_; rintro e w' ⟨rfl, rfl⟩; rw [vals01.1]) | (go_at_call 21; refine (bottom_any _ _ _ _ _ _ _ _ _ H.out).mono ?_; rintro e w' ⟨rfl, rfl⟩) | (go_at_call 22; refine (top_any _ _ _ _ _ _ _ _ _ H.out).mono ?_; rintro e w' ⟨rfl, rfl⟩) | (go_at_call 25; refine (text_any _ _ _ _ _ _ _ _ _ _ H.out (by decide)).mono ?_; rintro e w' ⟨rfl, rfl⟩; rw [text01]; unfold high))
    go_ret
    exact ⟨rfl, k2⟩
  · exact absurd good01 hbad
end Lv
end Go.Proofs.Ytblmjhnkjbhdmaa
