/- What the document's Sort answers, of any number. No condition. -/
import Derived.Test.YtmfdclnepmgmlaaLvSortMath
namespace Go.Proofs.Ytmfdclnepmgmlaa
open Go.RowKit
namespace Lv
def PolPost (ss : List ByteArray) (ps : List (Int × Int)) (w : World) (e : Ending) (w' : World) : Prop := Below w.heap.size w w' ∧ ∃ vn vb, e = .returned (.agg #[vn, vb, .slice none 0 0]) ∧ NamesAt w' vn ss ∧ PairsAt w' vb ps
theorem mod6 (n : Int) : (wrap64 (n.tmod 6 + 6)).tmod 6 = n % 6 := by
  have e1 : n.tmod 6 = n % 6 ∨ n.tmod 6 = n % 6 - 6 := by
    by_cases hx : 0 ≤ n
    · exact .inl (Int.tmod_eq_emod_of_nonneg hx)
    · have e : n.tmod 6 = -((-n).tmod 6) := by rw [Int.neg_tmod]; omega
      rw [e, Int.tmod_eq_emod_of_nonneg (by omega)]
      omega
  unfold wrap64
  generalize n.tmod 6 = y at e1
  rw [Int.tmod_eq_emod_of_nonneg (by omega)]
  omega
def fl (ps : List (Int × Int)) : List Value := ps.flatMap fun p => [.int .i64 p.1, .int .i64 p.2]
theorem fl_at : ∀ (ps : List (Int × Int)) (i : Nat) (p : Int × Int), ps[i]? = some p → (fl ps)[i * 2]? = some (.int .i64 p.1) ∧ (fl ps)[i * 2 + 1]? = some (.int .i64 p.2)
  | q :: ps, 0, p, h => by
    cases h
    exact ⟨rfl, rfl⟩
  | q :: ps, i + 1, p, h => by
    have := fl_at ps i p (by simpa using h)
    simp only [fl, List.flatMap_cons] at this ⊢
    rw [show (i + 1) * 2 = i * 2 + 1 + 1 by omega]
    exact this
theorem names_row {w : World} {g : Nat} {ss : List ByteArray} {t : TypeId} {fr : Nat × Nat} (h : w.heap[g]? = some (.cells (ss.map Value.string).toArray t fr)) (hs : ∀ x, x ∈ ss → x.size ≤ 16) : NamesAt w (.slice (some ⟨g, 0, none⟩) ss.length ss.length) ss := by
  refine ⟨_, _, rfl, Nat.le_refl _, fun i x hx => ⟨_, _, rfl, ?_, ?_⟩⟩
  · rw [cell_of_row _ _ _ _ _ _ h, Nat.zero_add, List.getElem?_toArray, List.getElem?_map, hx]
    rfl
  · have := hs x (List.mem_of_getElem? hx)
    unfold maxLen
    omega
theorem pairs_row {w : World} {g : Nat} {ps : List (Int × Int)} {t : TypeId} {fr : Nat × Nat} (h : w.heap[g]? = some (.cells (fl ps).toArray t fr)) : PairsAt w (.slice (some ⟨g, 0, none⟩) ps.length ps.length) ps := by
  refine ⟨_, _, rfl, fun i x hx => ⟨_, _, rfl, ?_, ?_⟩⟩
  · rw [cell_of_row _ _ _ _ _ _ h, Nat.zero_add, List.getElem?_toArray, (fl_at ps i x hx).1]
  · rw [cell_of_row _ _ _ _ _ _ h, Nat.zero_add, List.getElem?_toArray, (fl_at ps i x hx).2]
theorem sort_small (k : Nat) : ∀ x, x ∈ sn k → x.size ≤ 16 := by
  intro x hx
  have h := sort_good k
  obtain ⟨i, hi⟩ := List.getElem?_of_mem hx
  exact (nameB_iff.1 (h.names.2.2.1 i x hi)).2.1
/-- the policy k, its names and its pairs made behind it -/
theorem leaf (k : Nat) (w : World) (A : Obj) (tn tp : TypeId) (B C : Array Value) (hB : B = ((sn k).map Value.string).toArray) (hC : C = (fl (sp k)).toArray) (L M : Nat) (hL : L = (sn k).length) (hM : M = (sp k).length) :
    PolPost (sn k) (sp k) w (.returned (.agg #[.slice (some ⟨w.heap.size + 1, 0, none⟩) L L, .slice (some ⟨w.heap.size + 1 + 1, 0, none⟩) M M, .slice none 0 0])) (((w.alloc A).alloc (Obj.cells B tn)).alloc (Obj.cells C tp)) := by
  obtain ⟨hb, h0, h1, h2⟩ := three w A (Obj.cells B tn) (Obj.cells C tp)
  subst hB hC hL hM
  exact ⟨hb, _, _, rfl, names_row h1 (sort_small k), pairs_row h2⟩
/-- the policy 3, which has no pairs -/
theorem leaf3 (w : World) (A : Obj) (tn : TypeId) (B : Array Value) (hB : B = ((sn 3).map Value.string).toArray) :
    PolPost (sn 3) (sp 3) w (.returned (.agg #[.slice (some ⟨w.heap.size + 1, 0, none⟩) 1 1, .slice none 0 0, .slice none 0 0])) ((w.alloc A).alloc (Obj.cells B tn)) := by
  have s1 := al_size w A
  have h1 : ((w.alloc A).alloc (Obj.cells B tn)).heap[w.heap.size + 1]? = some (Obj.cells B tn) := by rw [← s1, al_new]
  subst hB
  exact ⟨((Below.refl _ _).alloc (Nat.le_refl _) _).alloc (by rw [s1]; omega) _, _, _, rfl, names_row (ss := sn 3) h1 (sort_small 3), PairsAt.nil _⟩
theorem mod_is {n k : Int} (h : ((wrap64 (n.tmod 6 + 6)).tmod 6 == k) = true) : n % 6 = k := by
  rw [mod6] at h
  exact eq_of_beq h
theorem mod_not {n k : Int} (h : ((wrap64 (n.tmod 6 + 6)).tmod 6 == k) = false) : n % 6 ≠ k := by
  rw [mod6] at h
  exact ne_of_beq_false h
theorem sort_at {n : Int} {k : Nat} {w w' : World} {e : Ending} (hk : n % 6 = k) (h : PolPost (sn k) (sp k) w e w') : PolPost (sn (n % 6).toNat) (sp (n % 6).toNat) w e w' := by
  rw [hk, Int.toNat_natCast]
  exact h
set_option maxHeartbeats 1000000 in
theorem sort_any (n : Int) (w : World) : Calls Try.prog 9 #[.int .i64 n] w (PolPost (sn (n % 6).toNat) (sp (n % 6).toNat) w) := by
  go_enter Try.func9, Try.ntmps9
  go_wp2
  case _ h0 =>
    exact bodyPost_ret (v := .agg #[.slice (some ⟨w.heap.size + 1, 0, none⟩) 2 2, .slice (some ⟨w.heap.size + 1 + 1, 0, none⟩) 1 1, .slice none 0 0]) (by simp [results, Try.results9, go_sem]) rfl (sort_at (k := 0) (mod_is h0) (leaf 0 _ _ _ _ _ _ rfl rfl _ _ rfl rfl))
  case _ h0 h1 =>
    exact bodyPost_ret (v := .agg #[.slice (some ⟨w.heap.size + 1, 0, none⟩) 4 4, .slice (some ⟨w.heap.size + 1 + 1, 0, none⟩) 4 4, .slice none 0 0]) (by simp [results, Try.results9, go_sem]) rfl (sort_at (k := 1) (mod_is h1) (leaf 1 _ _ _ _ _ _ rfl rfl _ _ rfl rfl))
  case _ h0 h1 h2 =>
    exact bodyPost_ret (v := .agg #[.slice (some ⟨w.heap.size + 1, 0, none⟩) 3 3, .slice (some ⟨w.heap.size + 1 + 1, 0, none⟩) 2 2, .slice none 0 0]) (by simp [results, Try.results9, go_sem]) rfl (sort_at (k := 2) (mod_is h2) (leaf 2 _ _ _ _ _ _ rfl rfl _ _ rfl rfl))
  case _ h0 h1 h2 h3 =>
    exact bodyPost_ret (v := .agg #[.slice (some ⟨w.heap.size + 1, 0, none⟩) 1 1, .slice none 0 0, .slice none 0 0]) (by simp [results, Try.results9, go_sem]) rfl (sort_at (k := 3) (mod_is h3) (leaf3 _ _ _ _ rfl))
  case _ h0 h1 h2 h3 h4 =>
    exact bodyPost_ret (v := .agg #[.slice (some ⟨w.heap.size + 1, 0, none⟩) 5 5, .slice (some ⟨w.heap.size + 1 + 1, 0, none⟩) 6 6, .slice none 0 0]) (by simp [results, Try.results9, go_sem]) rfl (sort_at (k := 4) (mod_is h4) (leaf 4 _ _ _ _ _ _ rfl rfl _ _ rfl rfl))
  case _ h0 h1 h2 h3 h4 =>
    exact bodyPost_ret (v := .agg #[.slice (some ⟨w.heap.size + 1, 0, none⟩) 8 8, .slice (some ⟨w.heap.size + 1 + 1, 0, none⟩) 12 12, .slice none 0 0]) (by simp [results, Try.results9, go_sem]) rfl (sort_at (k := 5) (by have := mod_not h0; have := mod_not h1; have := mod_not h2; have := mod_not h3; have := mod_not h4; omega) (leaf 5 _ _ _ _ _ _ rfl rfl _ _ rfl rfl))
end Lv
end Go.Proofs.Ytmfdclnepmgmlaa
