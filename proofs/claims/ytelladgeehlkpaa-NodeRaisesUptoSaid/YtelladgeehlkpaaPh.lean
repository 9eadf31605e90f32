/- The six policies of the document's Sort: each is right, and which level is below which. No condition. -/
import Derived.Test.YtelladgeehlkpaaPg
namespace Go.Proofs.Ytelladgeehlkpaa
open Go.RowKit
namespace Lv
/-- the names of the policy k -/
def sn : Nat → List ByteArray
  | 0 => [⟨#[108, 111, 119]⟩, ⟨#[104, 105, 103, 104]⟩]
  | 1 => [⟨#[108, 111, 119]⟩, ⟨#[108, 101, 102, 116]⟩, ⟨#[114, 105, 103, 104, 116]⟩, ⟨#[104, 105, 103, 104]⟩]
  | 2 => [⟨#[97]⟩, ⟨#[98]⟩, ⟨#[99]⟩]
  | 3 => [⟨#[111, 110, 101]⟩]
  | 4 => [⟨#[116, 111, 112]⟩, ⟨#[120]⟩, ⟨#[121]⟩, ⟨#[122]⟩, ⟨#[98, 111, 116]⟩]
  | _ => [⟨#[111]⟩, ⟨#[112]⟩, ⟨#[113]⟩, ⟨#[114]⟩, ⟨#[112, 113]⟩, ⟨#[112, 114]⟩, ⟨#[113, 114]⟩, ⟨#[97, 108, 108]⟩]
/-- its pairs -/
def sp : Nat → List (Int × Int)
  | 0 => [(0, 1)]
  | 1 => [(0, 1), (0, 2), (1, 3), (2, 3)]
  | 2 => [(0, 1), (1, 2)]
  | 3 => []
  | 4 => [(4, 1), (4, 2), (4, 3), (1, 0), (2, 0), (3, 0)]
  | _ => [(0, 1), (0, 2), (0, 3), (1, 4), (2, 4), (1, 5), (3, 5), (2, 6), (3, 6), (4, 7), (5, 7), (6, 7)]
/-- which level is below which, bit by bit -/
def sm : Nat → Nat
  | 0 => 515
  | 1 => 135006735
  | 2 => 263687
  | 3 => 1
  | 4 => 133295309569
  | _ => 9277591776625210111
/-- the table of a number's bits -/
def tm (m : Nat) : Nat → Nat → Bool := fun a b => Nat.testBit m (a * 8 + b)
def certB (t : Nat → Nat → Bool) (ps : List (Int × Int)) (n : Nat) : Bool :=
  (List.range 8).all fun a => (List.range 8).all fun b => (!pairT ps n a b || t a b) && ((!t a b || (List.range 8).any fun c => pairT ps n a c && (List.range 8).any fun d => pairT ps n c d && pairT ps n d b) && (List.range 8).all fun c => !(t a b && t b c) || t a c)
theorem cl_of {t : Nat → Nat → Bool} {ps : List (Int × Int)} {n : Nat} (h : certB t ps n = true) : ∀ a b, a < 8 → b < 8 → cl ps n a b = t a b := by
  have H : ∀ a b, a < 8 → b < 8 → (pairT ps n a b = true → t a b = true) ∧ (t a b = true → ∃ c d, c < 8 ∧ d < 8 ∧ pairT ps n a c = true ∧ pairT ps n c d = true ∧ pairT ps n d b = true) ∧ ∀ c, c < 8 → t a b = true → t b c = true → t a c = true := by
    intro a b ha hb
    unfold certB at h
    rw [List.all_eq_true] at h
    have h := h a (List.mem_range.2 ha)
    rw [List.all_eq_true] at h
    have h := h b (List.mem_range.2 hb)
    simp only [Bool.and_eq_true, Bool.or_eq_true, Bool.not_eq_true', List.any_eq_true, List.all_eq_true, List.mem_range, Bool.and_eq_false_iff] at h
    obtain ⟨h1, h2, h3⟩ := h
    refine ⟨fun hp => ?_, fun ht => ?_, fun c hc h4 h5 => ?_⟩
    · rcases h1 with h1 | h1
      · rw [hp] at h1; cases h1
      · exact h1
    · rcases h2 with h2 | ⟨c, hc, h4, d, hd, h5, h6⟩
      · rw [ht] at h2; cases h2
      · exact ⟨c, d, hc, hd, h4, h5, h6⟩
    · rcases h3 c hc with (h6 | h6) | h6
      · rw [h4] at h6; cases h6
      · rw [h5] at h6; cases h6
      · exact h6
  intro a b ha hb
  rw [Bool.eq_iff_iff]
  constructor
  · intro hc
    exact clo_least (r := pairT ps n) (fun x y z hx hy hz h1 h2 => (H x y hx hy).2.2 z hz h1 h2) (fun x y hx hy hp => (H x y hx hy).1 hp) hc
  · intro ht
    obtain ⟨c, d, hc, hd, h1, h2, h3⟩ := (H a b ha hb).2.1 ht
    have s := clo_sub (pairT ps n)
    have tr := clo_trans (pairT ps n)
    exact tr a d b ha hd hb (tr a c d ha hc hd (s a c ha hc h1) (s c d hc hd h2)) (s d b hd hb h3)
def nmB (s : ByteArray) : Bool := decide (1 ≤ s.size) && decide (s.size ≤ 16) && ltrI ((s.data.getD 0 0).toNat : Int) && s.data.toList.all fun c => okI (c.toNat : Int)
def unB : List ByteArray → Bool
  | [] => true
  | x :: l => (l.all fun y => x.data.toList != y.data.toList) && unB l
theorem unB_ne : ∀ {ss : List ByteArray}, unB ss = true → ∀ (i j : Nat) (x : ByteArray), j < i → ss[i]? = some x → ss[j]? ≠ some x
  | [], _, i, j, x, _, hx => by simp at hx
  | y :: l, h, i, j, x, hij, hx => by
    unfold unB at h
    rw [Bool.and_eq_true, List.all_eq_true] at h
    match i, hij, hx with
    | i + 1, hij, hx =>
      rw [List.getElem?_cons_succ] at hx
      match j, hij with
      | 0, _ =>
        rw [List.getElem?_cons_zero]
        intro e
        cases e
        have := h.1 y (List.mem_of_getElem? hx)
        simp at this
      | j + 1, hij =>
        rw [List.getElem?_cons_succ]
        exact unB_ne h.2 i j x (by omega) hx
def goodB (ss : List ByteArray) (ps : List (Int × Int)) (t : Nat → Nat → Bool) : Bool :=
  decide (1 ≤ ss.length) && decide (ss.length ≤ 8) && ss.all nmB && unB ss && prB ps ss.length && certB t ps ss.length &&
  ((List.range 8).all fun a => (List.range 8).all fun b => (t a b && t b a) == pairT [] ss.length a b) &&
  ((List.range ss.length).all fun a => (List.range ss.length).all fun b => (leastO t ss.length a b).isSome && (leastO (trn t) ss.length a b).isSome)
theorem good_of {ss : List ByteArray} {ps : List (Int × Int)} {t : Nat → Nat → Bool} (h : goodB ss ps t = true) : Good ss ps ∧ ∀ a b, a < 8 → b < 8 → cl ps ss.length a b = t a b := by
  unfold goodB at h
  simp only [Bool.and_eq_true] at h
  obtain ⟨⟨⟨⟨⟨⟨⟨h1, h2⟩, h3⟩, h4⟩, h5⟩, h6⟩, h7⟩, h8⟩ := h
  have h1 := of_decide_eq_true h1
  have h2 := of_decide_eq_true h2
  rw [List.all_eq_true] at h3 h7 h8
  have hc := cl_of h6
  have h9 : ∀ a b, a < ss.length → b < ss.length → (leastO t ss.length a b).isSome = true ∧ (leastO (trn t) ss.length a b).isSome = true := by
    intro a b ha hb
    have := h8 a (List.mem_range.2 ha)
    rw [List.all_eq_true] at this
    have := this b (List.mem_range.2 hb)
    rwa [Bool.and_eq_true] at this
  refine ⟨⟨⟨h1, h2, fun i x hx => name_of (h3 x (List.mem_of_getElem? hx)), unB_ne h4⟩, h5, ?_, ?_, ?_⟩, hc⟩
  · refine relA_congr fun a b ha hb => ?_
    have e1 := hc a b ha hb
    have e2 := hc b a hb ha
    show (cl ps ss.length a b && cl ps ss.length b a) = pairT [] ss.length a b
    rw [e1, e2]
    have := h7 a (List.mem_range.2 ha)
    rw [List.all_eq_true] at this
    exact eq_of_beq (this b (List.mem_range.2 hb))
  · exact AllL_congr hc h2 fun a b ha hb => (h9 a b ha hb).1
  · exact AllL_congr (trn_congr hc) h2 fun a b ha hb => (h9 a b ha hb).2
theorem sort_goodB : ∀ k, goodB (sn k) (sp k) (tm (sm k)) = true
  | 0 => by decide +kernel
  | 1 => by decide +kernel
  | 2 => by decide +kernel
  | 3 => by decide +kernel
  | 4 => by decide +kernel
  | _ + 5 => by show goodB (sn 5) (sp 5) (tm (sm 5)) = true; decide +kernel
/-- each of the policies is right -/
theorem sort_good (k : Nat) : Good (sn k) (sp k) := (good_of (sort_goodB k)).1
/-- and its table -/
theorem sort_cl (k : Nat) : ∀ a b, a < 8 → b < 8 → cl (sp k) (sn k).length a b = tm (sm k) a b := (good_of (sort_goodB k)).2
end Lv
end Go.Proofs.Ytelladgeehlkpaa
namespace Go.Proofs.Ytelladgeehlkpaa
open Go.RowKit
namespace Lv
def PolPost (ss : List ByteArray) (ps : List (Int × Int)) (w : World) (e : Ending) (w' : World) : Prop := Below w.heap.size w w' ∧ ∃ vn vb, e = .returned (.agg #[vn, vb, .slice none 0 0]) ∧ NamesAt w' vn ss ∧ PairsAt w' vb ps
theorem mod6 (n : Int) : (wrap64 (n.tmod 6 + 6)).tmod 6 = n % 6 := by
  have e1 : n.tmod 6 = n % 6 ∨ n.tmod 6 = n % 6 - 6 := by
    by_cases hx : 0 ≤ n
    · exact .inl (Int.tmod_eq_emod_of_nonneg hx)
    · have e : n.tmod 6 = -((-n).tmod 6) := by rw [Int.neg_tmod]; omega
      rw [e, Int.tmod_eq_emod_of_nonneg (by omega)]
      omega
  unfold wrap64
  generalize n.tmod 6 = y at e1
  rw [Int.tmod_eq_emod_of_nonneg (by omega)]
  omega
def fl (ps : List (Int × Int)) : List Value := ps.flatMap fun p => [.int .i64 p.1, .int .i64 p.2]
theorem fl_at : ∀ (ps : List (Int × Int)) (i : Nat) (p : Int × Int), ps[i]? = some p → (fl ps)[i * 2]? = some (.int .i64 p.1) ∧ (fl ps)[i * 2 + 1]? = some (.int .i64 p.2)
  | q :: ps, 0, p, h => by
    cases h
    exact ⟨rfl, rfl⟩
  | q :: ps, i + 1, p, h => by
    have := fl_at ps i p (by simpa using h)
    simp only [fl, List.flatMap_cons] at this ⊢
    rw [show (i + 1) * 2 = i * 2 + 1 + 1 by omega]
    exact this
theorem names_row {w : World} {g : Nat} {ss : List ByteArray} {t : TypeId} {fr : Nat × Nat} (h : w.heap[g]? = some (.cells (ss.map Value.string).toArray t fr)) (hs : ∀ x, x ∈ ss → x.size ≤ 16) : NamesAt w (.slice (some ⟨g, 0, none⟩) ss.length ss.length) ss := by
  refine ⟨_, _, rfl, Nat.le_refl _, fun i x hx => ⟨_, _, rfl, ?_, ?_⟩⟩
  · rw [cell_of_row _ _ _ _ _ _ h, Nat.zero_add, List.getElem?_toArray, List.getElem?_map, hx]
    rfl
  · have := hs x (List.mem_of_getElem? hx)
    unfold maxLen
    omega
theorem pairs_row {w : World} {g : Nat} {ps : List (Int × Int)} {t : TypeId} {fr : Nat × Nat} (h : w.heap[g]? = some (.cells (fl ps).toArray t fr)) : PairsAt w (.slice (some ⟨g, 0, none⟩) ps.length ps.length) ps := by
  refine ⟨_, _, rfl, fun i x hx => ⟨_, _, rfl, ?_, ?_⟩⟩
  · rw [cell_of_row _ _ _ _ _ _ h, Nat.zero_add, List.getElem?_toArray, (fl_at ps i x hx).1]
  · rw [cell_of_row _ _ _ _ _ _ h, Nat.zero_add, List.getElem?_toArray, (fl_at ps i x hx).2]
theorem sort_small (k : Nat) : ∀ x, x ∈ sn k → x.size ≤ 16 := by
  intro x hx
  have h := sort_good k
  obtain ⟨i, hi⟩ := List.getElem?_of_mem hx
  exact (nameB_iff.1 (h.names.2.2.1 i x hi)).2.1
/-- the policy k, its names and its pairs made behind it -/
theorem leaf (k : Nat) (w : World) (A : Obj) (tn tp : TypeId) (B C : Array Value) (hB : B = ((sn k).map Value.string).toArray) (hC : C = (fl (sp k)).toArray) (L M : Nat) (hL : L = (sn k).length) (hM : M = (sp k).length) :
    PolPost (sn k) (sp k) w (.returned (.agg #[.slice (some ⟨w.heap.size + 1, 0, none⟩) L L, .slice (some ⟨w.heap.size + 1 + 1, 0, none⟩) M M, .slice none 0 0])) (((w.alloc A).alloc (Obj.cells B tn)).alloc (Obj.cells C tp)) := by
  obtain ⟨hb, h0, h1, h2⟩ := three w A (Obj.cells B tn) (Obj.cells C tp)
  subst hB hC hL hM
  exact ⟨hb, _, _, rfl, names_row h1 (sort_small k), pairs_row h2⟩
/-- the policy 3, which has no pairs -/
theorem leaf3 (w : World) (A : Obj) (tn : TypeId) (B : Array Value) (hB : B = ((sn 3).map Value.string).toArray) :
    PolPost (sn 3) (sp 3) w (.returned (.agg #[.slice (some ⟨w.heap.size + 1, 0, none⟩) 1 1, .slice none 0 0, .slice none 0 0])) ((w.alloc A).alloc (Obj.cells B tn)) := by
  have s1 := al_size w A
  have h1 : ((w.alloc A).alloc (Obj.cells B tn)).heap[w.heap.size + 1]? = some (Obj.cells B tn) := by rw [← s1, al_new]
  subst hB
  exact ⟨((Below.refl _ _).alloc (Nat.le_refl _) _).alloc (by rw [s1]; omega) _, _, _, rfl, names_row (ss := sn 3) h1 (sort_small 3), PairsAt.nil _⟩
theorem mod_is {n k : Int} (h : ((wrap64 (n.tmod 6 + 6)).tmod 6 == k) = true) : n % 6 = k := by
  rw [mod6] at h
  exact eq_of_beq h
theorem mod_not {n k : Int} (h : ((wrap64 (n.tmod 6 + 6)).tmod 6 == k) = false) : n % 6 ≠ k := by
  rw [mod6] at h
  exact ne_of_beq_false h
theorem sort_at {n : Int} {k : Nat} {w w' : World} {e : Ending} (hk : n % 6 = k) (h : PolPost (sn k) (sp k) w e w') : PolPost (sn (n % 6).toNat) (sp (n % 6).toNat) w e w' := by
  rw [hk, Int.toNat_natCast]
  exact h
set_option maxHeartbeats 1000000 in
theorem sort_any (n : Int) (w : World) : Calls Try.prog 22 #[.int .i64 n] w (PolPost (sn (n % 6).toNat) (sp (n % 6).toNat) w) := by
  go_enter Try.func22, Try.ntmps22
  go_wp2
  case _ h0 =>
    exact bodyPost_ret (v := .agg #[.slice (some ⟨w.heap.size + 1, 0, none⟩) 2 2, .slice (some ⟨w.heap.size + 1 + 1, 0, none⟩) 1 1, .slice none 0 0]) (by simp [results, Try.results22, go_sem]) rfl (sort_at (k := 0) (mod_is h0) (leaf 0 _ _ _ _ _ _ rfl rfl _ _ rfl rfl))
  case _ h0 h1 =>
    exact bodyPost_ret (v := .agg #[.slice (some ⟨w.heap.size + 1, 0, none⟩) 4 4, .slice (some ⟨w.heap.size + 1 + 1, 0, none⟩) 4 4, .slice none 0 0]) (by simp [results, Try.results22, go_sem]) rfl (sort_at (k := 1) (mod_is h1) (leaf 1 _ _ _ _ _ _ rfl rfl _ _ rfl rfl))
  case _ h0 h1 h2 =>
    exact bodyPost_ret (v := .agg #[.slice (some ⟨w.heap.size + 1, 0, none⟩) 3 3, .slice (some ⟨w.heap.size + 1 + 1, 0, none⟩) 2 2, .slice none 0 0]) (by simp [results, Try.results22, go_sem]) rfl (sort_at (k := 2) (mod_is h2) (leaf 2 _ _ _ _ _ _ rfl rfl _ _ rfl rfl))
  case _ h0 h1 h2 h3 =>
    exact bodyPost_ret (v := .agg #[.slice (some ⟨w.heap.size + 1, 0, none⟩) 1 1, .slice none 0 0, .slice none 0 0]) (by simp [results, Try.results22, go_sem]) rfl (sort_at (k := 3) (mod_is h3) (leaf3 _ _ _ _ rfl))
  case _ h0 h1 h2 h3 h4 =>
    exact bodyPost_ret (v := .agg #[.slice (some ⟨w.heap.size + 1, 0, none⟩) 5 5, .slice (some ⟨w.heap.size + 1 + 1, 0, none⟩) 6 6, .slice none 0 0]) (by simp [results, Try.results22, go_sem]) rfl (sort_at (k := 4) (mod_is h4) (leaf 4 _ _ _ _ _ _ rfl rfl _ _ rfl rfl))
  case _ h0 h1 h2 h3 h4 =>
    exact bodyPost_ret (v := .agg #[.slice (some ⟨w.heap.size + 1, 0, none⟩) 8 8, .slice (some ⟨w.heap.size + 1 + 1, 0, none⟩) 12 12, .slice none 0 0]) (by simp [results, Try.results22, go_sem]) rfl (sort_at (k := 5) (by have := mod_not h0; have := mod_not h1; have := mod_not h2; have := mod_not h3; have := mod_not h4; omega) (leaf 5 _ _ _ _ _ _ rfl rfl _ _ rfl rfl))
end Lv
end Go.Proofs.Ytelladgeehlkpaa
namespace Go.Proofs.Ytelladgeehlkpaa
open Go.RowKit
namespace Lv
/-- how many levels the policy k has -/
def sz (k : Nat) : Nat := (sn k).length
/-- which is below which -/
noncomputable def sr (k : Nat) : Nat → Nat → Bool := cl (sp k) (sz k)
noncomputable def sj (k : Nat) : Nat → Nat → Nat := joinT (sr k) (sz k)
noncomputable def se (k : Nat) : Nat → Nat → Nat := joinT (trn (sr k)) (sz k)
noncomputable def sbo (k : Nat) : Nat := foldT (se k) (sz k)
noncomputable def stp (k : Nat) : Nat := foldT (sj k) (sz k)
/-- the lattice of the policy k stands at block g -/
def SLat (w : World) (g k : Nat) : Prop := LatAt w g (sz k) (nmOf (sn k)) (sr k) (sj k) (se k) (sbo k) (stp k)
theorem SLat.go {w w1 : World} {g k : Nat} (h : SLat w g k) (hb : Below w.heap.size w w1) : SLat w1 g k := bkeep hb h
theorem sz_le (k : Nat) : sz k ≤ 8 := (sort_good k).names.2.1
theorem sz_pos (k : Nat) : 1 ≤ sz k := (sort_good k).names.1
theorem sr_ord (k : Nat) : Ord (sr k) (sz k) := good_ord (sort_good k)
theorem sr_j (k : Nat) : IsJ (sr k) (sz k) (sj k) := good_j (sort_good k)
theorem sr_m (k : Nat) : IsJ (trn (sr k)) (sz k) (se k) := good_m (sort_good k)
theorem sr_is (k a b : Nat) (ha : a < 8) (hb : b < 8) : sr k a b = tm (sm k) a b := sort_cl k a b ha hb
def SNewPost (k : Nat) (w : World) (e : Ending) (w' : World) : Prop := Below w.heap.size w w' ∧ ∃ g, e = .returned (.tuple #[.pointer (some ⟨g, 0, none⟩), .int .i64 0]) ∧ w.heap.size ≤ g ∧ SLat w' g k
theorem sort_len (k : Nat) : (sn k).length ≤ maxLen ∧ (sp k).length ≤ maxLen := by
  have h1 := (sort_good k).names.2.1
  have h2 := (sort_good k).pairs
  unfold prB at h2
  simp only [Bool.and_eq_true, decide_eq_true_eq] at h2
  unfold maxLen
  omega
theorem new_sort (k : Nat) (vn vb vp : Value) (w : World) (hn : NamesAt w vn (sn k)) (hp : PairsAt w vb (sp k)) :
    Calls Try.prog 21 #[.agg #[vn, vb, vp]] w (SNewPost k w) := by
  refine (new_any vn vb vp _ _ w hn hp (sort_len k).1 (sort_len k).2).mono ?_
  rintro e w2 ⟨hb2, h⟩
  rcases h with ⟨_, g, rfl, hg, hL⟩ | ⟨hbad, _⟩
  · exact ⟨hb2, g, rfl, hg, hL⟩
  · exact absurd (sort_good k) hbad
end Lv
end Go.Proofs.Ytelladgeehlkpaa
