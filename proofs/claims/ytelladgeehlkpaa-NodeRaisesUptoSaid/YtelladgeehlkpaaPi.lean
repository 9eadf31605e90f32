/- node: labels, Deep, and what is right, as data. -/
import Derived.Test.YtelladgeehlkpaaPc
import Derived.Test.YtelladgeehlkpaaPg
import Derived.Test.YtelladgeehlkpaaPh
import Derived.Lib.SmallJoins
namespace Go.Proofs.Ytelladgeehlkpaa
open Go.RowKit
namespace Nd
open _root_.Go.Proofs.Ytelladgeehlkpaa.Nm _root_.Go.Proofs.Ytelladgeehlkpaa.Jv
open _root_.Go.Proofs.Ytelladgeehlkpaa.Lv (Ord IsJ inI joinsL bbB isB)
mutual
/-- are all labels levels? -/
def NV.labB (n : Nat) : NV → Bool
  | .mk la _ _ _ _ _ items _ => decide (0 ≤ la ∧ la < (n : Int)) && labL n items
def labL (n : Nat) : List NV → Bool
  | [] => true
  | x :: xs => x.labB n && labL n xs
end
mutual
/-- the join of all labels -/
def NV.dp (j : Nat → Nat → Nat) : NV → Nat
  | .mk la _ _ _ _ _ items _ => dpL j la.toNat items
def dpL (j : Nat → Nat → Nat) (d : Nat) : List NV → Nat
  | [] => d
  | x :: xs => dpL j (j d (x.dp j)) xs
end
mutual
/-- has each node in one its Deep? -/
def NV.riB (j : Nat → Nat → Nat) : NV → Bool
  | .mk la de _ _ _ _ items _ => decide (de = (dpL j la.toNat items : Nat)) && riL j items
def riL (j : Nat → Nat → Nat) : List NV → Bool
  | [] => true
  | x :: xs => x.riB j && riL j xs
end
theorem labB_is (n : Nat) (t : NV) : t.labB n = (decide (0 ≤ t.la ∧ t.la < (n : Int)) && labL n t.items) := by cases t; rfl
theorem dp_is (j : Nat → Nat → Nat) (t : NV) : t.dp j = dpL j t.la.toNat t.items := by cases t; rfl
theorem riB_is (j : Nat → Nat → Nat) (t : NV) : t.riB j = (decide (t.de = (t.dp j : Nat)) && riL j t.items) := by cases t; rfl
theorem labL_all (n : Nat) (l : List NV) : labL n l = l.all (NV.labB n) := by
  induction l with
  | nil => rfl
  | cons x l ih => simp [labL, ih]
theorem riL_all (j : Nat → Nat → Nat) (l : List NV) : riL j l = l.all (NV.riB j) := by
  induction l with
  | nil => rfl
  | cons x l ih => simp [riL, ih]
theorem dpL_snoc (j : Nat → Nat → Nat) (d : Nat) (l : List NV) (x : NV) : dpL j d (l ++ [x]) = j (dpL j d l) (x.dp j) := by
  induction l generalizing d with
  | nil => rfl
  | cons y l ih => simp [dpL, ih]
theorem labB_la {n : Nat} {t : NV} (h : t.labB n = true) : 0 ≤ t.la ∧ t.la < (n : Int) := by
  rw [labB_is] at h
  simp only [Bool.and_eq_true, decide_eq_true_eq] at h
  exact h.1
theorem labB_item {n : Nat} {t z : NV} (h : t.labB n = true) (hz : z ∈ t.items) : z.labB n = true := by
  rw [labB_is, labL_all] at h
  simp only [Bool.and_eq_true] at h
  exact List.all_eq_true.1 h.2 z hz
theorem riB_de {j : Nat → Nat → Nat} {t : NV} (h : t.riB j = true) : t.de = (t.dp j : Nat) := by
  rw [riB_is] at h
  simp only [Bool.and_eq_true, decide_eq_true_eq] at h
  exact h.1
section
variable {r : Nat → Nat → Bool} {n : Nat} {j : Nat → Nat → Nat}
mutual
theorem dp_lt (J : IsJ r n j) : ∀ (t : NV), t.labB n = true → t.dp j < n
  | .mk la de k c s st items ks, h => by
    simp only [NV.labB, Bool.and_eq_true, decide_eq_true_eq] at h
    simp only [NV.dp]
    exact dpL_lt J _ items (by omega) h.2
theorem dpL_lt (J : IsJ r n j) : ∀ (d : Nat) (l : List NV), d < n → labL n l = true → dpL j d l < n
  | _, [], hd, _ => hd
  | d, x :: xs, hd, h => by
    simp only [labL, Bool.and_eq_true] at h
    simp only [dpL]
    exact dpL_lt J _ xs (J.lt _ _ hd (dp_lt J x h.1)) h.2
end
theorem dpL_le (O : Ord r n) (J : IsJ r n j) : ∀ (d : Nat) (l : List NV), d < n → labL n l = true → r d (dpL j d l) = true
  | d, [], hd, _ => O.refl d hd
  | d, x :: xs, hd, h => by
    simp only [labL, Bool.and_eq_true] at h
    have hx := dp_lt J x h.1
    have h1 := J.lt _ _ hd hx
    exact O.trans d (j d (x.dp j)) _ hd h1 (dpL_lt J _ xs h1 h.2) (J.left _ _ hd hx) (dpL_le O J _ xs h1 h.2)
theorem la_le_dp (O : Ord r n) (J : IsJ r n j) {t : NV} (h : t.labB n = true) : r t.la.toNat (t.dp j) = true := by
  have h1 := labB_la h
  rw [dp_is]
  refine dpL_le O J _ _ (by omega) ?_
  rw [labB_is] at h
  simp only [Bool.and_eq_true] at h
  exact h.2
theorem joins_one' (O : Ord r n) (J : IsJ r n j) {a b : Nat} (ha : a < n) (hb : b < n) : joinsL r n a b = [j a b] := by
  have hbb : ∀ (m c : Nat), bbB r m a b c = true ↔ ∀ d, d < m → r a d = true → r b d = true → r c d = true := by
    intro m c
    unfold bbB
    rw [List.all_eq_true]
    constructor
    · intro h d hd h1 h2
      have := h d (List.mem_range.2 hd)
      simpa [h1, h2] using this
    · intro h d hd
      have := h d (List.mem_range.1 hd)
      cases h1 : r a d <;> cases h2 : r b d <;> simp [h1, h2] at this ⊢
      exact this
  have hm : ∀ x, x ∈ joinsL r n a b ↔ x = j a b := by
    intro x
    unfold joinsL
    simp only [List.mem_filter, List.mem_range, Bool.and_eq_true, hbb]
    constructor
    · rintro ⟨hx, ⟨h1, h2⟩, h3⟩
      exact O.anti _ _ hx (J.lt _ _ ha hb) (h3 _ (J.lt _ _ ha hb) (J.left _ _ ha hb) (J.right _ _ ha hb)) (J.least _ _ _ ha hb hx h1 h2)
    · rintro rfl
      exact ⟨J.lt _ _ ha hb, ⟨J.left _ _ ha hb, J.right _ _ ha hb⟩, fun d hd h1 h2 => J.least _ _ _ ha hb hd h1 h2⟩
  have hnd : (joinsL r n a b).Nodup := List.Pairwise.filter _ List.nodup_range
  match hl : joinsL r n a b with
  | [] => have := (hm (j a b)).2 rfl; rw [hl] at this; simp at this
  | [x] => rw [(hm x).1 (by rw [hl]; simp)]
  | x :: y :: l =>
    have hx := (hm x).1 (by rw [hl]; simp)
    have hy := (hm y).1 (by rw [hl]; simp)
    rw [hl] at hnd
    simp [hx, hy] at hnd
/-- joins, three of them -/
theorem j_assoc (O : Ord r n) (J : IsJ r n j) {a b c : Nat} (ha : a < n) (hb : b < n) (hc : c < n) : j (j a b) c = j a (j b c) := by
  have h1 := J.lt a b ha hb
  have h2 := J.lt b c hb hc
  have h3 := J.lt _ _ h1 hc
  have h4 := J.lt _ _ ha h2
  have q1 := J.left _ _ ha h2
  have q2 := J.right _ _ ha h2
  refine O.anti _ _ h3 h4 (J.least _ _ _ h1 hc h4 (J.least _ _ _ ha hb h4 q1 (O.trans _ _ _ hb h2 h4 (J.left _ _ hb hc) q2)) (O.trans _ _ _ hc h2 h4 (J.right _ _ hb hc) q2)) ?_
  have p1 := J.left _ _ h1 hc
  have p2 := J.right _ _ h1 hc
  exact J.least _ _ _ ha h2 h3 (O.trans _ _ _ ha h1 h3 (J.left _ _ ha hb) p1) (J.least _ _ _ hb hc h3 (O.trans _ _ _ hb h1 h3 (J.right _ _ ha hb) p1) p2)
theorem j_bot (O : Ord r n) (J : IsJ r n j) {a b : Nat} (ha : a < n) (hb : b < n) (h : r b a = true) : j a b = a :=
  O.anti _ _ (J.lt _ _ ha hb) ha (J.least _ _ _ ha hb ha (O.refl _ ha) h) (J.left _ _ ha hb)
theorem bot_j (O : Ord r n) (J : IsJ r n j) {a b : Nat} (ha : a < n) (hb : b < n) (h : r b a = true) : j b a = a :=
  O.anti _ _ (J.lt _ _ hb ha) ha (J.least _ _ _ hb ha ha h (O.refl _ ha)) (J.right _ _ hb ha)
theorem j_mono (O : Ord r n) (J : IsJ r n j) {a b c : Nat} (ha : a < n) (hb : b < n) (hc : c < n) (h : r a b = true) : r (j a c) (j b c) = true :=
  have h4 := J.lt _ _ hb hc
  J.least _ _ _ ha hc h4 (O.trans _ _ _ ha hb h4 h (J.left _ _ hb hc)) (J.right _ _ hb hc)
end
section
open _root_.Go.Proofs.Ytelladgeehlkpaa.Lv (foldT foldT_succ trn sz sr sj se sbo sz_pos sr_ord sr_j sr_m)
theorem fold_low {r : Nat → Nat → Bool} {n : Nat} {j : Nat → Nat → Nat} (o : Ord r n) (J : IsJ r n j) (h0 : 0 < n) : ∀ k, k ≤ n → foldT j k < n ∧ ∀ a, a < k → r a (foldT j k) = true
  | 0, _ => ⟨by simpa [foldT] using h0, fun a h => by omega⟩
  | k + 1, hk => by
    obtain ⟨h1, h2⟩ := fold_low o J h0 k (by omega)
    rw [foldT_succ]
    refine ⟨J.lt _ _ h1 (by omega), fun a ha => ?_⟩
    by_cases e : a < k
    · exact o.trans _ _ _ (by omega) h1 (J.lt _ _ h1 (by omega)) (h2 a e) (J.left _ _ h1 (by omega))
    · obtain rfl : a = k := by omega
      exact J.right _ _ h1 (by omega)
/-- the bottom is a level, below all -/
theorem sbo_lt (k : Nat) : sbo k < sz k := (fold_low (sr_ord k).turn (sr_m k) (sz_pos k) (sz k) (Nat.le_refl _)).1
theorem sbo_low (k a : Nat) (ha : a < sz k) : sr k (sbo k) a = true := (fold_low (sr_ord k).turn (sr_m k) (sz_pos k) (sz k) (Nat.le_refl _)).2 a ha
end
end Nd
end Go.Proofs.Ytelladgeehlkpaa
namespace Go.Proofs.Ytelladgeehlkpaa
open Go.RowKit
namespace Lv
/-- one pair, laid on a row -/
def stepP (f : Nat → Bool) (p : Int × Int) : Nat → Bool := if f p.1.toNat = true then fun z => decide (z = p.2.toNat) || f z else f
def passP (ps : List (Int × Int)) (f : Nat → Bool) : Nat → Bool := ps.foldl stepP f
def iterP (ps : List (Int × Int)) (a : Nat) : Nat → Nat → Bool
  | 0 => fun z => decide (z = a)
  | k + 1 => passP ps (iterP ps a k)
def tabR (ps : List (Int × Int)) (n : Nat) : Nat → Nat → Bool := fun a => iterP ps a n
theorem stepP_le (f : Nat → Bool) (p : Int × Int) (z : Nat) (h : f z = true) : stepP f p z = true := by
  unfold stepP
  split
  · simp [h]
  · exact h
theorem passP_le : ∀ (ps : List (Int × Int)) (f : Nat → Bool) (z : Nat), f z = true → passP ps f z = true
  | [], _, _, h => h
  | p :: ps, f, z, h => passP_le ps (stepP f p) z (stepP_le f p z h)
/-- what is set follows -/
theorem passP_in {P : Nat → Prop} : ∀ (ps : List (Int × Int)) (f : Nat → Bool), (∀ z, f z = true → P z) → (∀ p, p ∈ ps → P p.1.toNat → P p.2.toNat) → ∀ z, passP ps f z = true → P z
  | [], _, h, _, z, hz => h z hz
  | p :: ps, f, h, hp, z, hz => by
    refine passP_in ps (stepP f p) (fun y hy => ?_) (fun q hq => hp q (by simp [hq])) z hz
    unfold stepP at hy
    split at hy
    · rename_i hx
      simp only [Bool.or_eq_true, decide_eq_true_eq] at hy
      rcases hy with rfl | hy
      · exact hp p (by simp) (h _ hx)
      · exact h y hy
    · exact h y hy
def ClosedP (ps : List (Int × Int)) (f : Nat → Bool) : Prop := ∀ p, p ∈ ps → f p.1.toNat = true → f p.2.toNat = true
/-- a pass sets what its pairs lead to from what was set -/
theorem passP_sets : ∀ (ps : List (Int × Int)) (f : Nat → Bool) (p : Int × Int), p ∈ ps → f p.1.toNat = true → passP ps f p.2.toNat = true
  | q :: ps, f, p, hm, hf => by
    rcases List.mem_cons.1 hm with rfl | hm
    · refine passP_le ps (stepP f p) _ ?_
      simp [stepP, hf]
    · exact passP_sets ps (stepP f q) p hm (stepP_le f q _ hf)
theorem passP_closed {ps : List (Int × Int)} {f : Nat → Bool} (h : ClosedP ps f) : ∀ z, passP ps f z = true → f z = true :=
  passP_in ps f (fun _ hz => hz) h
def cntP (n : Nat) (f : Nat → Bool) : Nat := (List.range n).countP f
theorem iterP_count {ps : List (Int × Int)} {n a : Nat} (ha : a < n) (hr : prB ps n = true) : ∀ k, ClosedP ps (iterP ps a k) ∨ k + 1 ≤ cntP n (iterP ps a k)
  | 0 => .inr (by
      have : 0 < cntP n (iterP ps a 0) := List.countP_pos_iff.2 ⟨a, by simpa using ha, by simp [iterP]⟩
      omega)
  | k + 1 => by
    rcases iterP_count ha hr k with h | h
    · left
      intro p hp hf
      exact passP_le ps _ _ (h p hp (passP_closed h _ hf))
    · by_cases hc : ClosedP ps (iterP ps a k)
      · left
        intro p hp hf
        exact passP_le ps _ _ (hc p hp (passP_closed hc _ hf))
      · right
        have : cntP n (iterP ps a k) < cntP n (iterP ps a (k + 1)) := by
          refine countP_lt _ (fun z _ hz => passP_le ps _ z hz) ?_
          false_or_by_contra
          rename_i hno
          apply hc
          intro p hp hf
          cases h2 : iterP ps a k p.2.toNat with
          | true => rfl
          | false =>
            obtain ⟨i, hi⟩ := List.getElem?_of_mem hp
            have hb := prB_get hr hi
            exact absurd ⟨p.2.toNat, by simp; omega, h2, passP_sets ps _ p hp hf⟩ hno
        omega
theorem tab_closed {ps : List (Int × Int)} {n a : Nat} (ha : a < n) (hr : prB ps n = true) : ClosedP ps (tabR ps n a) := by
  rcases iterP_count ha hr n with h | h
  · exact h
  · have : cntP n (iterP ps a n) ≤ n := by
      have := List.countP_le_length (p := iterP ps a n) (l := List.range n)
      simpa [cntP] using this
    omega
theorem iterP_has {ps : List (Int × Int)} {a : Nat} : ∀ k, iterP ps a k a = true
  | 0 => by simp [iterP]
  | k + 1 => passP_le ps _ _ (iterP_has k)
theorem tab_cl {ps : List (Int × Int)} {n : Nat} (hn : n ≤ 8) (hr : prB ps n = true) (a b : Nat) (ha : a < n) : tabR ps n a b = cl ps n a b := by
  rw [Bool.eq_iff_iff]
  constructor
  · have key : ∀ k z, iterP ps a k z = true → z < n ∧ cl ps n a z = true := by
      intro k
      induction k with
      | zero =>
        intro z hz
        simp [iterP] at hz
        subst hz
        exact ⟨ha, clo_sub _ z z (by omega) (by omega) (by simp [pairT, ha])⟩
      | succ k ih =>
        refine passP_in (P := fun z => z < n ∧ cl ps n a z = true) ps _ ih fun p hp hq => ?_
        obtain ⟨i, hi⟩ := List.getElem?_of_mem hp
        have hbd := prB_get hr hi
        refine ⟨by omega, clo_trans _ a p.1.toNat p.2.toNat (by omega) (by omega) (by omega) hq.2 (clo_sub _ _ _ (by omega) (by omega) ?_)⟩
        unfold pairT
        simp only [Bool.or_eq_true, List.any_eq_true, Bool.and_eq_true, decide_eq_true_eq]
        exact .inr ⟨p, hp, by omega, by omega⟩
    exact fun h => (key n b h).2
  · intro h
    have hc := tab_closed ha hr
    have := clo_least (r := pairT ps n) (t := fun x y => !tabR ps n a x || tabR ps n a y) (fun x y z _ _ _ h1 h2 => by
      cases hx : tabR ps n a x <;> cases hy : tabR ps n a y <;> simp_all) (fun x y _ _ hp => by
      unfold pairT at hp
      simp only [Bool.or_eq_true, List.any_eq_true, Bool.and_eq_true, decide_eq_true_eq] at hp
      rcases hp with ⟨rfl, _⟩ | ⟨p, hm, e1, e2⟩
      · dsimp only
        cases tabR ps n a x <;> rfl
      · have h3 := hc p hm
        rw [show p.1.toNat = x by omega, show p.2.toNat = y by omega] at h3
        dsimp only
        cases hx : tabR ps n a x
        · rfl
        · simp [h3 hx]) h
    simpa [show tabR ps n a a = true from iterP_has n] using this
end Lv
end Go.Proofs.Ytelladgeehlkpaa
namespace Go.Proofs.Ytelladgeehlkpaa
open Go.RowKit
namespace Lv
def rowA (n : Nat) (f : Nat → Bool) : Array Value := (Array.range n).map fun i => .bool (f i)
theorem rowA_at (n : Nat) (f : Nat → Bool) (i : Nat) (h : i < n) : (rowA n f)[i]? = some (.bool (f i)) := get_range h
theorem rowA_set (n : Nat) (f : Nat → Bool) (i : Nat) (v : Bool) : (rowA n f).setIfInBounds i (.bool v) = rowA n (fun z => if z = i then v else f z) := by
  apply Array.ext
  · simp [rowA]
  · intro k h1 h2
    have hk : k < (rowA n f).size := by simpa using h1
    rw [Array.getElem_setIfInBounds hk]
    simp only [rowA, Array.getElem_map, Array.getElem_range]
    by_cases h : i = k
    · subst h; simp
    · have : ¬ k = i := fun e => h e.symm
      simp [h, this]
theorem info_bool : (Try.prog.info? 4).map (fun i => (i.zero, i.size, i.bytes)) = some (some (.bool false), 1, 1) := by kernel_rfl
theorem info_row : (Try.prog.info? 98).map (fun i => (i.zero, i.size, i.bytes)) = some (some (.slice none 0 0), 1, 24) := by kernel_rfl
/-- a new row of bools -/
theorem wpList_makeRow {w : World} {ops : Array Oper} {rest : List Oper} {o : Oper} {a : Act} {Q : Exit → Act → World → Prop} (hg : o.guard = none) (l c : Operand) (hop : o.op = Op.makeSlice 98 l c) (n : Nat) (hl : a.eval l = .int .i64 (n : Int)) (hc : a.eval c = .int .i64 (n : Int)) (h8 : n ≤ 8)
    (hK : ∀ w', w'.heap[w.heap.size]? = some (.cells (rowA n fun _ => false) 4) → Below w.heap.size w w' → wpList Try.prog ops Q rest (a.put o.dst (.slice (some ⟨w.heap.size, 0, none⟩) n n)) w') :
    wpList Try.prog ops Q (o :: rest) a w := by
  obtain ⟨i0, hi, hz0, hz1, hz2⟩ := info_parts info_bool
  refine wpList_make_full w hg l c _ hop w.heap.size 4 i0 (.bool false) 1 Try.underlying98 hi hz0 hz1 .i64 .i64 n n n hl hc rfl rfl (by rw [hz2]; omega) (by unfold maxLen; omega) (Nat.le_refl _) fun w' h1 h2 => hK w' ?_ ?_
  · rcases h1.2 with ⟨hv, _⟩ | ⟨g, cap, cur, hv, _, hh, _, _, hs, ht⟩
    · cases hv
    · cases hv
      rw [hh]
      have e : cur = rowA n fun _ => false := by
        apply Array.toList_inj.1
        rw [← List.take_of_length_le (l := cur.toList) (i := n * 1) (by simp; omega), ht]
        simp [madeCells, rowA, Value.cells, Nat.mod_one]
      rw [e]
  · exact (Below.refl _ _).grown h2 (Nat.le_refl _) (fun k hk => by cases hk)
/-- only block g may have turned -/
structure Only (g : Nat) (w w' : World) : Prop where
  os : w'.os = w.os
  tape : w'.tape = w.tape
  output : w'.output = w.output
  size : w'.heap.size = w.heap.size
  block : ∀ k, k ≠ g → w'.heap[k]? = w.heap[k]?
theorem Only.refl (g : Nat) (w : World) : Only g w w := ⟨rfl, rfl, rfl, rfl, fun _ _ => rfl⟩
theorem Only.set {g : Nat} {w w' : World} (h : Only g w w') (o : Nat) (v : Value) : Only g w (w'.setCell ⟨g, o, none⟩ v) :=
  ⟨h.os, h.tape, h.output, by rw [← h.size]; simp [World.setCell], fun k hk => (heap_setCell_other _ _ _ _ hk).trans (h.block k hk)⟩
theorem Only.below {g B : Nat} {w0 w w' : World} (h : Only g w w') (hb : Below B w0 w) (hg : B ≤ g) : Below B w0 w' :=
  hb.trans ⟨h.os, h.tape, h.output, by rw [h.size]; exact Nat.le_refl _, fun k hk => h.block k (by omega)⟩
theorem Only.owns {g : Nat} {w w' : World} {base : Nat} {e : TypeId} {size n : Nat} {v : Value} {xs : List Value} (h : Only g w w') (ho : w.ownsRow base e size v n xs) (hne : w.heap.size ≤ g ∨ ∀ c t fr, w.heap[g]? = some (.cells c t fr) → t ≠ e) : w'.ownsRow base e size v n xs := by
  refine ⟨ho.1, ?_⟩
  rcases ho.2 with h0 | ⟨k, cap, cur, hv, hb, hh, r⟩
  · exact .inl h0
  · refine .inr ⟨k, cap, cur, hv, hb, ?_, r⟩
    rw [h.block k ?_]
    · exact hh
    · rintro rfl
      rcases hne with hne | hne
      · have := lt_of_some hh; omega
      · exact hne _ _ _ hh rfl
def slV (n g : Nat) : Value := .slice (some ⟨g, 0, none⟩) n n
/-- the rows that are made so far -/
structure RowsTo (ps : List (Int × Int)) (n base : Nat) (wr : World) (u : Value) (Rs : List Nat) : Prop where
  own : wr.ownsRow base 98 1 u Rs.length (Rs.map (slV n))
  row : ∀ (i g : Nat), Rs[i]? = some g → base ≤ g ∧ wr.heap[g]? = some (.cells (rowA n (tabR ps n i)) 4)
theorem RowsTo.go {ps : List (Int × Int)} {n base : Nat} {wr w1 : World} {u : Value} {Rs : List Nat} (h : RowsTo ps n base wr u Rs) (hb : Below wr.heap.size wr w1) : RowsTo ps n base w1 u Rs := by
  refine ⟨⟨h.own.1, ?_⟩, fun i g hi => ⟨(h.row i g hi).1, bkeep hb (h.row i g hi).2⟩⟩
  rcases h.own.2 with h0 | ⟨k, cap, cur, hv, hb', hh, r⟩
  · exact .inl h0
  · exact .inr ⟨k, cap, cur, hv, hb', bkeep hb hh, r⟩
theorem wpList_appendRow {ops : Array Oper} {rest : List Oper} {o : Oper} {a : Act} {w0 : World} {Q : Exit → Act → World → Prop} (hgd : o.guard = none) (s x : Operand)
    (ho : o.op = .call { callee := .builtin .append, args := #[s, x], argTypes := #[31, 31] }) (ps : List (Int × Int)) (n base : Nat) (u : Value) (Rs : List Nat) (g : Nat) (hs : a.eval s = u)
    (hx : a.eval x = .slice (some ⟨w0.heap.size, 0, none⟩) 1 1) (hR : RowsTo ps n base w0 u Rs) (hlen : Rs.length ≤ 8) (hbase : base ≤ w0.heap.size) (hg : base ≤ g) (hrow : w0.heap[g]? = some (.cells (rowA n (tabR ps n Rs.length)) 4))
    (h : ∀ v' w', RowsTo ps n base w' v' (Rs ++ [g]) → Below base w0 w' → wpList Try.prog ops Q rest (a.put o.dst v') w') :
    wpList Try.prog ops Q (o :: rest) a (w0.alloc (.cells #[.slice (some ⟨g, 0, none⟩) n n] 98)) := by
  obtain ⟨i0, hi, hz0, hz1, hz2⟩ := info_parts info_row
  refine wpList_append_own _ hgd s x 31 ho base 98 i0 (.slice none 0 0) 1 24 Try.underlying31 hi hz0 hz1 hz2 rfl (by decide) u Rs.length _ hs (hR.own.alloc _) ⟨w0.heap.size, 0, none⟩ 1 1 [slV n g] hx rfl ?_ ?_ ?_ ?_ ?_ ?_
  · intro j v hj
    match j, hj with
    | 0, hj =>
      cases hj
      exact cell_of_row _ _ 0 _ _ _ (al_new _ _)
  · intro v hv
    simp only [List.mem_singleton] at hv
    subst hv
    rfl
  · unfold maxLen; omega
  · omega
  · rw [al_size]; omega
  · intro v' w' h1 h2 _
    have keep : ∀ (k : Nat) (f : Nat → Bool), w0.heap[k]? = some (Obj.cells (rowA n f) 4) → w'.heap[k]? = some (Obj.cells (rowA n f) 4) := fun k f hk => by
      have hlt := lt_of_some hk
      rw [h2.block k (by rw [al_size]; omega) ?_, al_old _ _ _ hlt]
      · exact hk
      · intro e
        rcases hR.own.2 with ⟨h0, _⟩ | ⟨k', cap, cur, hv, _, hh, _⟩
        · rw [h0] at e; cases e
        · rw [hv] at e
          cases e
          rw [hk] at hh
          cases hh
    refine h v' w' ⟨by simpa using h1, fun i k hik => ?_⟩ (((Below.refl _ _).alloc hbase _).grown h2 (by rw [al_size]; omega) fun k hk => (hR.own.lt k hk).1)
    rw [List.getElem?_append] at hik
    split at hik
    · exact ⟨(hR.row i k hik).1, keep k _ (hR.row i k hik).2⟩
    · rename_i hge
      have hi0 : i - Rs.length < [g].length := (List.getElem?_eq_some_iff.1 hik).1
      simp only [List.length_singleton] at hi0
      obtain rfl : i = Rs.length := by omega
      rw [Nat.sub_self] at hik
      cases hik
      exact ⟨hg, keep g _ hrow⟩
theorem stepP_eq (n : Nat) (f : Nat → Bool) (p : Int × Int) (x y : Nat) (hp : p = ((x : Int), (y : Int))) : rowA n (stepP f p) = if f x = true then rowA n (fun z => if z = y then true else f z) else rowA n f := by
  subst hp
  unfold stepP
  simp only [Int.toNat_natCast]
  split
  · congr 1
    funext z
    by_cases h : z = y <;> simp [h]
  · rfl
theorem take_fold (ps : List (Int × Int)) (f : Nat → Bool) (i : Nat) (p : Int × Int) (h : ps[i]? = some p) : (ps.take (i + 1)).foldl stepP f = stepP ((ps.take i).foldl stepP f) p := by
  rw [List.take_add_one, h]
  simp
def TabPost (ps : List (Int × Int)) (n : Nat) (w : World) (e : Ending) (w' : World) : Prop := Below w.heap.size w w' ∧ ∃ v, e = .returned v ∧ TabAt w' v n (cl ps n)
theorem rows_tab {ps : List (Int × Int)} {n base : Nat} {wr : World} {u : Value} {Rs : List Nat} (h : RowsTo ps n base wr u Rs) (hl : Rs.length = n) (h1 : 1 ≤ n) (h8 : n ≤ 8) (hr : prB ps n = true) : TabAt wr u n (cl ps n) := by
  have ho := h.own
  rw [hl] at ho
  obtain ⟨g, cap, hv⟩ := Joins.ownsRow_form ho (by omega)
  subst hv
  refine ⟨g, cap, fun i => Rs.getD i 0, fun _ => n, rfl, fun a ha => ?_⟩
  obtain ⟨k, hk⟩ : ∃ k, Rs[a]? = some k := ⟨_, List.getElem?_eq_getElem (by omega)⟩
  have e : Rs.getD a 0 = k := by simp [List.getD, hk]
  dsimp only
  rw [e]
  refine ⟨by rw [ho.cellAt a (by omega), List.getElem?_map, hk]; rfl, fun b hb => ?_⟩
  rw [cell_of_row _ _ _ _ _ _ (h.row a k hk).2, rowA_at n _ b hb, tab_cl h8 hr a b ha]
set_option maxHeartbeats 2000000 in
set_option maxRecDepth 100000 in
theorem table_any (vn vb vp : Value) (ss : List ByteArray) (ps : List (Int × Int)) (w : World) (hs : NamesAt w vn ss) (hp : PairsAt w vb ps) (h1 : 1 ≤ ss.length) (h8 : ss.length ≤ 8) (hr : prB ps ss.length = true) :
    Calls Try.prog 25 #[.agg #[vn, vb, vp]] w (TabPost ps ss.length w) := by
  have hl : ps.length ≤ 64 := by
    have := hr
    unfold prB at this
    simp only [Bool.and_eq_true, decide_eq_true_eq] at this
    exact this.1
  have HR := Lib.hid hr
  clear hr
  obtain ⟨an, capn, rfl, _, _⟩ := hs.form
  obtain ⟨ab, capb, rfl, hc⟩ := hp.form
  have HC := Lib.hid hc
  clear hc hs hp
  go_enter Try.func25, Try.ntmps25
  go_wp2
  have kb0 : Below w.heap.size w (w.alloc (Obj.cells #[Value.slice an ss.length capn, Value.slice ab ps.length capb, vp] 56)) := (Below.refl _ _).alloc (Nat.le_refl _) _
  have f0 := al_new w (Obj.cells #[Value.slice an ss.length capn, Value.slice ab ps.length capb, vp] 56)
  have z0 := al_size w (Obj.cells #[Value.slice an ss.length capn, Value.slice ab ps.length capb, vp] 56)
  have F0 := Lib.hid f0
  have Z0 := Lib.hid z0
  clear f0 z0
  generalize w.alloc (Obj.cells #[Value.slice an ss.length capn, Value.slice ab ps.length capb, vp] 56) = w0 at kb0 F0 Z0
  generalize ss.length = n at *
  go_loopw [4, 5, 6, 7, 8] (fun u i _ _ _ wr => ∃ (a : Nat) (Rs : List Nat), a ≤ n ∧ i = .int .i64 a ∧ Rs.length = a ∧ Below w0.heap.size w0 wr ∧ RowsTo ps n w0.heap.size wr u Rs) (fun _ i _ _ _ _ => n - (intOf i).toNat)
  case atStart => exact ⟨0, [], by omega, rfl, rfl, Below.refl _ _, ⟨World.ownsRow_nil _ _ _ _, fun i g h => by simp at h⟩⟩
  case round =>
    obtain ⟨a, Rs, ha, rfl, hRl, kb, hR⟩ := hrel
    have HRl := Lib.hid hRl
    clear hRl
    obtain ⟨wo, rfl⟩ : ∃ wo : World, wo = wr := ⟨_, rfl⟩
    have HRs := Lib.hid hR
    clear hR
    by_cases hlt : a < n
    · go_wp2_with (refine wpList_makeRow rfl _ _ rfl n rfl rfl h8 ?_; intro w1 hrow hb1; have c0 := (cell_of_row w1 wo.heap.size a _ _ _ hrow).trans (rowA_at n _ a hlt); have c1 := frozen_of_row w1 wo.heap.size a _ _ hrow; have HW := Lib.hid hrow; clear hrow)
      have hgr : w0.heap.size ≤ wo.heap.size := kb.size
      have kA : Below w0.heap.size w0 (w1.setCell ⟨wo.heap.size, a, none⟩ (.bool true)) := (bt kb hb1).setCell hgr _
      have oA : Only wo.heap.size w1 (w1.setCell ⟨wo.heap.size, a, none⟩ (.bool true)) := (Only.refl _ _).set _ _
      have rA : (w1.setCell ⟨wo.heap.size, a, none⟩ (.bool true)).heap[wo.heap.size]? = some (.cells (rowA n (iterP ps a 0)) 4) := by
        rw [heap_setCell_same _ _ a _ _ _ HW.out, rowA_set]
        have e : (fun z => if z = a then true else false) = iterP ps a 0 := by
          funext z
          by_cases h : z = a <;> simp [iterP, h]
        rw [e]
      have RA : RowsTo ps n w0.heap.size (w1.setCell ⟨wo.heap.size, a, none⟩ (.bool true)) u4 Rs := by
        have h2 := HRs.out.go hb1
        refine ⟨oA.owns h2.own (.inr fun c t fr hh => by rw [HW.out] at hh; cases hh; decide), fun i g hi => ⟨(h2.row i g hi).1, ?_⟩⟩
        rw [oA.block g (by have := lt_of_some (HRs.out.row i g hi).2; omega)]
        exact (h2.row i g hi).2
      have hRlt : ∀ (i g : Nat), Rs[i]? = some g → g < wo.heap.size := fun i g hi => lt_of_some (HRs.out.row i g hi).2
      have HRlt := Lib.hid hRlt
      clear hRlt
      have hw0 : w.heap.size < w0.heap.size := by rw [Z0.out]; omega
      have FA := Lib.hid (((bkeep kA F0.out) : _ = _))
      have RAh := Lib.hid RA
      have rAh := Lib.hid rA
      clear RA rA oA HW c0 c1 hb1 HRs
      generalize w1.setCell ⟨wo.heap.size, a, none⟩ (.bool true) = wA at kA FA RAh rAh
      generalize wo.heap.size = gr at hgr rAh HRlt
      clear kb
      go_loopw [7, 8] (fun i _ wr => ∃ k : Nat, k ≤ n ∧ i = .int .i64 k ∧ Only gr wA wr ∧ wr.heap[gr]? = some (.cells (rowA n (iterP ps a k)) 4)) (fun i _ _ => n - (intOf i).toNat)
      case atStart => exact ⟨0, by omega, rfl, Only.refl _ _, rAh.out⟩
      case round =>
        obtain ⟨k, hk, rfl, ho, hrow⟩ := hrel
        obtain ⟨wp, rfl⟩ : ∃ wp : World, wp = wr := ⟨_, rfl⟩
        have HW := Lib.hid hrow
        clear hrow
        by_cases hlt2 : k < n
        · go_wp2
          go_loopw [8] (fun i wr => ∃ m : Nat, m ≤ ps.length ∧ i = .int .i64 m ∧ Only gr wA wr ∧ wr.heap[gr]? = some (.cells (rowA n ((ps.take m).foldl stepP (iterP ps a k))) 4)) (fun i _ => ps.length - (intOf i).toNat)
          case atStart => exact ⟨0, by omega, rfl, ho, HW.out⟩
          case round =>
            clear ho HW
            obtain ⟨m, hm, rfl, ho, hrow⟩ := hrel
            have HW := Lib.hid hrow
            clear hrow
            have fB : wr.heap[w.heap.size]? = some (Obj.cells #[Value.slice an n capn, Value.slice ab ps.length capb, vp] 56) := (ho.block _ (by omega)).trans FA.out
            have b1 := cell_of_row wr w.heap.size 1 _ _ _ fB
            clear fB
            by_cases hlt3 : m < ps.length
            · obtain ⟨⟨x, y⟩, hx⟩ : ∃ x, ps[m]? = some x := ⟨_, List.getElem?_eq_getElem hlt3⟩
              obtain ⟨b, off, rfl, c1, c2⟩ := HC.out m _ hx
              obtain ⟨x0, x1, y0, y1⟩ := prB_get HR.out hx
              dsimp only at x0 x1 y0 y1 c1 c2
              obtain ⟨x, rfl⟩ := Int.eq_ofNat_of_zero_le x0
              obtain ⟨y, rfl⟩ := Int.eq_ofNat_of_zero_le y0
              have kW : Below w.heap.size w wr := bt kb0 (ho.below kA hgr)
              have e1 := cellB kW c1
              have e2 := cellB kW c2
              have hst := take_fold ps (iterP ps a k) m _ hx
              have heq := stepP_eq n ((ps.take m).foldl stepP (iterP ps a k)) _ x y rfl
              rw [← hst] at heq
              have HS := Lib.hid heq
              clear c1 c2 hx hst heq
              generalize (ps.take m).foldl stepP (iterP ps a k) = f at HW HS
              have d1 := (cell_of_row wr gr x _ _ _ HW.out).trans (rowA_at n f x (by omega))
              have d2 := (cell_of_row wr gr y _ _ _ HW.out).trans (rowA_at n f y (by omega))
              have d3 := frozen_of_row wr gr y _ _ HW.out
              cases hf : f x
              · rw [hf] at d1
                go_wp2
                go_roundw
                case rel => exact ⟨m + 1, by omega, by go_num, ho, by rw [HS.out, if_neg (by rw [hf]; exact Bool.false_ne_true)]; exact HW.out⟩
                case measure => simp [intOf]; omega
              · rw [hf] at d1
                go_wp2
                go_roundw
                case rel => exact ⟨m + 1, by omega, by go_num, ho.set _ _, by rw [HS.out, if_pos hf, heap_setCell_same _ _ y _ _ _ HW.out, rowA_set]⟩
                case measure => simp [intOf]; omega
            · obtain rfl : m = ps.length := by omega
              go_wp2
              go_roundw
              case rel => exact ⟨k + 1, by omega, by go_num, ho, by have := HW.out; rw [List.take_length] at this; exact this⟩
              case measure => simp [intOf]; omega
        · obtain rfl : k = n := by omega
          have Rk : RowsTo ps k w0.heap.size wp u4 Rs := by
            have h2 := RAh.out
            refine ⟨ho.owns h2.own (.inr fun c t fr hh => by rw [rAh.out] at hh; cases hh; decide), fun i g hi => ⟨(h2.row i g hi).1, ?_⟩⟩
            rw [ho.block g (by have := HRlt.out i g hi; omega)]
            exact (h2.row i g hi).2
          have kp := ho.below kA hgr
          go_wp2_with (at_builtin; refine wpList_appendRow rfl _ _ rfl ps k w0.heap.size u4 Rs gr rfl rfl Rk (by rw [HRl.out]; omega) kp.size hgr (by rw [HRl.out]; exact HW.out) ?_; intro v' w' hR' hgrow)
          go_roundw
          case rel => exact ⟨a + 1, Rs ++ [gr], by omega, by go_num, by simp [HRl.out], kp.trans hgrow, hR'⟩
          case measure => simp [intOf]; omega
    · obtain rfl : a = n := by omega
      go_wp2
      go_ret
      exact ⟨bt kb0 kb, _, rfl, rows_tab HRs.out HRl.out h1 h8 HR.out⟩
end Lv
end Go.Proofs.Ytelladgeehlkpaa
