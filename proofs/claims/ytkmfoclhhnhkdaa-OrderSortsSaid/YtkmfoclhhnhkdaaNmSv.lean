/- What a region that draws its order may lean on: blocks that stand, blocks that are written. -/
import Derived.Test.YtkmfoclhhnhkdaaNmOps
import Derived.Outline
namespace Go.Proofs.Ytkmfoclhhnhkdaa
open Go.RowKit
namespace Nm
/-- o's blocks below B stand; so do the blocks fx, with what they hold; the blocks op are there -/
def Sv (B : Nat) (o : World) (fx : List (Nat × Value × Value)) (op : List Nat) (w : World) : Prop :=
  Below B o w ∧ (∀ t ∈ fx, Bx w t.1 t.2.1 t.2.2) ∧ (∀ k ∈ op, ∃ x y, Bx w k x y)
variable {B : Nat} {o a b : World} {fx : List (Nat × Value × Value)} {op : List Nat}
theorem Sv.drew (h : Sv B o fx op a) : Sv B o fx op a.drew := ⟨h.1.drew, h.2.1, h.2.2⟩
theorem Sv.call (h : Sv B o fx op a) (k : Below a.heap.size a b) (hB : B ≤ o.heap.size) : Sv B o fx op b :=
  ⟨h.1.trans (k.mono (Nat.le_trans hB h.1.size)), fun t ht => (h.2.1 t ht).on k, fun j hj => by obtain ⟨x, y, g⟩ := h.2.2 j hj; exact ⟨x, y, g.on k⟩⟩
theorem Sv.alloc (h : Sv B o fx op a) (hB : B ≤ o.heap.size) (c : Obj) : Sv B o fx op (a.alloc c) := h.call (bA1 a c) hB
theorem Bx.set0 {k : Nat} {x y : Value} (h : Bx a k x y) (v : Value) : Bx (a.setCell ⟨k, 0, none⟩ v) k v y := by
  have n1 : (⟨k, 0, none⟩ : Addr) ≠ ⟨k, 1, none⟩ := by simp
  refine ⟨World.cell?_setCell_same _ _ _ h.1, ?_, ?_, ?_⟩
  · rw [World.cell?_setCell_other (h := n1)]; exact h.2.1
  · rw [World.frozen?_setCell]; exact h.2.2.1
  · rw [World.frozen?_setCell]; exact h.2.2.2
theorem Bx.set1 {k : Nat} {x y : Value} (h : Bx a k x y) (v : Value) : Bx (a.setCell ⟨k, 1, none⟩ v) k x v := by
  have n1 : (⟨k, 1, none⟩ : Addr) ≠ ⟨k, 0, none⟩ := by simp
  refine ⟨?_, World.cell?_setCell_same _ _ _ h.2.1, ?_, ?_⟩
  · rw [World.cell?_setCell_other (h := n1)]; exact h.1
  · rw [World.frozen?_setCell]; exact h.2.2.1
  · rw [World.frozen?_setCell]; exact h.2.2.2
theorem Sv.set0 (h : Sv B o fx op a) {k : Nat} (hk : B ≤ k) (hf : ∀ t ∈ fx, k ≠ t.1) (v : Value) : Sv B o fx op (a.setCell ⟨k, 0, none⟩ v) :=
  ⟨h.1.setCell hk v, fun t ht => (h.2.1 t ht).far (hf t ht) v, fun j hj => by
    obtain ⟨x, y, g⟩ := h.2.2 j hj
    by_cases e : k = j
    · subst e; exact ⟨_, _, g.set0 v⟩
    · exact ⟨x, y, g.far (p := ⟨k, 0, none⟩) e v⟩⟩
theorem Sv.set1 (h : Sv B o fx op a) {k : Nat} (hk : B ≤ k) (hf : ∀ t ∈ fx, k ≠ t.1) (v : Value) : Sv B o fx op (a.setCell ⟨k, 1, none⟩ v) :=
  ⟨h.1.setCell hk v, fun t ht => (h.2.1 t ht).far (hf t ht) v, fun j hj => by
    obtain ⟨x, y, g⟩ := h.2.2 j hj
    by_cases e : k = j
    · subst e; exact ⟨_, _, g.set1 v⟩
    · exact ⟨x, y, g.far (p := ⟨k, 1, none⟩) e v⟩⟩
theorem Sv.fix0 {k : Nat} {x y : Value} (hm : (k, x, y) ∈ fx) : ∀ w, Sv B o fx op w → w.cell? ⟨k, 0, none⟩ = some x := fun _ h => (h.2.1 _ hm).1
theorem Sv.fix1 {k : Nat} {x y : Value} (hm : (k, x, y) ∈ fx) : ∀ w, Sv B o fx op w → w.cell? ⟨k, 1, none⟩ = some y := fun _ h => (h.2.1 _ hm).2.1
theorem Sv.get {k : Nat} (hm : k ∈ op) : ∃ G H : World → Value, (∀ w, Sv B o fx op w → w.cell? ⟨k, 0, none⟩ = some (G w)) ∧ (∀ w, Sv B o fx op w → w.cell? ⟨k, 1, none⟩ = some (H w)) ∧ (∀ w, Sv B o fx op w → w.frozen? ⟨k, 0, none⟩ = false) ∧ (∀ w, Sv B o fx op w → w.frozen? ⟨k, 1, none⟩ = false) := by
  refine ⟨fun w => (w.cell? ⟨k, 0, none⟩).getD undef, fun w => (w.cell? ⟨k, 1, none⟩).getD undef, ?_, ?_, ?_, ?_⟩ <;> intro w h <;> obtain ⟨x, y, g⟩ := h.2.2 k hm
  · simp only [g.1, Option.getD_some]
  · simp only [g.2.1, Option.getD_some]
  · exact g.2.2.1
  · exact g.2.2.2
theorem set_none {a : World} {p : Addr} {v : Value} (h : a.cell? p = none) : (a.setCell p v).cell? p = none := by
  unfold World.cell? at h
  simp only [World.setCell, World.cell?, Array.getElem?_modify, ↓reduceIte]
  cases hh : a.heap[p.block]? with
  | none => simp
  | some x =>
    rw [hh] at h
    cases x <;> simp at h ⊢
    cases hs : p.spot with
    | some _ => simp
    | none => simp [hs] at h ⊢; omega
theorem set_is {a : World} {p q : Addr} {v u : Value} (h : (a.setCell p v).cell? q = some u) : ∃ u', a.cell? q = some u' := by
  by_cases e : p = q
  · subst e
    cases hc : a.cell? p with
    | some u' => exact ⟨u', rfl⟩
    | none => rw [set_none hc] at h; simp at h
  · rw [World.cell?_setCell_other (h := e)] at h; exact ⟨u, h⟩
/-- a block that is there behind a store into both its cells holds what was stored -/
theorem Bx.was {k : Nat} {x y v1 v2 : Value} (h : Bx ((a.setCell ⟨k, 0, none⟩ v1).setCell ⟨k, 1, none⟩ v2) k x y) : Bx ((a.setCell ⟨k, 0, none⟩ v1).setCell ⟨k, 1, none⟩ v2) k v1 v2 := by
  obtain ⟨_, h0⟩ := set_is h.1
  obtain ⟨_, h0⟩ := set_is h0
  obtain ⟨_, h1⟩ := set_is h.2.1
  obtain ⟨_, h1⟩ := set_is h1
  have f0 := h.2.2.1
  have f1 := h.2.2.2
  rw [World.frozen?_setCell, World.frozen?_setCell] at f0 f1
  exact Bx.put ⟨h0, h1, f0, f1⟩ v1 v2
theorem Bx.near {k : Nat} {x y v : Value} {p : Addr} (h : Bx (a.setCell p v) k x y) (hp : p.block ≠ k) : Bx a k x y := by
  obtain ⟨h0, h1, f0, f1⟩ := h
  rw [World.cell?_setCell_far _ _ _ _ hp] at h0 h1
  rw [World.frozen?_setCell] at f0 f1
  exact ⟨h0, h1, f0, f1⟩
theorem wrapS (x : Int) (h0 : -9223372036854775808 ≤ x) (h1 : x < 9223372036854775808) : IntKind.i64.wrap x = x := by
  simp only [IntKind.wrap, IntKind.bits, IntKind.signed]
  simp
  omega
/-- t is ten to the power of x -/
def Ten (x t : Int) : Prop := ∃ n : Nat, n ≤ 18 ∧ (n : Int) = x ∧ ((10 ^ n : Nat) : Int) = t
theorem ten_c {x t : Int} (h : Ten x t) (w : World) : Calls Try.prog 97 #[.int .i64 x] w fun e w' => e = .returned (.int .i64 t) ∧ w = w' := by
  obtain ⟨n, hn, rfl, rfl⟩ := h
  exact ten_any n w hn
/-- p and q are the halves of a product -/
def Prd (a b p q : Int) : Prop := -9223372036854775808 ≤ a ∧ a < 9223372036854775808 ∧ -9223372036854775808 ≤ b ∧ b < 9223372036854775808 ∧ wd (a * b) = .agg #[.int .u64 p, .int .u64 q]
theorem prd_c {a b p q : Int} (h : Prd a b p q) (w : World) : Calls Try.prog 88 #[.int .i64 a, .int .i64 b] w fun e w' => e = .returned (.agg #[.int .u64 p, .int .u64 q]) ∧ Below w.heap.size w w' := by
  obtain ⟨h1, h2, h3, h4, h5⟩ := h
  rw [← h5]
  exact product_any a b w h1 h2 h3 h4
set_option maxRecDepth 100000 in
set_option maxHeartbeats 4000000 in
theorem aligned_any (ca sa cb sb : Int) (w : World) (m : Nat) (hm : max sa sb = (m : Int)) (a0 : 0 ≤ sa) (b0 : 0 ≤ sb) (hm9 : m ≤ 9)
    (ca0 : -9223372036854775808 ≤ ca) (ca1 : ca < 9223372036854775808) (cb0 : -9223372036854775808 ≤ cb) (cb1 : cb < 9223372036854775808) :
    Calls Try.prog 79 #[nv ca sa, nv cb sb] w fun e w' => e = .returned (.tuple #[wd (ca * ((10 ^ (m - sa.toNat) : Nat) : Int)), wd (cb * ((10 ^ (m - sb.toNat) : Nat) : Int)), .int .i64 (m : Int)]) ∧ Below w.heap.size w w' := by
  have hsa : sa ≤ (m : Int) := by omega
  have hsb : sb ≤ (m : Int) := by omega
  have ka := tenI (m - sa.toNat) (by omega)
  have kb := tenI (m - sb.toNat) (by omega)
  obtain ⟨ta, hA⟩ : ∃ t : Int, ((10 ^ (m - sa.toNat) : Nat) : Int) = t := ⟨_, rfl⟩
  obtain ⟨tb, hB⟩ : ∃ t : Int, ((10 ^ (m - sb.toNat) : Nat) : Int) = t := ⟨_, rfl⟩
  obtain ⟨xa, hxa⟩ : ∃ x : Int, IntKind.i64.wrap ((m : Int) - sa) = x := ⟨_, rfl⟩
  obtain ⟨xb, hxb⟩ : ∃ x : Int, IntKind.i64.wrap ((m : Int) - sb) = x := ⟨_, rfl⟩
  have Ta : Ten xa ta := ⟨m - sa.toNat, by omega, by rw [← hxa, wrapS _ (by omega) (by omega)]; omega, hA⟩
  have Tb : Ten xb tb := ⟨m - sb.toNat, by omega, by rw [← hxb, wrapS _ (by omega) (by omega)]; omega, hB⟩
  rw [hA] at ka ⊢
  rw [hB] at kb ⊢
  obtain ⟨p1, p2, hP⟩ := wd_form (ca * ta)
  obtain ⟨q1, q2, hQ⟩ := wd_form (cb * tb)
  have Pa : Prd ca ta p1 p2 := ⟨ca0, ca1, by omega, by omega, hP⟩
  have Pb : Prd cb tb q1 q2 := ⟨cb0, cb1, by omega, by omega, hQ⟩
  rw [hP, hQ]
  clear hA hB ka kb hP hQ
  unfold nv
  go_enter Try.func79, Try.ntmps79
  go_upto_region 2 with (fail)
  have hS0 : Sv w.heap.size w [(w.heap.size, .int .i64 ca, .int .i64 sa), (w.heap.size + 1, .int .i64 cb, .int .i64 sb)] [w.heap.size + 1 + 1, w.heap.size + 1 + 1 + 1] ((((w.alloc (Obj.cells #[Value.int IntKind.i64 ca, Value.int IntKind.i64 sa] 23)).alloc (Obj.cells #[Value.int IntKind.i64 cb, Value.int IntKind.i64 sb] 23)).alloc (Obj.cells #[Value.int IntKind.u64 0, Value.int IntKind.u64 0] 115)).alloc (Obj.cells #[Value.int IntKind.u64 0, Value.int IntKind.u64 0] 115)) := by
    refine ⟨bA4 _ _ _ _ _, ?_, ?_⟩
    · intro t ht
      simp only [List.mem_cons, List.not_mem_nil, or_false] at ht
      rcases ht with rfl | rfl <;> exact ⟨by simp [go_sem], by simp [go_sem], by simp [go_sem], by simp [go_sem]⟩
    · intro t ht
      simp only [List.mem_cons, List.not_mem_nil, or_false] at ht
      rcases ht with rfl | rfl <;> exact ⟨.int .u64 0, .int .u64 0, by simp [go_sem], by simp [go_sem], by simp [go_sem], by simp [go_sem]⟩
  obtain ⟨fx, hfx⟩ : ∃ fx : List (Nat × Value × Value), [(w.heap.size, .int .i64 ca, .int .i64 sa), (w.heap.size + 1, .int .i64 cb, .int .i64 sb)] = fx := ⟨_, rfl⟩
  obtain ⟨op, hop⟩ : ∃ op : List Nat, [w.heap.size + 1 + 1, w.heap.size + 1 + 1 + 1] = op := ⟨_, rfl⟩
  rw [hfx, hop] at hS0
  have u0 := Sv.fix0 (B := w.heap.size) (o := w) (fx := fx) (op := op) (k := w.heap.size) (x := .int .i64 ca) (y := .int .i64 sa) (by subst hfx; simp)
  have u1 := Sv.fix1 (B := w.heap.size) (o := w) (fx := fx) (op := op) (k := w.heap.size) (x := .int .i64 ca) (y := .int .i64 sa) (by subst hfx; simp)
  have u2 := Sv.fix0 (B := w.heap.size) (o := w) (fx := fx) (op := op) (k := w.heap.size + 1) (x := .int .i64 cb) (y := .int .i64 sb) (by subst hfx; simp)
  have u3 := Sv.fix1 (B := w.heap.size) (o := w) (fx := fx) (op := op) (k := w.heap.size + 1) (x := .int .i64 cb) (y := .int .i64 sb) (by subst hfx; simp)
  obtain ⟨G1, H1, g1, g2, g3, g4⟩ := Sv.get (B := w.heap.size) (o := w) (fx := fx) (op := op) (k := w.heap.size + 1 + 1) (by subst hop; simp)
  obtain ⟨G2, H2, g5, g6, g7, g8⟩ := Sv.get (B := w.heap.size) (o := w) (fx := fx) (op := op) (k := w.heap.size + 1 + 1 + 1) (by subst hop; simp)
  have n1 : ∀ t ∈ fx, w.heap.size + 1 + 1 ≠ t.1 := by subst hfx; intro t ht; simp only [List.mem_cons, List.not_mem_nil, or_false] at ht; rcases ht with rfl | rfl <;> simp; omega
  have n2 : ∀ t ∈ fx, w.heap.size + 1 + 1 + 1 ≠ t.1 := by subst hfx; intro t ht; simp only [List.mem_cons, List.not_mem_nil, or_false] at ht; rcases ht with rfl | rfl <;> simp <;> omega
  have o1 : w.heap.size + 1 + 1 ∈ op := by subst hop; simp
  have o2 : w.heap.size + 1 + 1 + 1 ∈ op := by subst hop; simp
  clear hfx hop
  have HS0 := Lib.hid hS0
  clear hS0
  go_region_held3 (Sv w.heap.size w fx op) (first | assumption | exact HS0.out.drew | exact Sv.call (by assumption) (by assumption) (Nat.le_refl _) | exact Sv.set1 (Sv.set0 (by assumption) (by omega) n1 _) (by omega) n1 _ | exact Sv.set1 (Sv.set0 (by assumption) (by omega) n2 _) (by omega) n2 _)
    (first
      | (go_at_call 97; refine (ten_c (by first | exact Ta | exact Tb) _).mono ?_; rintro e w' ⟨rfl, rfl⟩)
      | (go_at_call 88; refine (prd_c (by first | exact Pa | exact Pb) _).mono ?_; rintro e w' ⟨rfl, bk⟩))
  go_wp2
  rename_i HF
  obtain ⟨_, _, m1⟩ := HF.2.2 _ o1
  obtain ⟨_, _, m2⟩ := HF.2.2 _ o2
  obtain ⟨c0, c1, _, _⟩ := (((m1.near (by simp)).near (by simp)).was.far (p := ⟨w.heap.size + 1 + 1 + 1, 0, none⟩) (by simp) (.int .u64 q1)).far (p := ⟨w.heap.size + 1 + 1 + 1, 1, none⟩) (by simp) (.int .u64 q2)
  obtain ⟨c2, c3, _, _⟩ := m2.was
  clear g1 g2 g3 g4 g5 g6 g7 g8 u0 u1 u2 u3
  simp [bodyPost, results, Try.results79, go_sem, c0, c1, c2, c3]
  exact HF.1
end Nm
end Go.Proofs.Ytkmfoclhhnhkdaa
