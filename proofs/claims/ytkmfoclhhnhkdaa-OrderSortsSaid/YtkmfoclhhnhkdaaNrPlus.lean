/- Whole numbers without bound: Plus. -/
import Derived.Test.YtkmfoclhhnhkdaaNrLess
import Derived.Test.YtkmfoclhhnhkdaaNrSv
namespace Go.Proofs.Ytkmfoclhhnhkdaa
open Go.RowKit
namespace Nm
theorem dgs_max (n : Nat) {k : Nat} (h : (dgs n).length ≤ k) : n < 10 ^ k := dgs_len.1 h
set_option maxRecDepth 100000 in
set_option maxHeartbeats 4000000 in
theorem plus_same (na : Bool) (va vb : Value) (x y : Nat) (w : World) (hra : Rw w va (dgs x)) (hrb : Rw w vb (dgs y)) (hla : (dgs x).length ≤ 100000000) (hlb : (dgs y).length ≤ 100000000)  :
    Calls Try.prog 77 #[.agg #[.bool na, va], .agg #[.bool na, vb]] w (LongIs na (x + y) w) := by
  have hsum : ∀ w' fx op, Sr w.heap.size w fx op w' → Calls Try.prog 94 #[va, vb] w' (RowIs (fun l => Dg l ∧ dv l = x + y ∧ l.length ≤ 1000000000) w') := fun w' fx op h => by
    refine (sum_any va vb (dgs x) (dgs y) w' (hra.on h.1) (hrb.on h.1) (Dg_dgs _) (Dg_dgs _) (by omega) (by omega)).mono ?_
    rintro e w1 ⟨v, l, he, ⟨h1, h2, h3⟩, h4, h5⟩
    exact ⟨v, l, he, ⟨h1, by rw [h2, dv_dgs, dv_dgs], by omega⟩, h4, h5⟩
  have htrim : ∀ l v w', (Dg l ∧ dv l = x + y ∧ l.length ≤ 1000000000) → Rw w' v l → Calls Try.prog 93 #[.agg #[.bool na, v]] w' (LongIs na (x + y) w') := fun l v w' h hr => by
    rw [← h.2.1]
    exact trim_any na v l w' hr h.1 h.2.2
  have HRA := Lib.hid hra
  have HRB := Lib.hid hrb
  clear hra hrb
  go_enter Try.func77, Try.ntmps77
  go_upto_region 2 with (fail)
  have hS1 : Sr w.heap.size w [(w.heap.size, .bool na, va), (w.heap.size + 1, .bool na, vb)] [w.heap.size + 1 + 1] ((((w.alloc (Obj.cells #[.bool na, va] 108)).alloc (Obj.cells #[.bool na, vb] 108)).alloc (Obj.cells #[.bool false, .slice none 0 0] 108))) := by
    refine ⟨bA3 _ _ _ _, ?_, ?_⟩
    · intro t ht
      simp only [List.mem_cons, List.not_mem_nil, or_false] at ht
      rcases ht with rfl | rfl
      · exact ⟨by simp [go_sem], by simp [go_sem], by simp [go_sem], by simp [go_sem]⟩
      · exact ⟨by simp [go_sem], by simp [go_sem], by simp [go_sem], by simp [go_sem]⟩
    · intro t ht
      simp only [List.mem_cons, List.not_mem_nil, or_false] at ht
      subst ht
      exact ⟨false, none, 0, 0, ⟨by simp [go_sem], by simp [go_sem], by simp [go_sem], by simp [go_sem]⟩⟩
  obtain ⟨fx1, hfx1⟩ : ∃ fx : List (Nat × Value × Value), [(w.heap.size, .bool na, va), (w.heap.size + 1, .bool na, vb)] = fx := ⟨_, rfl⟩
  obtain ⟨op1, hop1⟩ : ∃ op : List Nat, [w.heap.size + 1 + 1] = op := ⟨_, rfl⟩
  rw [hfx1, hop1] at hS1
  have u1_0_0 := Sr.fix0 (B := w.heap.size) (o := w) (fx := fx1) (op := op1) (k := w.heap.size) (x := .bool na) (y := va) (by subst hfx1; simp)
  have u1_0_1 := Sr.fix1 (B := w.heap.size) (o := w) (fx := fx1) (op := op1) (k := w.heap.size) (x := .bool na) (y := va) (by subst hfx1; simp)
  have u1_1_0 := Sr.fix0 (B := w.heap.size) (o := w) (fx := fx1) (op := op1) (k := w.heap.size + 1) (x := .bool na) (y := vb) (by subst hfx1; simp)
  have u1_1_1 := Sr.fix1 (B := w.heap.size) (o := w) (fx := fx1) (op := op1) (k := w.heap.size + 1) (x := .bool na) (y := vb) (by subst hfx1; simp)
  obtain ⟨G1_0, H1_0, g1_0_0, g1_0_1, g1_0_2, g1_0_3⟩ := Sr.get (B := w.heap.size) (o := w) (fx := fx1) (op := op1) (k := w.heap.size + 1 + 1) (by subst hop1; simp)
  have n1_0 : ∀ t ∈ fx1, w.heap.size + 1 + 1 ≠ t.1 := by
    subst hfx1; intro t ht; simp only [List.mem_cons, List.not_mem_nil, or_false] at ht
    rcases ht with rfl | rfl <;> simp <;> omega
  have o1_0 : w.heap.size + 1 + 1 ∈ op1 := by subst hop1; simp
  clear hfx1 hop1
  have HS1 := Lib.hid hS1
  clear hS1
  go_region_held3 (Sr w.heap.size w fx1 op1) (first | assumption | exact HS1.out.drew | exact Sr.call (by assumption) (by assumption) (Nat.le_refl _) | exact Sr.put (by assumption) (by omega) n1_0 _ _ _ _)
    (first
      | (go_at_call 94; refine (hsum _ _ _ (by assumption)).mono ?_; rintro e w' ⟨v1, l1, rfl, hp, hr1, bk1⟩; obtain ⟨ao1, an1, ac1, rfl⟩ := hr1.sl)
      | (go_at_call 93; refine (htrim _ _ _ (by assumption) (by assumption)).mono ?_; rintro e w' ⟨v2, rfl, hr2, bk2⟩; obtain ⟨ao2, an2, ac2, rfl⟩ := hr2.sl))
  go_wp2
  have hS2 := (HS1.out.drew.call bk1 (Nat.le_refl _)).call bk2 (Nat.le_refl _)
  have hrow := hS2.row (x := .bool (ng na (x + y))) (y := .slice ao2 an2 ac2) o1_0 hr2
  obtain ⟨v0, v1, _, _⟩ := hS2.is (x := .bool (ng na (x + y))) (y := .slice ao2 an2 ac2) o1_0
  clear u1_0_0 u1_0_1 u1_1_0 u1_1_1 g1_0_0 g1_0_1 g1_0_2 g1_0_3
  simp [bodyPost, results, Try.results77, go_sem, v0, v1]
  exact LongIs.of rfl hrow (((hS2.1).setCell (by simp; omega) _).setCell (by simp; omega) _)
set_option maxRecDepth 100000 in
set_option maxHeartbeats 4000000 in
theorem plus_ge (na nb : Bool) (va vb : Value) (x y : Nat) (w : World) (hra : Rw w va (dgs x)) (hrb : Rw w vb (dgs y)) (hla : (dgs x).length ≤ 100000000) (hlb : (dgs y).length ≤ 100000000) (hs : na ≠ nb) (hge : y ≤ x) :
    Calls Try.prog 77 #[.agg #[.bool na, va], .agg #[.bool nb, vb]] w (LongIs na (x - y) w) := by
  have hlen : (dgs y).length ≤ (dgs x).length := Decidable.byContradiction fun g => by
    have := dgs_longer (a := y) (b := x) (by omega)
    omega
  have hless : ∀ w' fx op, Sr w.heap.size w fx op w' → Calls Try.prog 96 #[va, vb] w' (RowIs (fun l => Dg l ∧ dv l = x - y ∧ l.length ≤ 1000000000) w') := fun w' fx op h => by
    refine (less_any va vb (dgs x) (dgs y) w' ((hra).on h.1) ((hrb).on h.1) (Dg_dgs _) (Dg_dgs _) (by omega) hlen (by rw [dv_dgs, dv_dgs]; omega)).mono ?_
    rintro e w1 ⟨v, l, he, ⟨h1, h2, h3⟩, h4, h5⟩
    exact ⟨v, l, he, ⟨h1, by rw [h2, dv_dgs, dv_dgs], by omega⟩, h4, h5⟩
  have htrim : ∀ l v w', (Dg l ∧ dv l = x - y ∧ l.length ≤ 1000000000) → Rw w' v l → Calls Try.prog 93 #[.agg #[.bool na, v]] w' (LongIs na (x - y) w') := fun l v w' h hr => by
    rw [← h.2.1]
    exact trim_any na v l w' hr h.1 h.2.2
  have habove : ∀ w', Below w.heap.size w w' → Calls Try.prog 95 #[va, vb] w' fun e w'' => e = .returned (.bool true) ∧ ∃ n, w'' = w'.drewN n := fun w' h => by
    have := above_any va vb x y w' (hra.on h) (hrb.on h) (by omega) (by omega)
    rw [show decide (y ≤ x) = true by rw [decide_eq_true hge]] at this
    exact this
  have hq : (na == nb) = false := by simpa using hs
  have HRA := Lib.hid hra
  have HRB := Lib.hid hrb
  clear hra hrb
  go_enter Try.func77, Try.ntmps77
  go_upto_region 4 with (go_at_call 95; refine (habove _ (bA3 _ _ _ _)).mono ?_; rintro e w' ⟨rfl, nd, rfl⟩)
  have hS1 : Sr w.heap.size w [(w.heap.size, .bool na, va), (w.heap.size + 1, .bool nb, vb)] [w.heap.size + 1 + 1] ((((w.alloc (Obj.cells #[.bool na, va] 108)).alloc (Obj.cells #[.bool nb, vb] 108)).alloc (Obj.cells #[.bool false, .slice none 0 0] 108)).drewN nd) := by
    refine ⟨bN (bA3 _ _ _ _) _, ?_, ?_⟩
    · intro t ht
      simp only [List.mem_cons, List.not_mem_nil, or_false] at ht
      rcases ht with rfl | rfl
      · exact ⟨by simp [go_sem], by simp [go_sem], by simp [go_sem], by simp [go_sem]⟩
      · exact ⟨by simp [go_sem], by simp [go_sem], by simp [go_sem], by simp [go_sem]⟩
    · intro t ht
      simp only [List.mem_cons, List.not_mem_nil, or_false] at ht
      subst ht
      exact ⟨false, none, 0, 0, ⟨by simp [go_sem], by simp [go_sem], by simp [go_sem], by simp [go_sem]⟩⟩
  obtain ⟨fx1, hfx1⟩ : ∃ fx : List (Nat × Value × Value), [(w.heap.size, .bool na, va), (w.heap.size + 1, .bool nb, vb)] = fx := ⟨_, rfl⟩
  obtain ⟨op1, hop1⟩ : ∃ op : List Nat, [w.heap.size + 1 + 1] = op := ⟨_, rfl⟩
  rw [hfx1, hop1] at hS1
  have u1_0_0 := Sr.fix0 (B := w.heap.size) (o := w) (fx := fx1) (op := op1) (k := w.heap.size) (x := .bool na) (y := va) (by subst hfx1; simp)
  have u1_0_1 := Sr.fix1 (B := w.heap.size) (o := w) (fx := fx1) (op := op1) (k := w.heap.size) (x := .bool na) (y := va) (by subst hfx1; simp)
  have u1_1_0 := Sr.fix0 (B := w.heap.size) (o := w) (fx := fx1) (op := op1) (k := w.heap.size + 1) (x := .bool nb) (y := vb) (by subst hfx1; simp)
  have u1_1_1 := Sr.fix1 (B := w.heap.size) (o := w) (fx := fx1) (op := op1) (k := w.heap.size + 1) (x := .bool nb) (y := vb) (by subst hfx1; simp)
  obtain ⟨G1_0, H1_0, g1_0_0, g1_0_1, g1_0_2, g1_0_3⟩ := Sr.get (B := w.heap.size) (o := w) (fx := fx1) (op := op1) (k := w.heap.size + 1 + 1) (by subst hop1; simp)
  have n1_0 : ∀ t ∈ fx1, w.heap.size + 1 + 1 ≠ t.1 := by
    subst hfx1; intro t ht; simp only [List.mem_cons, List.not_mem_nil, or_false] at ht
    rcases ht with rfl | rfl <;> simp <;> omega
  have o1_0 : w.heap.size + 1 + 1 ∈ op1 := by subst hop1; simp
  clear hfx1 hop1
  have HS1 := Lib.hid hS1
  clear hS1
  go_region_held3 (Sr w.heap.size w fx1 op1) (first | assumption | exact HS1.out.drew | exact Sr.call (by assumption) (by assumption) (Nat.le_refl _) | exact Sr.put (by assumption) (by omega) n1_0 _ _ _ _)
    (first
      | (go_at_call 96; refine (hless _ _ _ (by assumption)).mono ?_; rintro e w' ⟨v1, l1, rfl, hp, hr1, bk1⟩; obtain ⟨ao1, an1, ac1, rfl⟩ := hr1.sl)
      | (go_at_call 93; refine (htrim _ _ _ (by assumption) (by assumption)).mono ?_; rintro e w' ⟨v2, rfl, hr2, bk2⟩; obtain ⟨ao2, an2, ac2, rfl⟩ := hr2.sl))
  go_wp2
  have hS2 := (HS1.out.drew.call bk1 (Nat.le_refl _)).call bk2 (Nat.le_refl _)
  have hrow := hS2.row (x := .bool (ng na (x - y))) (y := .slice ao2 an2 ac2) o1_0 hr2
  obtain ⟨v0, v1, _, _⟩ := hS2.is (x := .bool (ng na (x - y))) (y := .slice ao2 an2 ac2) o1_0
  clear u1_0_0 u1_0_1 u1_1_0 u1_1_1 g1_0_0 g1_0_1 g1_0_2 g1_0_3
  simp [bodyPost, results, Try.results77, go_sem, v0, v1]
  exact LongIs.of rfl hrow (((hS2.1).setCell (by simp; omega) _).setCell (by simp; omega) _)
set_option maxRecDepth 100000 in
set_option maxHeartbeats 4000000 in
theorem plus_lt (na nb : Bool) (va vb : Value) (x y : Nat) (w : World) (hra : Rw w va (dgs x)) (hrb : Rw w vb (dgs y)) (hla : (dgs x).length ≤ 100000000) (hlb : (dgs y).length ≤ 100000000) (hs : na ≠ nb) (hlt : x < y) :
    Calls Try.prog 77 #[.agg #[.bool na, va], .agg #[.bool nb, vb]] w (LongIs nb (y - x) w) := by
  have hlen : (dgs x).length ≤ (dgs y).length := Decidable.byContradiction fun g => by
    have := dgs_longer (a := x) (b := y) (by omega)
    omega
  have hless : ∀ w' fx op, Sr w.heap.size w fx op w' → Calls Try.prog 96 #[vb, va] w' (RowIs (fun l => Dg l ∧ dv l = y - x ∧ l.length ≤ 1000000000) w') := fun w' fx op h => by
    refine (less_any vb va (dgs y) (dgs x) w' ((hrb).on h.1) ((hra).on h.1) (Dg_dgs _) (Dg_dgs _) (by omega) hlen (by rw [dv_dgs, dv_dgs]; omega)).mono ?_
    rintro e w1 ⟨v, l, he, ⟨h1, h2, h3⟩, h4, h5⟩
    exact ⟨v, l, he, ⟨h1, by rw [h2, dv_dgs, dv_dgs], by omega⟩, h4, h5⟩
  have htrim : ∀ l v w', (Dg l ∧ dv l = y - x ∧ l.length ≤ 1000000000) → Rw w' v l → Calls Try.prog 93 #[.agg #[.bool nb, v]] w' (LongIs nb (y - x) w') := fun l v w' h hr => by
    rw [← h.2.1]
    exact trim_any nb v l w' hr h.1 h.2.2
  have habove : ∀ w', Below w.heap.size w w' → Calls Try.prog 95 #[va, vb] w' fun e w'' => e = .returned (.bool false) ∧ ∃ n, w'' = w'.drewN n := fun w' h => by
    have := above_any va vb x y w' (hra.on h) (hrb.on h) (by omega) (by omega)
    rw [show decide (y ≤ x) = false by rw [decide_eq_false (by omega)]] at this
    exact this
  have hq : (na == nb) = false := by simpa using hs
  have HRA := Lib.hid hra
  have HRB := Lib.hid hrb
  clear hra hrb
  go_enter Try.func77, Try.ntmps77
  go_upto_region 5 with (go_at_call 95; refine (habove _ (bA3 _ _ _ _)).mono ?_; rintro e w' ⟨rfl, nd, rfl⟩)
  have hS1 : Sr w.heap.size w [(w.heap.size, .bool na, va), (w.heap.size + 1, .bool nb, vb)] [w.heap.size + 1 + 1] ((((w.alloc (Obj.cells #[.bool na, va] 108)).alloc (Obj.cells #[.bool nb, vb] 108)).alloc (Obj.cells #[.bool false, .slice none 0 0] 108)).drewN nd) := by
    refine ⟨bN (bA3 _ _ _ _) _, ?_, ?_⟩
    · intro t ht
      simp only [List.mem_cons, List.not_mem_nil, or_false] at ht
      rcases ht with rfl | rfl
      · exact ⟨by simp [go_sem], by simp [go_sem], by simp [go_sem], by simp [go_sem]⟩
      · exact ⟨by simp [go_sem], by simp [go_sem], by simp [go_sem], by simp [go_sem]⟩
    · intro t ht
      simp only [List.mem_cons, List.not_mem_nil, or_false] at ht
      subst ht
      exact ⟨false, none, 0, 0, ⟨by simp [go_sem], by simp [go_sem], by simp [go_sem], by simp [go_sem]⟩⟩
  obtain ⟨fx1, hfx1⟩ : ∃ fx : List (Nat × Value × Value), [(w.heap.size, .bool na, va), (w.heap.size + 1, .bool nb, vb)] = fx := ⟨_, rfl⟩
  obtain ⟨op1, hop1⟩ : ∃ op : List Nat, [w.heap.size + 1 + 1] = op := ⟨_, rfl⟩
  rw [hfx1, hop1] at hS1
  have u1_0_0 := Sr.fix0 (B := w.heap.size) (o := w) (fx := fx1) (op := op1) (k := w.heap.size) (x := .bool na) (y := va) (by subst hfx1; simp)
  have u1_0_1 := Sr.fix1 (B := w.heap.size) (o := w) (fx := fx1) (op := op1) (k := w.heap.size) (x := .bool na) (y := va) (by subst hfx1; simp)
  have u1_1_0 := Sr.fix0 (B := w.heap.size) (o := w) (fx := fx1) (op := op1) (k := w.heap.size + 1) (x := .bool nb) (y := vb) (by subst hfx1; simp)
  have u1_1_1 := Sr.fix1 (B := w.heap.size) (o := w) (fx := fx1) (op := op1) (k := w.heap.size + 1) (x := .bool nb) (y := vb) (by subst hfx1; simp)
  obtain ⟨G1_0, H1_0, g1_0_0, g1_0_1, g1_0_2, g1_0_3⟩ := Sr.get (B := w.heap.size) (o := w) (fx := fx1) (op := op1) (k := w.heap.size + 1 + 1) (by subst hop1; simp)
  have n1_0 : ∀ t ∈ fx1, w.heap.size + 1 + 1 ≠ t.1 := by
    subst hfx1; intro t ht; simp only [List.mem_cons, List.not_mem_nil, or_false] at ht
    rcases ht with rfl | rfl <;> simp <;> omega
  have o1_0 : w.heap.size + 1 + 1 ∈ op1 := by subst hop1; simp
  clear hfx1 hop1
  have HS1 := Lib.hid hS1
  clear hS1
  go_region_held3 (Sr w.heap.size w fx1 op1) (first | assumption | exact HS1.out.drew | exact Sr.call (by assumption) (by assumption) (Nat.le_refl _) | exact Sr.put (by assumption) (by omega) n1_0 _ _ _ _)
    (first
      | (go_at_call 96; refine (hless _ _ _ (by assumption)).mono ?_; rintro e w' ⟨v1, l1, rfl, hp, hr1, bk1⟩; obtain ⟨ao1, an1, ac1, rfl⟩ := hr1.sl)
      | (go_at_call 93; refine (htrim _ _ _ (by assumption) (by assumption)).mono ?_; rintro e w' ⟨v2, rfl, hr2, bk2⟩; obtain ⟨ao2, an2, ac2, rfl⟩ := hr2.sl))
  go_wp2
  have hS2 := (HS1.out.drew.call bk1 (Nat.le_refl _)).call bk2 (Nat.le_refl _)
  have hrow := hS2.row (x := .bool (ng nb (y - x))) (y := .slice ao2 an2 ac2) o1_0 hr2
  obtain ⟨v0, v1, _, _⟩ := hS2.is (x := .bool (ng nb (y - x))) (y := .slice ao2 an2 ac2) o1_0
  clear u1_0_0 u1_0_1 u1_1_0 u1_1_1 g1_0_0 g1_0_1 g1_0_2 g1_0_3
  simp [bodyPost, results, Try.results77, go_sem, v0, v1]
  exact LongIs.of rfl hrow (((hS2.1).setCell (by simp; omega) _).setCell (by simp; omega) _)
/-- a size with its sign -/
def sg (b : Bool) (n : Nat) : Int := if b then -(n : Int) else n
theorem ng_sg (b : Bool) (n : Nat) : ng b n = decide (sg b n < 0) := by
  unfold ng sg
  cases b
  · first | (simp; done) | (simp; omega)
  · by_cases h : n = 0
    · subst h; simp
    · rw [show (n != 0) = true by simpa using h]; first | (simp; done) | (simp; omega)
theorem abs_sg (b : Bool) (n : Nat) : (sg b n).natAbs = n := by unfold sg; cases b <;> simp
/-- what answers a whole number -/
def IntIs (z : Int) (w : World) (e : Ending) (w' : World) : Prop := ∃ v, e = .returned (.agg #[.bool (decide (z < 0)), v]) ∧ Rw w' v (dgs z.natAbs) ∧ Below w.heap.size w w'
theorem LongIs.int {b : Bool} {n : Nat} {z : Int} {w w' : World} {e : Ending} (h : LongIs b n w e w') (hz : sg b n = z) : IntIs z w e w' := by
  obtain ⟨v, he, hr, hb⟩ := h
  subst hz
  exact ⟨v, by rw [he, ng_sg], by rw [abs_sg]; exact hr, hb⟩
theorem plus_any (na nb : Bool) (va vb : Value) (x y : Nat) (w : World) (hra : Rw w va (dgs x)) (hrb : Rw w vb (dgs y)) (hla : (dgs x).length ≤ 100000000) (hlb : (dgs y).length ≤ 100000000) :
    Calls Try.prog 77 #[.agg #[.bool na, va], .agg #[.bool nb, vb]] w (IntIs (sg na x + sg nb y) w) := by
  by_cases hs : na = nb
  · subst hs
    exact (plus_same na va vb x y w hra hrb hla hlb).mono fun e w' h => h.int (by unfold sg; cases na <;> simp <;> omega)
  · by_cases hge : y ≤ x
    · refine (plus_ge na nb va vb x y w hra hrb hla hlb hs hge).mono fun e w' h => h.int ?_
      unfold sg
      cases na <;> cases nb <;> simp at hs ⊢ <;> omega
    · refine (plus_lt na nb va vb x y w hra hrb hla hlb hs (by omega)).mono fun e w' h => h.int ?_
      unfold sg
      cases na <;> cases nb <;> simp at hs ⊢ <;> omega
end Nm
end Go.Proofs.Ytkmfoclhhnhkdaa
