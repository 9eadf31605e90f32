/- Boxes of values and their trees, as a law goes on; Light. -/
import Derived.Test.YtkmfoclhhnhkdaaJvLives
import Derived.Test.YtkmfoclhhnhkdaaJvSx
import Derived.Deep.DeepCutAuto
namespace Go.Proofs.Ytkmfoclhhnhkdaa
open Go.RowKit
namespace Jv
open _root_.Go.Proofs.Ytkmfoclhhnhkdaa.Nm
/-- boxes that hold values, and the trees of these -/
structure Bs (w wr : World) (l : List (Nat × Six × JV)) : Prop where
  bel : Below w.heap.size w wr
  box : ∀ p ∈ l, Vb wr p.1 p.2.1.cells.toArray
  tree : ∀ p ∈ l, ∃ n, VT wr n p.2.1 p.2.2
theorem Bs.on {w wr w1 : World} {l : List (Nat × Six × JV)} (h : Bs w wr l) (b : Below wr.heap.size wr w1) : Bs w w1 l :=
  ⟨bT h.bel b, fun p hp => (h.box p hp).on b, fun p hp => by obtain ⟨n, hn⟩ := h.tree p hp; exact ⟨n, VT.on b n hn⟩⟩
theorem Bs.drewN {w wr : World} {l : List (Nat × Six × JV)} (h : Bs w wr l) (n : Nat) : Bs w (wr.drewN n) l := h.on (bN (Below.refl _ _) n)
theorem Bs.push {w wr : World} {l : List (Nat × Six × JV)} {x : Six} {t : JV} {n : Nat} (h : Bs w wr l) (ht : VT wr n x t) : Bs w (wr.alloc (.cells x.cells.toArray 27)) ((wr.heap.size, x, t) :: l) := by
  have h' := h.on (bA1 wr (.cells x.cells.toArray 27))
  refine ⟨h'.bel, fun p hp => ?_, fun p hp => ?_⟩
  · rcases List.mem_cons.1 hp with rfl | hp
    · exact Vb.new wr _
    · exact h'.box p hp
  · rcases List.mem_cons.1 hp with rfl | hp
    · exact ⟨n, VT.on (bA1 _ _) n ht⟩
    · exact h'.tree p hp
theorem Bs.sub {w wr : World} {l l' : List (Nat × Six × JV)} (h : Bs w wr l) (hs : ∀ p ∈ l', p ∈ l) : Bs w wr l' := ⟨h.bel, fun p hp => h.box p (hs p hp), fun p hp => h.tree p (hs p hp)⟩
theorem Bs.cells {w wr : World} {l : List (Nat × Six × JV)} {k : Nat} {x : Six} {t : JV} (h : Bs w wr l) (hm : (k, x, t) ∈ l) :
    wr.cell? ⟨k, 0, none⟩ = some (.int .i64 x.k) ∧ wr.cell? ⟨k, 1, none⟩ = some (.int .i64 x.c) ∧ wr.cell? ⟨k, 2, none⟩ = some (.int .i64 x.s) ∧ wr.cell? ⟨k, 3, none⟩ = some (.string x.st) ∧ wr.cell? ⟨k, 4, none⟩ = some x.iv ∧ wr.cell? ⟨k, 5, none⟩ = some x.kv :=
  (show Vb wr k #[.int .i64 x.k, .int .i64 x.c, .int .i64 x.s, .string x.st, x.iv, x.kv] from h.box _ hm).six
/-- are a value's parts few, and not deep? -/
def lightB (most : Nat) (t : JV) : Bool := decide (t.cnt ≤ most) && flatB 61 t
set_option maxRecDepth 100000 in
set_option maxHeartbeats 2000000 in
theorem light_any (n most : Nat) (x : Six) (t : JV) (w : World) (hv : VT w n x t) (hm : most ≤ 100000) :
    Calls Try.prog 7 #[x.val, .int .i64 (most : Nat)] w fun e w' => e = .returned (.bool (lightB most t)) ∧ Below w.heap.size w w' := by
  obtain ⟨b, hb⟩ : ∃ b, lightB most t = b := ⟨_, rfl⟩
  rw [hb]
  have hs : ∀ w', Below w.heap.size w w' → Calls Try.prog 13 #[x.val, .int .i64 0, .int .i64 ((most : Int) + 1)] w' fun e w'' => e = .returned (.int .i64 (min ((most : Int) + 1) (t.cnt : Nat))) ∧ Below w'.heap.size w' w'' := fun w' h => by
    have := size_any n x t 0 ((most : Int) + 1) w' (VT.on h n hv) (by omega) (by omega)
    rw [if_neg (by omega), Int.zero_add] at this
    exact this
  have hf : ∀ w', Below w.heap.size w w' → Calls Try.prog 24 #[x.val, .int .i64 60] w' fun e w'' => e = .returned (.bool (flatB 61 t)) ∧ Below w'.heap.size w' w'' := fun w' h => flat_any 61 n x t 60 w' (by decide) (by decide) (VT.on h n hv)
  obtain ⟨q, hq⟩ : ∃ q : Int, min ((most : Int) + 1) (t.cnt : Nat) = q := ⟨_, rfl⟩
  obtain ⟨f, hff⟩ : ∃ f, flatB 61 t = f := ⟨_, rfl⟩
  rw [hq] at hs
  rw [hff] at hf
  have hqm : q ≤ (most : Int) ↔ t.cnt ≤ most := by omega
  have hbb : b = (decide (q ≤ (most : Int)) && f) := by
    rw [← hb, ← hff]; unfold lightB; congr 1; exact decide_eq_decide.2 hqm.symm
  subst hbb
  have HS := Lib.hid hs
  have HF := Lib.hid hf
  clear hb hq hff hqm hs hf hv
  unfold Six.val vV at HS HF ⊢
  go_enter Try.func7, Try.ntmps7
  have z0 := (Vb.new w #[.int .i64 x.k, .int .i64 x.c, .int .i64 x.s, .string x.st, x.iv, x.kv]).six
  have hW := Lib.hid (bA1 w (Obj.cells #[.int .i64 x.k, .int .i64 x.c, .int .i64 x.s, .string x.st, x.iv, x.kv] 27))
  have hz := Lib.hid (Vb.new w #[.int .i64 x.k, .int .i64 x.c, .int .i64 x.s, .string x.st, x.iv, x.kv])
  obtain ⟨c0, c1, c2, c3, c4, c5⟩ := z0
  by_cases hle : q ≤ (most : Int)
  · rw [decide_eq_true hle]
    go_wp2_with (first | (go_at_call 13; refine (HS.out _ hW.out).mono ?_; rintro e w1 ⟨rfl, b1⟩; obtain ⟨d0, d1, d2, d3, d4, d5⟩ := (hz.out.on b1).six) | (go_at_call 24; refine (HF.out _ (bT hW.out b1)).mono ?_; rintro e w2 ⟨rfl, b2⟩))
    go_ret
    exact ⟨by simp, bT (bT hW.out b1) b2⟩
  · rw [decide_eq_false hle]
    go_wp2_with (first | (go_at_call 13; refine (HS.out _ hW.out).mono ?_; rintro e w1 ⟨rfl, b1⟩; obtain ⟨d0, d1, d2, d3, d4, d5⟩ := (hz.out.on b1).six) | (go_at_call 24; refine (HF.out _ (bT hW.out b1)).mono ?_; rintro e w2 ⟨rfl, b2⟩))
    go_ret
    exact ⟨by simp, bT hW.out b1⟩
end Jv
end Go.Proofs.Ytkmfoclhhnhkdaa
