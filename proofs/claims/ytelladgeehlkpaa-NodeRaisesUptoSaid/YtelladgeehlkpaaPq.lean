/- The document's Light, of every node. -/
import Derived.Test.YtelladgeehlkpaaPc
import Derived.Test.YtelladgeehlkpaaNdSame
import Derived.Deep.RegionWith
namespace Go.Proofs.Ytelladgeehlkpaa
open Go.RowKit
namespace Nd
open _root_.Go.Proofs.Ytelladgeehlkpaa.Nm _root_.Go.Proofs.Ytelladgeehlkpaa.Jv
/-- are a node's parts few, and not deep? -/
def lightB (most : Nat) (t : NV) : Bool := decide (t.cnt ≤ most) && flatB 61 t
set_option maxRecDepth 100000 in
set_option maxHeartbeats 2000000 in
theorem light_any (n most : Nat) (x : Eight) (t : NV) (w : World) (hv : NT w n x t) (hm : most ≤ 100000) :
    Calls Try.prog 6 #[x.val, .int .i64 (most : Nat)] w fun e w' => e = .returned (.bool (lightB most t)) ∧ Below w.heap.size w w' := by
  obtain ⟨b, hb⟩ : ∃ b, lightB most t = b := ⟨_, rfl⟩
  rw [hb]
  have hs : ∀ w', Below w.heap.size w w' → Calls Try.prog 19 #[x.val, .int .i64 0, .int .i64 ((most : Int) + 1)] w' fun e w'' => e = .returned (.int .i64 (min ((most : Int) + 1) (t.cnt : Nat))) ∧ Below w'.heap.size w' w'' := fun w' h => by
    have := size_any n x t 0 ((most : Int) + 1) w' (NT.on h n hv) (by omega) (by omega)
    rw [if_neg (by omega), Int.zero_add] at this
    exact this
  have hf : ∀ w', Below w.heap.size w w' → Calls Try.prog 20 #[x.val, .int .i64 60] w' fun e w'' => e = .returned (.bool (flatB 61 t)) ∧ Below w'.heap.size w' w'' := fun w' h => flat_any 61 n x t 60 w' (by decide) (by decide) (NT.on h n hv)
  obtain ⟨q, hq⟩ : ∃ q : Int, min ((most : Int) + 1) (t.cnt : Nat) = q := ⟨_, rfl⟩
  obtain ⟨f, hff⟩ : ∃ f, flatB 61 t = f := ⟨_, rfl⟩
  rw [hq] at hs
  rw [hff] at hf
  have hqm : q ≤ (most : Int) ↔ t.cnt ≤ most := by omega
  have hbb : b = (decide (q ≤ (most : Int)) && f) := by
    rw [← hb, ← hff]; unfold lightB; congr 1; exact decide_eq_decide.2 hqm.symm
  subst hbb
  have HS := Lib.hid hs
  have HF := Lib.hid hf
  clear hb hq hff hqm hs hf hv
  unfold Eight.val nV at HS HF ⊢
  go_enter Try.func6, Try.ntmps6
  have z0 := (Wb.new w #[.int .i64 x.la, .int .i64 x.de, .int .i64 x.k, .int .i64 x.c, .int .i64 x.s, .string x.st, x.iv, x.kv]).eight
  have hW := Lib.hid (bA1 w (Obj.cells #[.int .i64 x.la, .int .i64 x.de, .int .i64 x.k, .int .i64 x.c, .int .i64 x.s, .string x.st, x.iv, x.kv] 27))
  have hz := Lib.hid (Wb.new w #[.int .i64 x.la, .int .i64 x.de, .int .i64 x.k, .int .i64 x.c, .int .i64 x.s, .string x.st, x.iv, x.kv])
  obtain ⟨c0, c1, c2, c3, c4, c5, c6, c7⟩ := z0
  by_cases hle : q ≤ (most : Int)
  · rw [decide_eq_true hle]
    go_wp2_with (first | (go_at_call 19; refine (HS.out _ hW.out).mono ?_; rintro e w1 ⟨rfl, b1⟩; obtain ⟨d0, d1, d2, d3, d4, d5, d6, d7⟩ := (hz.out.on b1).eight) | (go_at_call 20; refine (HF.out _ (bT hW.out b1)).mono ?_; rintro e w2 ⟨rfl, b2⟩))
    go_ret
    exact ⟨by simp, bT (bT hW.out b1) b2⟩
  · rw [decide_eq_false hle]
    go_wp2_with (first | (go_at_call 19; refine (HS.out _ hW.out).mono ?_; rintro e w1 ⟨rfl, b1⟩; obtain ⟨d0, d1, d2, d3, d4, d5, d6, d7⟩ := (hz.out.on b1).eight) | (go_at_call 20; refine (HF.out _ (bT hW.out b1)).mono ?_; rintro e w2 ⟨rfl, b2⟩))
    go_ret
    exact ⟨by simp, bT hW.out b1⟩
end Nd
end Go.Proofs.Ytelladgeehlkpaa
namespace Go.Proofs.Ytelladgeehlkpaa
open Go.RowKit
namespace Nd
open _root_.Go.Proofs.Ytelladgeehlkpaa.Nm _root_.Go.Proofs.Ytelladgeehlkpaa.Jv
/-- a row of one node -/
theorem Nl.one {w : World} {b n : Nat} {x : Eight} {t : NV} (h : Wb w b x.cells.toArray) (hv : NT w n x t) : Nl w (.slice (some ⟨b, 0, none⟩) 1 1) [t] := by
  obtain ⟨la, de, k, c, s, st, iv, kv⟩ := x
  have h' : Wb w b #[.int .i64 la, .int .i64 de, .int .i64 k, .int .i64 c, .int .i64 s, .string st, iv, kv] := h
  refine ⟨[⟨la, de, k, c, s, st, iv, kv⟩], n, ⟨_, 1, rfl, Nat.le_refl _, by decide, fun e => (by cases e), fun _ => ⟨b, 0, rfl, h.lt, h.free 0, fun j x hj => ?_⟩⟩, rfl, fun j y z hy hz => ?_⟩
  · match j, hj with
    | 0, hj =>
      cases hj
      exact h'.eight
  · match j, hy, hz with
    | 0, hy, hz =>
      cases hy
      cases hz
      exact hv
set_option maxRecDepth 100000 in
set_option maxHeartbeats 4000000 in
theorem nsame_any (n m : Nat) (x y : Eight) (t u : NV) (w : World) (hx : NT w n x t) (hy : NT w m y u) (ht : t = u) (hc : t.cnt ≤ 100000) :
    Calls Try.prog 11 #[x.val, y.val] w fun e w' => e = .returned (.bool true) ∧ Below w.heap.size w w' := by
  subst ht
  have hWS : ∀ (wx : World) (a b : Nat), Below w.heap.size w wx → Wb wx a x.cells.toArray → Wb wx b y.cells.toArray → Calls Try.prog 35 #[.slice (some ⟨a, 0, none⟩) 1 1, .slice (some ⟨b, 0, none⟩) 1 1, .func (.func 29) #[] #[], .func (.func 36) #[] #[]] wx fun e w' => e = .returned (.bool true) ∧ Below wx.heap.size wx w' := fun wx a b hb ha hb' =>
    wsame_any _ _ [t] wx (Nl.one ha (NT.on hb n hx)) (Nl.one hb' (NT.on hb m hy)) (by simp [cntL]; omega)
  have HWS := Lib.hid hWS
  obtain ⟨io, ic, hxi⟩ : ∃ io il ic, x.iv = .slice io il ic := by
    cases n with
    | zero => exact hx.elim
    | succ n => obtain ⟨_, _, _, _, _, _, _, _, _, l, hl, _⟩ := hx; obtain ⟨a, c, h, _⟩ := hl.form; exact ⟨a, _, c, h⟩
  obtain ⟨ko, kl, kc, hxk⟩ : ∃ io il ic, x.kv = .slice io il ic := by
    cases n with
    | zero => exact hx.elim
    | succ n => obtain ⟨_, _, _, _, _, _, h5, _⟩ := hx; obtain ⟨a, c, h, _⟩ := h5.form; exact ⟨a, _, c, h⟩
  obtain ⟨jo, jl, jc, hyi⟩ : ∃ io il ic, y.iv = .slice io il ic := by
    cases m with
    | zero => exact hy.elim
    | succ n => obtain ⟨_, _, _, _, _, _, _, _, _, l, hl, _⟩ := hy; obtain ⟨a, c, h, _⟩ := hl.form; exact ⟨a, _, c, h⟩
  obtain ⟨qo, ql, qc, hyk⟩ : ∃ io il ic, y.kv = .slice io il ic := by
    cases m with
    | zero => exact hy.elim
    | succ n => obtain ⟨_, _, _, _, _, _, h5, _⟩ := hy; obtain ⟨a, c, h, _⟩ := h5.form; exact ⟨a, _, c, h⟩
  obtain ⟨la, de, k, c, s, st, iv, kv⟩ := x
  obtain ⟨la', de', k', c', s', st', iv', kv'⟩ := y
  obtain ⟨il, ic, hxi⟩ := (⟨ic, hxi⟩ : ∃ il, ∃ ic, iv = .slice io il ic)
  simp only at hxi hxk hyi hyk
  subst hxi hxk hyi hyk
  clear hWS hx hy hc
  unfold Eight.val nV
  unfold Eight.cells at HWS
  simp only at HWS
  have HB : Hid (Below w.heap.size w ((((w.alloc (Obj.cells #[.int .i64 la, .int .i64 de, .int .i64 k, .int .i64 c, .int .i64 s, .string st, .slice io il ic, .slice ko kl kc] 27)).alloc (Obj.cells #[.int .i64 la', .int .i64 de', .int .i64 k', .int .i64 c', .int .i64 s', .string st', .slice jo jl jc, .slice qo ql qc] 27)).alloc (Obj.cells #[.int .i64 la, .int .i64 de, .int .i64 k, .int .i64 c, .int .i64 s, .string st, .slice io il ic, .slice ko kl kc] 27)).alloc (Obj.cells #[.int .i64 la', .int .i64 de', .int .i64 k', .int .i64 c', .int .i64 s', .string st', .slice jo jl jc, .slice qo ql qc] 27))) := Lib.hid (bT (bT (bT (bA1 _ _) (bA1 _ _)) (bA1 _ _)) (bA1 _ _))
  have HA3 : Hid (Wb ((((w.alloc (Obj.cells #[.int .i64 la, .int .i64 de, .int .i64 k, .int .i64 c, .int .i64 s, .string st, .slice io il ic, .slice ko kl kc] 27)).alloc (Obj.cells #[.int .i64 la', .int .i64 de', .int .i64 k', .int .i64 c', .int .i64 s', .string st', .slice jo jl jc, .slice qo ql qc] 27)).alloc (Obj.cells #[.int .i64 la, .int .i64 de, .int .i64 k, .int .i64 c, .int .i64 s, .string st, .slice io il ic, .slice ko kl kc] 27)).alloc (Obj.cells #[.int .i64 la', .int .i64 de', .int .i64 k', .int .i64 c', .int .i64 s', .string st', .slice jo jl jc, .slice qo ql qc] 27)) (w.heap.size + 1 + 1) #[.int .i64 la, .int .i64 de, .int .i64 k, .int .i64 c, .int .i64 s, .string st, .slice io il ic, .slice ko kl kc]) := Lib.hid (by
    have := (Wb.new ((w.alloc (Obj.cells #[.int .i64 la, .int .i64 de, .int .i64 k, .int .i64 c, .int .i64 s, .string st, .slice io il ic, .slice ko kl kc] 27)).alloc (Obj.cells #[.int .i64 la', .int .i64 de', .int .i64 k', .int .i64 c', .int .i64 s', .string st', .slice jo jl jc, .slice qo ql qc] 27)) #[.int .i64 la, .int .i64 de, .int .i64 k, .int .i64 c, .int .i64 s, .string st, .slice io il ic, .slice ko kl kc]).alloc (Obj.cells #[.int .i64 la', .int .i64 de', .int .i64 k', .int .i64 c', .int .i64 s', .string st', .slice jo jl jc, .slice qo ql qc] 27)
    simpa using this)
  have HB4 : Hid (Wb ((((w.alloc (Obj.cells #[.int .i64 la, .int .i64 de, .int .i64 k, .int .i64 c, .int .i64 s, .string st, .slice io il ic, .slice ko kl kc] 27)).alloc (Obj.cells #[.int .i64 la', .int .i64 de', .int .i64 k', .int .i64 c', .int .i64 s', .string st', .slice jo jl jc, .slice qo ql qc] 27)).alloc (Obj.cells #[.int .i64 la, .int .i64 de, .int .i64 k, .int .i64 c, .int .i64 s, .string st, .slice io il ic, .slice ko kl kc] 27)).alloc (Obj.cells #[.int .i64 la', .int .i64 de', .int .i64 k', .int .i64 c', .int .i64 s', .string st', .slice jo jl jc, .slice qo ql qc] 27)) (w.heap.size + 1 + 1 + 1) #[.int .i64 la', .int .i64 de', .int .i64 k', .int .i64 c', .int .i64 s', .string st', .slice jo jl jc, .slice qo ql qc]) := Lib.hid (by
    have := Wb.new (((w.alloc (Obj.cells #[.int .i64 la, .int .i64 de, .int .i64 k, .int .i64 c, .int .i64 s, .string st, .slice io il ic, .slice ko kl kc] 27)).alloc (Obj.cells #[.int .i64 la', .int .i64 de', .int .i64 k', .int .i64 c', .int .i64 s', .string st', .slice jo jl jc, .slice qo ql qc] 27)).alloc (Obj.cells #[.int .i64 la, .int .i64 de, .int .i64 k, .int .i64 c, .int .i64 s, .string st, .slice io il ic, .slice ko kl kc] 27)) #[.int .i64 la', .int .i64 de', .int .i64 k', .int .i64 c', .int .i64 s', .string st', .slice jo jl jc, .slice qo ql qc]
    simpa using this)
  go_enter Try.func11, Try.ntmps11
  go_wp2_with (go_at_call 35; refine (HWS.out _ _ _ HB.out HA3.out HB4.out).mono ?_; rintro e w1 ⟨rfl, b1⟩)
  go_ret
  exact ⟨rfl, bT HB.out b1⟩
end Nd
end Go.Proofs.Ytelladgeehlkpaa
