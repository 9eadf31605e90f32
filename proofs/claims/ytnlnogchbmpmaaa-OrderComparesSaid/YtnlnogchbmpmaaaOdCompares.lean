/- OrderCompares answers true for every two values. -/
import Derived.Test.YtnlnogchbmpmaaaOdCmp
namespace Go.Proofs.Ytnlnogchbmpmaaa
open Go.RowKit
namespace Od
open _root_.Go.Proofs.Ytnlnogchbmpmaaa.Nm _root_.Go.Proofs.Ytnlnogchbmpmaaa.Jv
set_option maxRecDepth 100000 in
set_option maxHeartbeats 8000000 in
theorem compares_any (n m : Nat) (x y : Six) (t u : JV) (w : World) (hx : VT w n x t) (hy : VT w m y u) :
    Calls Try.prog 6 #[x.val, y.val] w fun e w' => e = .returned (.bool true) ∧ Below w.heap.size w w' := by
  obtain ⟨⟨ia, im, ic, h1⟩, ka, km, kc, h2⟩ := hx.one
  obtain ⟨⟨ja, jm, jc, h3⟩, la, lm, lc, h4⟩ := hy.one
  obtain ⟨xk, xc, xs, xst, iv, kv⟩ := x
  obtain ⟨yk, yc, ys, yst, jv, lv⟩ := y
  simp only at h1 h2 h3 h4
  subst h1 h2 h3 h4
  obtain ⟨c, b, hr⟩ : ∃ c b, cmpR t u = (c, b) := ⟨_, _, rfl⟩
  have hb0 : b = false → c = 0 := by
    intro h
    subst h
    unfold cmpR at hr
    cases hq : cmpV t u 4096 with
    | none => rw [hq] at hr; exact (Prod.mk.inj hr).1.symm
    | some p => rw [hq] at hr; cases (Prod.mk.inj hr).2
  have hcp := fun wx (h : Below w.heap.size w wx) => compare_any n m _ _ t u wx (VT.on h n hx) (VT.on h m hy)
  have hrc := fun wx (h : Below w.heap.size w wx) => rcompare_any n m _ _ t u wx (VT.on h n hx) (VT.on h m hy)
  rw [hr] at hcp hrc
  have hlg := fun wx k (h : Below w.heap.size w wx) (hk : wx.heap[k]? = some (.cells #[.int .i64 xk, .int .i64 xc, .int .i64 xs, .string xst, .slice ia im ic, .slice ka km kc, .int .i64 yk, .int .i64 yc, .int .i64 ys, .string yst, .slice ja jm jc, .slice la lm lc] 27 (0, 0))) => light07_any (.slice (some ⟨k, 0, none⟩) 2 2) [⟨xk, xc, xs, xst, .slice ia im ic, .slice ka km kc⟩, ⟨yk, yc, ys, yst, .slice ja jm jc, .slice la lm lc⟩] [t, u] wx (row2 hk) rfl (fun j a b ha hb => by
    match j, ha, hb with
    | 0, ha, hb =>
      obtain rfl := Option.some.inj ha
      obtain rfl := Option.some.inj hb
      exact ⟨n, VT.on h n hx⟩
    | 1, ha, hb =>
      obtain rfl := Option.some.inj ha
      obtain rfl := Option.some.inj hb
      exact ⟨m, VT.on h m hy⟩)
  have HB0 : Hid (Bs w ((w.alloc (Obj.cells #[.int .i64 xk, .int .i64 xc, .int .i64 xs, .string xst, .slice ia im ic, .slice ka km kc] 27)).alloc (Obj.cells #[.int .i64 yk, .int .i64 yc, .int .i64 ys, .string yst, .slice ja jm jc, .slice la lm lc] 27)) [(w.heap.size + 1, ⟨yk, yc, ys, yst, .slice ja jm jc, .slice la lm lc⟩, u), (w.heap.size, ⟨xk, xc, xs, xst, .slice ia im ic, .slice ka km kc⟩, t)]) := Lib.hid (by
    have h0 : Bs w w [] := ⟨Below.refl _ _, fun p hp => by simp at hp, fun p hp => by simp at hp⟩
    have h1 := h0.push hx
    have h2 := h1.push (VT.on (bA1 _ _) m hy)
    have hs : (w.alloc (Obj.cells #[.int .i64 xk, .int .i64 xc, .int .i64 xs, .string xst, .slice ia im ic, .slice ka km kc] 27)).heap.size = w.heap.size + 1 := by simp
    rw [← hs]
    exact h2)
  unfold Six.val vV at hcp hrc ⊢
  simp only at hcp hrc ⊢
  have HCP := Lib.hid hcp
  have HRC := Lib.hid hrc
  have HLG := Lib.hid hlg
  clear hcp hrc hlg hr hx hy
  go_enter Try.func6, Try.ntmps6
  go_upto_region 1 with (fail)
  obtain ⟨w0, hw0⟩ : ∃ w0, ((w.alloc (Obj.cells #[.int .i64 xk, .int .i64 xc, .int .i64 xs, .string xst, .slice ia im ic, .slice ka km kc] 27)).alloc (Obj.cells #[.int .i64 yk, .int .i64 yc, .int .i64 ys, .string yst, .slice ja jm jc, .slice la lm lc] 27)) = w0 := ⟨_, rfl⟩
  rw [hw0] at HB0 ⊢
  clear hw0
  obtain ⟨x00, x01, x02, x03, x04, x05⟩ := HB0.out.cells (k := w.heap.size) (x := ⟨xk, xc, xs, xst, .slice ia im ic, .slice ka km kc⟩) (t := t) (by simp); obtain ⟨y00, y01, y02, y03, y04, y05⟩ := HB0.out.cells (k := w.heap.size + 1) (x := ⟨yk, yc, ys, yst, .slice ja jm jc, .slice la lm lc⟩) (t := u) (by simp); simp only at x00 x01 x02 x03 x04 x05 y00 y01 y02 y03 y04 y05
  go_upto_if 13 with (go_at_call 19; refine (HLG.out _ w0.heap.size (bT HB0.out.bel (bA1 _ _)) (heap_alloc_new w0 _)).mono ?_; rintro e w1 ⟨lb, rfl, _, b1⟩; have HB1 := Lib.hid (HB0.out.on (bT (bA1 w0 (Obj.cells #[.int .i64 xk, .int .i64 xc, .int .i64 xs, .string xst, .slice ia im ic, .slice ka km kc, .int .i64 yk, .int .i64 yc, .int .i64 ys, .string yst, .slice ja jm jc, .slice la lm lc] 27)) b1)))
  clear HLG b1 x00 x01 x02 x03 x04 x05 y00 y01 y02 y03 y04 y05
  obtain ⟨x10, x11, x12, x13, x14, x15⟩ := HB1.out.cells (k := w.heap.size) (x := ⟨xk, xc, xs, xst, .slice ia im ic, .slice ka km kc⟩) (t := t) (by simp); obtain ⟨y10, y11, y12, y13, y14, y15⟩ := HB1.out.cells (k := w.heap.size + 1) (x := ⟨yk, yc, ys, yst, .slice ja jm jc, .slice la lm lc⟩) (t := u) (by simp); simp only at x10 x11 x12 x13 x14 x15 y10 y11 y12 y13 y14 y15
  cases lb
  · go_wp2_with (go_at_call 20; refine (lives07_any _).mono ?_; rintro e w9 ⟨rfl, b9⟩)
    go_ret
    exact ⟨rfl, bT HB1.out.bel b9⟩
  · have ARM1 := True.intro
    have hee : (c == c) = true := by simp
    go_upto_region 5 with (first
      | (go_at_call 22; refine (HRC.out _ HB2.out.bel).mono ?_; rintro e w3 ⟨rfl, b3⟩)
      | (go_at_call 21; refine (HCP.out _ HB1.out.bel).mono ?_; rintro e w2 ⟨rfl, b2⟩; have HB2 := Lib.hid (HB1.out.on b2); obtain ⟨x20, x21, x22, x23, x24, x25⟩ := HB2.out.cells (k := w.heap.size) (x := ⟨xk, xc, xs, xst, .slice ia im ic, .slice ka km kc⟩) (t := t) (by simp); obtain ⟨y20, y21, y22, y23, y24, y25⟩ := HB2.out.cells (k := w.heap.size + 1) (x := ⟨yk, yc, ys, yst, .slice ja jm jc, .slice la lm lc⟩) (t := u) (by simp); simp only at x20 x21 x22 x23 x24 x25 y20 y21 y22 y23 y24 y25))
    have HB3 := Lib.hid (bT HB2.out.bel b3)
    clear b2 b3 HB2 HB1 HCP HRC HB0 ARM1
    cases b
    · obtain rfl := hb0 rfl
      go_wp2_with (go_at_call 20; refine (lives07_any _).mono ?_; rintro e w9 ⟨rfl, b9⟩)
      go_ret
      exact ⟨rfl, bT HB3.out b9⟩
    · go_wp2_with (go_at_call 20; refine (lives07_any _).mono ?_; rintro e w9 ⟨rfl, b9⟩)
      go_ret
      exact ⟨rfl, bT HB3.out b9⟩
end Od
end Go.Proofs.Ytnlnogchbmpmaaa
