/- The document's look at two values: which is ahead, and how many pairs it takes. -/
import Derived.Test.YtkmfoclhhnhkdaaOdVal
import Derived.Test.YtkmfoclhhnhkdaaJvBs
namespace Go.Proofs.Ytkmfoclhhnhkdaa
open Go.RowKit
namespace Od
open _root_.Go.Proofs.Ytkmfoclhhnhkdaa.Nm _root_.Go.Proofs.Ytkmfoclhhnhkdaa.Jv
/-- what the document's look answers -/
def lkC (r : Option (Int × Nat)) : Int := match r with | none => 0 | some (c, _) => c
def lkN (r : Option (Int × Nat)) : Int := match r with | none => 5000 | some (_, M) => 4096 - (M : Int)
mutual
theorem cmpV_le : ∀ (t u : JV) (L : Nat) (c : Int) (M : Nat), cmpV t u L = some (c, M) → M ≤ L
  | .mk k c s st is ks, u, 0, c', M, h => by simp [cmpV] at h
  | .mk k c s st is ks, u, L + 1, c', M, h => by
    have hl := cmpL_le is u.items L c' M
    have fin : ∀ x : Int, some (x, L) = some (c', M) → M ≤ L + 1 := fun x h => by have := (Prod.mk.inj (Option.some.inj h)).2; omega
    rw [cmpV] at h
    by_cases q0 : rk k = rk u.k
    · rw [if_pos q0] at h
      by_cases q1 : k = 3
      · rw [if_pos q1] at h; exact fin _ h
      rw [if_neg q1] at h
      by_cases q2 : k = 4 ∨ k = 7
      · rw [if_pos q2] at h; exact fin _ h
      rw [if_neg q2] at h
      by_cases q3 : k = 5
      · rw [if_pos q3] at h; have := hl h; omega
      rw [if_neg q3] at h
      by_cases q4 : k = 6
      · rw [if_pos q4] at h
        by_cases q5 : ksC ks u.keys = 0
        · rw [if_pos q5] at h; have := hl h; omega
        · rw [if_neg q5] at h; exact fin _ h
      · rw [if_neg q4] at h; exact fin _ h
    · rw [if_neg q0] at h; exact fin _ h
theorem cmpL_le : ∀ (ts us : List JV) (L : Nat) (c : Int) (M : Nat), cmpL ts us L = some (c, M) → M ≤ L
  | [], us, L, c, M, h => by
    rw [cmpL] at h
    have := (Prod.mk.inj (Option.some.inj h)).2; omega
  | _ :: _, [], L, c, M, h => by
    rw [cmpL] at h
    have := (Prod.mk.inj (Option.some.inj h)).2; omega
  | t :: ts, u :: us, L, c, M, h => by
    rw [cmpL] at h
    have h1 := cmpV_le t u L
    have h2 := cmpL_le ts us
    cases hr : cmpV t u L with
    | none => rw [hr] at h; cases h
    | some p =>
      obtain ⟨c1, M1⟩ := p
      rw [hr] at h
      have := h1 c1 M1 hr
      simp only at h
      by_cases q : c1 = 0
      · rw [if_pos q] at h; have := h2 M1 c M h; omega
      · rw [if_neg q] at h; have := (Prod.mk.inj (Option.some.inj h)).2; omega
end

set_option maxRecDepth 100000 in
set_option maxHeartbeats 8000000 in
theorem look_any : ∀ (n : Nat) (x y : Six) (t u : JV) (L : Nat) (w : World), VT w n x t → (∃ m, VT w m y u) → L ≤ 4096 →
    Calls Try.prog 40 #[x.val, y.val, .int .i64 (4096 - (L : Int))] w fun e w' => ∃ c m, e = .returned (.tuple #[.int .i64 c, .int .i64 m]) ∧ c = lkC (cmpV t u L) ∧ m = lkN (cmpV t u L) ∧ Below w.heap.size w w' := by
  intro n
  induction n with
  | zero => intro x y t u L w hx; exact hx.elim
  | succ n ih =>
    intro x y t u L w hx hy hL
    obtain ⟨my, hy⟩ := hy
    cases my with
    | zero => exact hy.elim
    | succ my =>
    obtain ⟨r, hr⟩ : ∃ r, cmpV t u L = r := ⟨_, rfl⟩
    rw [hr]
    have IH := Lib.hid ih
    obtain ⟨e1, e2, e3, e4, e5, hBx, l, hl, hll, hlt⟩ := hx
    obtain ⟨d1, d2, d3, d4, d5, hBy, l', hl', hll', hlt'⟩ := hy
    obtain ⟨xk, xc, xs, xst, iv, kv⟩ := x
    obtain ⟨yk, yc, ys, yst, iv', kv'⟩ := y
    simp only at e1 e2 e3 e4 d1 d2 d3 d4 e5 d5 hl hl'
    have hkc := fun wx (h : Below w.heap.size w wx) => rkeys_any kv kv' t.keys u.keys wx (e5.on h) (d5.on h) hBx.2.2.2.2 hBy.2.2.2.2
    have HKC := Lib.hid hkc
    have HTX := Lib.hid (fun w => rtext_any xst yst w hBx.2.2.2.1 hBy.2.2.2.1)
    have HV := Lib.hid hl
    have HV' := Lib.hid hl'
    have hmx : l.length ≤ maxLen := by obtain ⟨_, _, q1, q2, q3, _⟩ := hl; omega
    have hmy : l'.length ≤ maxLen := by obtain ⟨_, _, q1, q2, q3, _⟩ := hl'; omega
    unfold maxLen at hmx hmy
    obtain ⟨ao, cap, hiv, hc, h⟩ := hl.form
    obtain ⟨ao', cap', hiv', hc', h'⟩ := hl'.form
    obtain ⟨ko, n3, kcap, hkv⟩ := e5.form'
    obtain ⟨ko', n4, kcap', hkv'⟩ := d5.form'
    subst hiv hiv' hkv hkv'
    have H := Lib.hid h
    have H' := Lib.hid h'
    have HL := Lib.hid hll
    have HL' := Lib.hid hll'
    have HT := Lib.hid hlt
    have HT' := Lib.hid hlt'
    have HV0 : Hid (Vb ((w.alloc (Obj.cells #[.int .i64 xk, .int .i64 xc, .int .i64 xs, .string xst, .slice ao l.length cap, .slice ko n3 kcap] 27)).alloc (Obj.cells #[.int .i64 yk, .int .i64 yc, .int .i64 ys, .string yst, .slice ao' l'.length cap', .slice ko' n4 kcap'] 27)) w.heap.size #[.int .i64 xk, .int .i64 xc, .int .i64 xs, .string xst, .slice ao l.length cap, .slice ko n3 kcap] ∧ Vb ((w.alloc (Obj.cells #[.int .i64 xk, .int .i64 xc, .int .i64 xs, .string xst, .slice ao l.length cap, .slice ko n3 kcap] 27)).alloc (Obj.cells #[.int .i64 yk, .int .i64 yc, .int .i64 ys, .string yst, .slice ao' l'.length cap', .slice ko' n4 kcap'] 27)) (w.heap.size + 1) #[.int .i64 yk, .int .i64 yc, .int .i64 ys, .string yst, .slice ao' l'.length cap', .slice ko' n4 kcap']) := Lib.hid ⟨(Vb.new w _).alloc _, by simpa using Vb.new (w.alloc (Obj.cells #[.int .i64 xk, .int .i64 xc, .int .i64 xs, .string xst, .slice ao l.length cap, .slice ko n3 kcap] 27)) #[.int .i64 yk, .int .i64 yc, .int .i64 ys, .string yst, .slice ao' l'.length cap', .slice ko' n4 kcap']⟩
    have HB0 : Hid (Below w.heap.size w ((w.alloc (Obj.cells #[.int .i64 xk, .int .i64 xc, .int .i64 xs, .string xst, .slice ao l.length cap, .slice ko n3 kcap] 27)).alloc (Obj.cells #[.int .i64 yk, .int .i64 yc, .int .i64 ys, .string yst, .slice ao' l'.length cap', .slice ko' n4 kcap'] 27))) := Lib.hid (bA2 _ _ _)
    unfold Six.val vV
    cases L with
    | zero =>
      rw [cmpV_zero] at hr
      subst hr
      clear hkc e1 e2 e3 e4 e5 d1 d2 d3 d4 d5 hBx hBy hl hl' hll hll' hlt hlt' h h' ih HV0
      go_enter Try.func40, Try.ntmps40
      go_wp2
      go_ret2
      exact ⟨_, _, rfl, rfl, rfl, HB0.out⟩
    | succ M =>
    rw [cmpV_is, ← e1, ← d1, ← e2, ← e3, ← e4, ← d2, ← d3, ← d4] at hr
    have HR := Lib.hid hr
    have hM : M ≤ 4095 := by omega
    obtain ⟨a, ha⟩ : ∃ a : Int, 4096 - ((M : Nat) : Int) = a := ⟨_, rfl⟩
    have ha1 : (4096 - ((M + 1 : Nat) : Int)) + 1 = a := by omega
    have ha0 : 1 ≤ a := by omega
    have ha2 : a ≤ 4096 := by omega
    have ha3 : ¬ 4096 < a := by omega
    have HM := Lib.hid ha
    have ha4 : (4096 - ((M + 1 : Nat) : Int)) = a - 1 := by omega
    rw [ha4]
    clear hr ih hkc e1 e2 e3 e4 e5 d1 d2 d3 d4 d5 hBx hBy hl hl' hll hll' hlt hlt' h h' ha ha1 ha4
    have ha5 : a - 1 + 1 = a := by omega
    go_enter Try.func40, Try.ntmps40
    go_upto_region 4 with (fail)
    obtain ⟨wr, hwr⟩ : ∃ wr, ((w.alloc (Obj.cells #[.int .i64 xk, .int .i64 xc, .int .i64 xs, .string xst, .slice ao l.length cap, .slice ko n3 kcap] 27)).alloc (Obj.cells #[.int .i64 yk, .int .i64 yc, .int .i64 ys, .string yst, .slice ao' l'.length cap', .slice ko' n4 kcap'] 27)) = wr := ⟨_, rfl⟩
    rw [hwr] at HV0 HB0 ⊢
    clear hwr ha5
    obtain ⟨x0, x1, x2, x3, x4, x5⟩ := HV0.out.1.six
    obtain ⟨y0, y1, y2, y3, y4, y5⟩ := HV0.out.2.six
    obtain ⟨K, hK⟩ : ∃ K, rk xk = K := ⟨_, rfl⟩
    obtain ⟨K', hK'⟩ : ∃ K, rk yk = K := ⟨_, rfl⟩
    have hrk := fun w => rrank_any xk w
    have hrk' := fun w => rrank_any yk w
    have hcp := fun w => sign_any K K' w
    rw [hK] at hrk HR
    rw [hK'] at hrk' HR
    obtain ⟨c, hc2⟩ : ∃ c, sgn K K' = c := ⟨_, rfl⟩
    rw [hc2] at hcp
    have HCS := Lib.hid hc2
    clear hc2
    go_cut [8] (fun v wx => v = .int .i64 c ∧ Hid (Vb wx w.heap.size #[.int .i64 xk, .int .i64 xc, .int .i64 xs, .string xst, .slice ao l.length cap, .slice ko n3 kcap] ∧ Vb wx (w.heap.size + 1) #[.int .i64 yk, .int .i64 yc, .int .i64 ys, .string yst, .slice ao' l'.length cap', .slice ko' n4 kcap']) ∧ Hid (Below w.heap.size w wx))
    case first =>
      as_aux_lemma =>
      go_quiet (first | (go_at_call 55; exact Calls.quiet_of_same (hcp _)) | (go_at_call 56; exact Calls.quiet_of_same (hrk _)) | (go_at_call 56; exact Calls.quiet_of_same (hrk' _)))
      go_wp2
      go_meet
      exact ⟨rfl, Lib.hid ⟨HV0.out.1.drewN _, HV0.out.2.drewN _⟩, Lib.hid (Jv.bN HB0.out _)⟩
    case rest =>
    clear x0 x1 x2 x3 x4 x5 y0 y1 y2 y3 y4 y5 HV0 HB0 hrk hrk' hcp
    obtain ⟨rfl, HV0, HB0⟩ := hcut
    obtain ⟨wr, hwr⟩ : ∃ wr, wc = wr := ⟨_, rfl⟩
    rw [hwr] at HV0 HB0 ⊢
    clear hwr
    obtain ⟨x0, x1, x2, x3, x4, x5⟩ := HV0.out.1.six
    obtain ⟨y0, y1, y2, y3, y4, y5⟩ := HV0.out.2.six
    by_cases hkk : K = K'
    case neg =>
      have h0 : ¬ c = 0 := by
        rw [← HCS.out]
        unfold sgn
        split
        · decide
        · split
          · decide
          · omega
      have hq := HR.out
      rw [if_neg hkk, HCS.out] at hq
      subst hq
      have h0b : (c == 0) = false := by simpa using h0
      have h0c : (c != 0) = true := by simpa using h0
      clear hK hK' HR HKC IH
      go_wp2
      go_ret2
      exact ⟨_, _, rfl, rfl, HM.out.symm, HB0.out⟩
    subst hkk
    obtain rfl : c = 0 := by rw [← HCS.out]; unfold sgn; rw [if_neg (by omega), if_neg (by omega)]
    rw [if_pos rfl] at HR
    clear hK' HCS
    by_cases k3 : xk = 3
    · subst k3
      clear hK
      have hq := HR.out
      rw [if_pos rfl] at hq
      subst hq
      clear HR HKC IH
      go_upto_region 9 with (fail)
      have hS3 : Sx wr.heap.size wr [(⟨w.heap.size, 1, none⟩, (.int .i64 xc)), (⟨w.heap.size, 2, none⟩, (.int .i64 xs)), (⟨w.heap.size + 1, 1, none⟩, (.int .i64 yc)), (⟨w.heap.size + 1, 2, none⟩, (.int .i64 ys))] (wr) := by
        refine ⟨Below.refl _ _, ?_⟩
        intro t ht
        simp only [List.mem_cons, List.not_mem_nil, or_false] at ht
        rcases ht with rfl | rfl | rfl | rfl
        · exact Sx.mk (x1)
        · exact Sx.mk (x2)
        · exact Sx.mk (y1)
        · exact Sx.mk (y2)
      obtain ⟨fx3, hfx3⟩ : ∃ fx : List (Addr × Value), [(⟨w.heap.size, 1, none⟩, (.int .i64 xc)), (⟨w.heap.size, 2, none⟩, (.int .i64 xs)), (⟨w.heap.size + 1, 1, none⟩, (.int .i64 yc)), (⟨w.heap.size + 1, 2, none⟩, (.int .i64 ys))] = fx := ⟨_, rfl⟩
      rw [hfx3] at hS3
      have u3_0 := Sx.get (B := wr.heap.size) (o := wr) (fx := fx3) (p := ⟨w.heap.size, 1, none⟩) (v := (.int .i64 xc)) (by subst hfx3; simp)
      have u3_1 := Sx.get (B := wr.heap.size) (o := wr) (fx := fx3) (p := ⟨w.heap.size, 2, none⟩) (v := (.int .i64 xs)) (by subst hfx3; simp)
      have u3_2 := Sx.get (B := wr.heap.size) (o := wr) (fx := fx3) (p := ⟨w.heap.size + 1, 1, none⟩) (v := (.int .i64 yc)) (by subst hfx3; simp)
      have u3_3 := Sx.get (B := wr.heap.size) (o := wr) (fx := fx3) (p := ⟨w.heap.size + 1, 2, none⟩) (v := (.int .i64 ys)) (by subst hfx3; simp)
      clear hfx3
      have HS3 := Lib.hid hS3
      clear hS3
      clear x0 x1 x2 x3 x4 x5 y0 y1 y2 y3 y4 y5
      go_region_held3 (Sx wr.heap.size wr fx3) (first | assumption | exact HS3.out.drew | exact Sx.call (by assumption) (by assumption) (Nat.le_refl _))
        (first
          | (go_at_call 57; refine (rcmp_any _ _ _ _ _).mono ?_; rintro e w' ⟨rfl, bk⟩)
          | (go_at_call 58; refine (rclean_any _ _ _).mono ?_; rintro e w' ⟨rfl, bk⟩))
      rename_i HF
      have HF' := Lib.hid HF
      clear HF
      go_wp2
      go_ret2
      exact ⟨_, _, rfl, rfl, HM.out.symm, bT HB0.out HF'.out.1⟩
    by_cases k4 : xk = 4
    · subst k4
      clear hK
      have hq := HR.out
      rw [if_neg (by decide), if_pos (by decide)] at hq
      subst hq
      clear HR HKC IH
      go_wp2_with (go_at_call 59; refine (HTX.out _).mono ?_; rintro e w2 ⟨rfl, hd⟩; have HD := Lib.hid hd; clear hd)
      go_ret2
      exact ⟨_, _, rfl, rfl, HM.out.symm, bT HB0.out (DN.below HD.out)⟩
    by_cases k7 : xk = 7
    · subst k7
      clear hK
      have hq := HR.out
      rw [if_neg (by decide), if_pos (by decide)] at hq
      subst hq
      clear HR HKC IH
      go_wp2_with (go_at_call 59; refine (HTX.out _).mono ?_; rintro e w2 ⟨rfl, hd⟩; have HD := Lib.hid hd; clear hd)
      go_ret2
      exact ⟨_, _, rfl, rfl, HM.out.symm, bT HB0.out (DN.below HD.out)⟩
    by_cases k5 : xk = 5
    · subst k5
      clear hK
      have hq := HR.out
      rw [if_neg (by decide), if_neg (by decide), if_pos rfl] at hq
      have HQ : Hid (r = if (0 : Int) = 0 then cmpL (t.items.drop 0) (u.items.drop 0) M else some (0, M)) := Lib.hid (by rw [if_pos rfl, List.drop_zero, List.drop_zero]; exact hq.symm)
      clear HR HKC hq HTX
      go_wp2
      clear x0 x1 x2 x3 x4 x5 y0 y1 y2 y3 y4 y5
      go_loopw [2, 8, 9] (fun nv cv iv wr => ∃ (j N : Nat) (c q : Int), iv = .int .i64 (j : Nat) ∧ cv = .int .i64 c ∧ nv = .int .i64 q ∧ q ≤ 4096 ∧ j ≤ l.length ∧ j ≤ l'.length ∧ N ≤ 4096 ∧ Hid (4096 - (N : Int) = q) ∧ Hid (r = if c = 0 then cmpL (t.items.drop j) (u.items.drop j) N else some (c, N)) ∧ Hid (Vb wr w.heap.size #[.int .i64 5, .int .i64 xc, .int .i64 xs, .string xst, .slice ao l.length cap, .slice ko n3 kcap] ∧ Vb wr (w.heap.size + 1) #[.int .i64 yk, .int .i64 yc, .int .i64 ys, .string yst, .slice ao' l'.length cap', .slice ko' n4 kcap']) ∧ Hid (Below w.heap.size w wr)) (fun _ _ iv _ => l.length - (intOf iv).toNat)
      case atStart => exact ⟨0, M, 0, a, rfl, rfl, rfl, by omega, by omega, by omega, by omega, HM, HQ, HV0, HB0⟩
      case round =>
        clear HQ HV0 HB0 HM
        obtain ⟨j, N, c, q, rfl, rfl, rfl, hq4, hj, hj', hN, HM, HQ, HV0, HB0⟩ := hrel
        have hqb : 0 ≤ q := by have := HM.out; omega
        obtain ⟨x0, x1, x2, x3, x4, x5⟩ := HV0.out.1.six
        obtain ⟨y0, y1, y2, y3, y4, y5⟩ := HV0.out.2.six
        by_cases h0 : c = 0
        · subst h0
          have hq := HQ.out
          rw [if_pos rfl] at hq
          by_cases hlt : j < l.length ∧ j < l'.length
          · as_aux_lemma =>
            obtain ⟨h1, h2⟩ := hlt
            obtain ⟨y1, hy1⟩ : ∃ x, l[j]? = some x := ⟨_, List.getElem?_eq_getElem h1⟩
            obtain ⟨y2, hy2⟩ : ∃ x, l'[j]? = some x := ⟨_, List.getElem?_eq_getElem h2⟩
            obtain ⟨t1, ht1⟩ : ∃ x, t.items[j]? = some x := ⟨_, List.getElem?_eq_getElem (by have := HL.out; omega)⟩
            obtain ⟨u1, hu1⟩ : ∃ x, u.items[j]? = some x := ⟨_, List.getElem?_eq_getElem (by have := HL'.out; omega)⟩
            obtain ⟨g, o, rfl, hg, hcl⟩ := H.out (by omega)
            obtain ⟨g', o', rfl, hg', hcl'⟩ := H'.out (by omega)
            rw [cmpL_at ht1 hu1] at hq
            have A1 := (hcl j y1 hy1).on hg HB0.out
            have A2 := (hcl' j y2 hy2).on hg' HB0.out
            have hcs := IH.out y1 y2 t1 u1 N wr.drew (VT.on HB0.out.drew n (HT.out j y1 t1 hy1 ht1)) ⟨my, VT.on HB0.out.drew my (HT'.out j y2 u1 hy2 hu1)⟩ hN
            rw [HM.out] at hcs
            have hle := cmpV_le t1 u1 N
            obtain ⟨k1, k2, k3, k4, k5, k6⟩ := y1
            obtain ⟨m1, m2, m3, m4, m5, m6⟩ := y2
            obtain ⟨c0, c1, c2, c3, c4, c5⟩ := A1
            obtain ⟨a0, a1, a2, a3, a4, a5⟩ := A2
            simp only at c0 c1 c2 c3 c4 c5 a0 a1 a2 a3 a4 a5
            unfold Six.val vV at hcs
            simp only at hcs
            have i1 : (j : Int) < (l.length : Int) := by omega
            have i2 : (j : Int) < (l'.length : Int) := by omega
            clear hcl hcl' hy1 hy2 ht1 hu1 HQ H H'
            cases hrr : cmpV t1 u1 N with
            | none =>
              rw [hrr] at hq hcs
              simp only at hq
              subst hq
              have HCS := Lib.hid hcs
              clear hrr hcs hle
              go_wp2
              have hS5 : Sx wr.heap.size wr [(⟨w.heap.size, 4, none⟩, (.slice (some ⟨g, o, none⟩) l.length cap)), (⟨w.heap.size + 1, 4, none⟩, (.slice (some ⟨g', o', none⟩) l'.length cap')), (⟨g, o + j * 6, none⟩, (.int .i64 k1)), (⟨g, o + j * 6 + 1, none⟩, (.int .i64 k2)), (⟨g, o + j * 6 + 2, none⟩, (.int .i64 k3)), (⟨g, o + j * 6 + 3, none⟩, (.string k4)), (⟨g, o + j * 6 + 4, none⟩, k5), (⟨g, o + j * 6 + 5, none⟩, k6), (⟨g', o' + j * 6, none⟩, (.int .i64 m1)), (⟨g', o' + j * 6 + 1, none⟩, (.int .i64 m2)), (⟨g', o' + j * 6 + 2, none⟩, (.int .i64 m3)), (⟨g', o' + j * 6 + 3, none⟩, (.string m4)), (⟨g', o' + j * 6 + 4, none⟩, m5), (⟨g', o' + j * 6 + 5, none⟩, m6)] (wr) := by
                refine ⟨Below.refl _ _, ?_⟩
                intro t ht
                simp only [List.mem_cons, List.not_mem_nil, or_false] at ht
                rcases ht with rfl | rfl | rfl | rfl | rfl | rfl | rfl | rfl | rfl | rfl | rfl | rfl | rfl | rfl
                · exact Sx.mk (x4)
                · exact Sx.mk (y4)
                · exact Sx.mk (c0)
                · exact Sx.mk (c1)
                · exact Sx.mk (c2)
                · exact Sx.mk (c3)
                · exact Sx.mk (c4)
                · exact Sx.mk (c5)
                · exact Sx.mk (a0)
                · exact Sx.mk (a1)
                · exact Sx.mk (a2)
                · exact Sx.mk (a3)
                · exact Sx.mk (a4)
                · exact Sx.mk (a5)
              obtain ⟨fx5, hfx5⟩ : ∃ fx : List (Addr × Value), [(⟨w.heap.size, 4, none⟩, (.slice (some ⟨g, o, none⟩) l.length cap)), (⟨w.heap.size + 1, 4, none⟩, (.slice (some ⟨g', o', none⟩) l'.length cap')), (⟨g, o + j * 6, none⟩, (.int .i64 k1)), (⟨g, o + j * 6 + 1, none⟩, (.int .i64 k2)), (⟨g, o + j * 6 + 2, none⟩, (.int .i64 k3)), (⟨g, o + j * 6 + 3, none⟩, (.string k4)), (⟨g, o + j * 6 + 4, none⟩, k5), (⟨g, o + j * 6 + 5, none⟩, k6), (⟨g', o' + j * 6, none⟩, (.int .i64 m1)), (⟨g', o' + j * 6 + 1, none⟩, (.int .i64 m2)), (⟨g', o' + j * 6 + 2, none⟩, (.int .i64 m3)), (⟨g', o' + j * 6 + 3, none⟩, (.string m4)), (⟨g', o' + j * 6 + 4, none⟩, m5), (⟨g', o' + j * 6 + 5, none⟩, m6)] = fx := ⟨_, rfl⟩
              rw [hfx5] at hS5
              have u5_0 := Sx.get (B := wr.heap.size) (o := wr) (fx := fx5) (p := ⟨w.heap.size, 4, none⟩) (v := (.slice (some ⟨g, o, none⟩) l.length cap)) (by subst hfx5; simp)
              have u5_1 := Sx.get (B := wr.heap.size) (o := wr) (fx := fx5) (p := ⟨w.heap.size + 1, 4, none⟩) (v := (.slice (some ⟨g', o', none⟩) l'.length cap')) (by subst hfx5; simp)
              have u5_2 := Sx.get (B := wr.heap.size) (o := wr) (fx := fx5) (p := ⟨g, o + j * 6, none⟩) (v := (.int .i64 k1)) (by subst hfx5; simp)
              have u5_3 := Sx.get (B := wr.heap.size) (o := wr) (fx := fx5) (p := ⟨g, o + j * 6 + 1, none⟩) (v := (.int .i64 k2)) (by subst hfx5; simp)
              have u5_4 := Sx.get (B := wr.heap.size) (o := wr) (fx := fx5) (p := ⟨g, o + j * 6 + 2, none⟩) (v := (.int .i64 k3)) (by subst hfx5; simp)
              have u5_5 := Sx.get (B := wr.heap.size) (o := wr) (fx := fx5) (p := ⟨g, o + j * 6 + 3, none⟩) (v := (.string k4)) (by subst hfx5; simp)
              have u5_6 := Sx.get (B := wr.heap.size) (o := wr) (fx := fx5) (p := ⟨g, o + j * 6 + 4, none⟩) (v := k5) (by subst hfx5; simp)
              have u5_7 := Sx.get (B := wr.heap.size) (o := wr) (fx := fx5) (p := ⟨g, o + j * 6 + 5, none⟩) (v := k6) (by subst hfx5; simp)
              have u5_8 := Sx.get (B := wr.heap.size) (o := wr) (fx := fx5) (p := ⟨g', o' + j * 6, none⟩) (v := (.int .i64 m1)) (by subst hfx5; simp)
              have u5_9 := Sx.get (B := wr.heap.size) (o := wr) (fx := fx5) (p := ⟨g', o' + j * 6 + 1, none⟩) (v := (.int .i64 m2)) (by subst hfx5; simp)
              have u5_10 := Sx.get (B := wr.heap.size) (o := wr) (fx := fx5) (p := ⟨g', o' + j * 6 + 2, none⟩) (v := (.int .i64 m3)) (by subst hfx5; simp)
              have u5_11 := Sx.get (B := wr.heap.size) (o := wr) (fx := fx5) (p := ⟨g', o' + j * 6 + 3, none⟩) (v := (.string m4)) (by subst hfx5; simp)
              have u5_12 := Sx.get (B := wr.heap.size) (o := wr) (fx := fx5) (p := ⟨g', o' + j * 6 + 4, none⟩) (v := m5) (by subst hfx5; simp)
              have u5_13 := Sx.get (B := wr.heap.size) (o := wr) (fx := fx5) (p := ⟨g', o' + j * 6 + 5, none⟩) (v := m6) (by subst hfx5; simp)
              clear hfx5
              have HS5 := Lib.hid hS5
              clear hS5
              clear x0 x1 x2 x3 x4 x5 y0 y1 y2 y3 y4 y5 c0 c1 c2 c3 c4 c5 a0 a1 a2 a3 a4 a5
              refine wp_region_held_drew (S := Sx wr.heap.size wr fx5) (by kernel_rfl) HS5.out.drew (fun hHeld => ?_)
              refine take_put (i := 0) (d := 76) (oi := _) (v := ?vn5x0) rfl rfl (by kernel_rfl) (by kernel_rfl) (by kernel_rfl) (fun _ _ _ h => h) (Or.inl ⟨by rfl, ?yn5x0⟩) hHeld ?rn5x0
              case yn5x0 => (intro w hSw; (try dsimp only at hSw); go_simp; try with_reducible rfl)
              simp only [Act.put, List.setIfInBounds_toArray, List.set_cons_zero, List.set_cons_succ]
              refine take_put (i := 1) (d := 77) (oi := _) (v := ?vn5x1) rfl rfl (by kernel_rfl) (by kernel_rfl) (by kernel_rfl) (fun _ _ _ h => h) (Or.inl ⟨by rfl, ?yn5x1⟩) hHeld ?rn5x1
              case yn5x1 => (intro w hSw; (try dsimp only at hSw); go_simp; try with_reducible rfl)
              simp only [Act.put, List.setIfInBounds_toArray, List.set_cons_zero, List.set_cons_succ]
              refine take_put (i := 2) (d := 78) (oi := _) (v := ?vn5x2) rfl rfl (by kernel_rfl) (by kernel_rfl) (by kernel_rfl) (fun _ _ _ h => h) (Or.inl ⟨by rfl, ?yn5x2⟩) hHeld ?rn5x2
              case yn5x2 => (intro w hSw; (try dsimp only at hSw); go_simp; try with_reducible rfl)
              simp only [Act.put, List.setIfInBounds_toArray, List.set_cons_zero, List.set_cons_succ]
              refine take_put (i := 3) (d := 79) (oi := _) (v := ?vn5x3) rfl rfl (by kernel_rfl) (by kernel_rfl) (by kernel_rfl) (fun _ _ _ h => h) (Or.inl ⟨by rfl, ?yn5x3⟩) hHeld ?rn5x3
              case yn5x3 => (intro w hSw; (try dsimp only at hSw); go_simp; try with_reducible rfl)
              simp only [Act.put, List.setIfInBounds_toArray, List.set_cons_zero, List.set_cons_succ]
              refine take_put (i := 4) (d := 80) (oi := _) (v := ?vn5x4) rfl rfl (by kernel_rfl) (by kernel_rfl) (by kernel_rfl) (fun _ _ _ h => h) (Or.inl ⟨by rfl, ?yn5x4⟩) hHeld ?rn5x4
              case yn5x4 => (intro w hSw; (try dsimp only at hSw); go_simp; try with_reducible rfl)
              simp only [Act.put, List.setIfInBounds_toArray, List.set_cons_zero, List.set_cons_succ]
              refine take_put (i := 5) (d := 81) (oi := _) (v := ?vn5x5) rfl rfl (by kernel_rfl) (by kernel_rfl) (by kernel_rfl) (fun _ _ _ h => h) (Or.inl ⟨by rfl, ?yn5x5⟩) hHeld ?rn5x5
              case yn5x5 => (intro w hSw; (try dsimp only at hSw); go_simp; try with_reducible rfl)
              simp only [Act.put, List.setIfInBounds_toArray, List.set_cons_zero, List.set_cons_succ]
              refine take_put (i := 6) (d := 82) (oi := _) (v := ?vn5x6) rfl rfl (by kernel_rfl) (by kernel_rfl) (by kernel_rfl) (fun _ _ _ h => h) (Or.inl ⟨by rfl, ?yn5x6⟩) hHeld ?rn5x6
              case yn5x6 => (intro w hSw; (try dsimp only at hSw); go_simp; try with_reducible rfl)
              simp only [Act.put, List.setIfInBounds_toArray, List.set_cons_zero, List.set_cons_succ]
              refine take_put (i := 7) (d := 83) (oi := _) (v := ?vn5x7) rfl rfl (by kernel_rfl) (by kernel_rfl) (by kernel_rfl) (fun _ _ _ h => h) (Or.inl ⟨by rfl, ?yn5x7⟩) hHeld ?rn5x7
              case yn5x7 => (intro w hSw; (try dsimp only at hSw); go_simp; try with_reducible rfl)
              simp only [Act.put, List.setIfInBounds_toArray, List.set_cons_zero, List.set_cons_succ]
              refine take_put (i := 8) (d := 84) (oi := _) (v := ?vn5x8) rfl rfl (by kernel_rfl) (by kernel_rfl) (by kernel_rfl) (fun _ _ _ h => h) (Or.inl ⟨by rfl, ?yn5x8⟩) hHeld ?rn5x8
              case yn5x8 => (intro w hSw; (try dsimp only at hSw); go_simp; try with_reducible rfl)
              simp only [Act.put, List.setIfInBounds_toArray, List.set_cons_zero, List.set_cons_succ]
              refine take_put (i := 9) (d := 85) (oi := _) (v := ?vn5x9) rfl rfl (by kernel_rfl) (by kernel_rfl) (by kernel_rfl) (fun _ _ _ h => h) (Or.inl ⟨by rfl, ?yn5x9⟩) hHeld ?rn5x9
              case yn5x9 => (intro w hSw; (try dsimp only at hSw); go_simp; try with_reducible rfl)
              simp only [Act.put, List.setIfInBounds_toArray, List.set_cons_zero, List.set_cons_succ]
              refine take_put (i := 10) (d := 86) (oi := _) (v := ?vn5x10) rfl rfl (by kernel_rfl) (by kernel_rfl) (by kernel_rfl) (fun _ _ _ h => h) (Or.inl ⟨by rfl, ?yn5x10⟩) hHeld ?rn5x10
              case yn5x10 => (intro w hSw; (try dsimp only at hSw); go_simp; try with_reducible rfl)
              simp only [Act.put, List.setIfInBounds_toArray, List.set_cons_zero, List.set_cons_succ]
              refine wpAnyH_ready (rs := [11]) (by kernel_rfl) (by simp) (AllReadyH.cons (o := _) rfl (fun K hK => ?_) AllReadyH.nil)
              go_simp
              refine HCS.out.mono ?_
              rintro e w6 ⟨c, m, rfl, rfl, rfl, b6⟩
              have HB6 := Lib.hid (bT HB0.out.drew b6)
              (try dsimp only)
              refine hK.out _ _ (Sx.call HS5.out.drew b6 (Nat.le_refl _)) (fun hHeld => ?_)
              clear hK K
              refine take_put (i := 12) (d := 75) (oi := _) (v := ?vn5x12) rfl rfl (by kernel_rfl) (by kernel_rfl) (by kernel_rfl) (fun _ _ _ h => h) (Or.inl ⟨by rfl, ?yn5x12⟩) hHeld ?rn5x12
              case yn5x12 => (intro w hSw; (try dsimp only at hSw); go_simp; try with_reducible rfl)
              simp only [Act.put, List.setIfInBounds_toArray, List.set_cons_zero, List.set_cons_succ]
              refine take_put (i := 13) (d := 88) (oi := _) (v := ?vn5x13) rfl rfl (by kernel_rfl) (by kernel_rfl) (by kernel_rfl) (fun _ _ _ h => h) (Or.inl ⟨by rfl, ?yn5x13⟩) hHeld ?rn5x13
              case yn5x13 => (intro w hSw; (try dsimp only at hSw); go_simp; try with_reducible rfl)
              simp only [Act.put, List.setIfInBounds_toArray, List.set_cons_zero, List.set_cons_succ]
              refine take_put (i := 14) (d := 89) (oi := _) (v := ?vn5x14) rfl rfl (by kernel_rfl) (by kernel_rfl) (by kernel_rfl) (fun _ _ _ h => h) (Or.inl ⟨by rfl, ?yn5x14⟩) hHeld ?rn5x14
              case yn5x14 => (intro w hSw; (try dsimp only at hSw); go_simp; try with_reducible rfl)
              simp only [Act.put, List.setIfInBounds_toArray, List.set_cons_zero, List.set_cons_succ]
              refine take_put (i := 15) (d := 8) (oi := _) (v := ?vn5x15) rfl rfl (by kernel_rfl) (by kernel_rfl) (by kernel_rfl) (fun _ _ _ h => h) (Or.inl ⟨by rfl, ?yn5x15⟩) hHeld ?rn5x15
              case yn5x15 => (intro w hSw; (try dsimp only at hSw); go_simp; try with_reducible rfl)
              simp only [Act.put, List.setIfInBounds_toArray, List.set_cons_zero, List.set_cons_succ]
              refine take_put (i := 16) (d := 2) (oi := _) (v := ?vn5x16) rfl rfl (by kernel_rfl) (by kernel_rfl) (by kernel_rfl) (fun _ _ _ h => h) (Or.inl ⟨by rfl, ?yn5x16⟩) hHeld ?rn5x16
              case yn5x16 => (intro w hSw; (try dsimp only at hSw); go_simp; try with_reducible rfl)
              simp only [Act.put, List.setIfInBounds_toArray, List.set_cons_zero, List.set_cons_succ]
              refine wpAnyH_done (by kernel_rfl) ?_ _
              clear hHeld b6
              go_wp2
              go_ret2
              exact ⟨_, _, rfl, rfl, rfl, HB6.out⟩
            | some p =>
              obtain ⟨c', M'⟩ := p
              have hM' : M' ≤ N := hle c' M' hrr
              rw [hrr] at hq hcs
              simp only at hq
              obtain ⟨q', hq'⟩ : ∃ q' : Int, 4096 - (M' : Int) = q' := ⟨_, rfl⟩
              have hq5 : q' ≤ 4096 := by omega
              have hq6 : ¬ 4096 < q' := by omega
              have hq7 : 0 ≤ q' := by omega
              unfold lkC lkN at hcs
              simp only [hq'] at hcs
              have HCS := Lib.hid hcs
              have HM' := Lib.hid hq'
              have HQ := Lib.hid hq
              clear hrr hcs hle hq' hq
              go_wp2
              have hS6 : Sx wr.heap.size wr [(⟨w.heap.size, 4, none⟩, (.slice (some ⟨g, o, none⟩) l.length cap)), (⟨w.heap.size + 1, 4, none⟩, (.slice (some ⟨g', o', none⟩) l'.length cap')), (⟨g, o + j * 6, none⟩, (.int .i64 k1)), (⟨g, o + j * 6 + 1, none⟩, (.int .i64 k2)), (⟨g, o + j * 6 + 2, none⟩, (.int .i64 k3)), (⟨g, o + j * 6 + 3, none⟩, (.string k4)), (⟨g, o + j * 6 + 4, none⟩, k5), (⟨g, o + j * 6 + 5, none⟩, k6), (⟨g', o' + j * 6, none⟩, (.int .i64 m1)), (⟨g', o' + j * 6 + 1, none⟩, (.int .i64 m2)), (⟨g', o' + j * 6 + 2, none⟩, (.int .i64 m3)), (⟨g', o' + j * 6 + 3, none⟩, (.string m4)), (⟨g', o' + j * 6 + 4, none⟩, m5), (⟨g', o' + j * 6 + 5, none⟩, m6)] (wr) := by
                refine ⟨Below.refl _ _, ?_⟩
                intro t ht
                simp only [List.mem_cons, List.not_mem_nil, or_false] at ht
                rcases ht with rfl | rfl | rfl | rfl | rfl | rfl | rfl | rfl | rfl | rfl | rfl | rfl | rfl | rfl
                · exact Sx.mk (x4)
                · exact Sx.mk (y4)
                · exact Sx.mk (c0)
                · exact Sx.mk (c1)
                · exact Sx.mk (c2)
                · exact Sx.mk (c3)
                · exact Sx.mk (c4)
                · exact Sx.mk (c5)
                · exact Sx.mk (a0)
                · exact Sx.mk (a1)
                · exact Sx.mk (a2)
                · exact Sx.mk (a3)
                · exact Sx.mk (a4)
                · exact Sx.mk (a5)
              obtain ⟨fx6, hfx6⟩ : ∃ fx : List (Addr × Value), [(⟨w.heap.size, 4, none⟩, (.slice (some ⟨g, o, none⟩) l.length cap)), (⟨w.heap.size + 1, 4, none⟩, (.slice (some ⟨g', o', none⟩) l'.length cap')), (⟨g, o + j * 6, none⟩, (.int .i64 k1)), (⟨g, o + j * 6 + 1, none⟩, (.int .i64 k2)), (⟨g, o + j * 6 + 2, none⟩, (.int .i64 k3)), (⟨g, o + j * 6 + 3, none⟩, (.string k4)), (⟨g, o + j * 6 + 4, none⟩, k5), (⟨g, o + j * 6 + 5, none⟩, k6), (⟨g', o' + j * 6, none⟩, (.int .i64 m1)), (⟨g', o' + j * 6 + 1, none⟩, (.int .i64 m2)), (⟨g', o' + j * 6 + 2, none⟩, (.int .i64 m3)), (⟨g', o' + j * 6 + 3, none⟩, (.string m4)), (⟨g', o' + j * 6 + 4, none⟩, m5), (⟨g', o' + j * 6 + 5, none⟩, m6)] = fx := ⟨_, rfl⟩
              rw [hfx6] at hS6
              have u6_0 := Sx.get (B := wr.heap.size) (o := wr) (fx := fx6) (p := ⟨w.heap.size, 4, none⟩) (v := (.slice (some ⟨g, o, none⟩) l.length cap)) (by subst hfx6; simp)
              have u6_1 := Sx.get (B := wr.heap.size) (o := wr) (fx := fx6) (p := ⟨w.heap.size + 1, 4, none⟩) (v := (.slice (some ⟨g', o', none⟩) l'.length cap')) (by subst hfx6; simp)
              have u6_2 := Sx.get (B := wr.heap.size) (o := wr) (fx := fx6) (p := ⟨g, o + j * 6, none⟩) (v := (.int .i64 k1)) (by subst hfx6; simp)
              have u6_3 := Sx.get (B := wr.heap.size) (o := wr) (fx := fx6) (p := ⟨g, o + j * 6 + 1, none⟩) (v := (.int .i64 k2)) (by subst hfx6; simp)
              have u6_4 := Sx.get (B := wr.heap.size) (o := wr) (fx := fx6) (p := ⟨g, o + j * 6 + 2, none⟩) (v := (.int .i64 k3)) (by subst hfx6; simp)
              have u6_5 := Sx.get (B := wr.heap.size) (o := wr) (fx := fx6) (p := ⟨g, o + j * 6 + 3, none⟩) (v := (.string k4)) (by subst hfx6; simp)
              have u6_6 := Sx.get (B := wr.heap.size) (o := wr) (fx := fx6) (p := ⟨g, o + j * 6 + 4, none⟩) (v := k5) (by subst hfx6; simp)
              have u6_7 := Sx.get (B := wr.heap.size) (o := wr) (fx := fx6) (p := ⟨g, o + j * 6 + 5, none⟩) (v := k6) (by subst hfx6; simp)
              have u6_8 := Sx.get (B := wr.heap.size) (o := wr) (fx := fx6) (p := ⟨g', o' + j * 6, none⟩) (v := (.int .i64 m1)) (by subst hfx6; simp)
              have u6_9 := Sx.get (B := wr.heap.size) (o := wr) (fx := fx6) (p := ⟨g', o' + j * 6 + 1, none⟩) (v := (.int .i64 m2)) (by subst hfx6; simp)
              have u6_10 := Sx.get (B := wr.heap.size) (o := wr) (fx := fx6) (p := ⟨g', o' + j * 6 + 2, none⟩) (v := (.int .i64 m3)) (by subst hfx6; simp)
              have u6_11 := Sx.get (B := wr.heap.size) (o := wr) (fx := fx6) (p := ⟨g', o' + j * 6 + 3, none⟩) (v := (.string m4)) (by subst hfx6; simp)
              have u6_12 := Sx.get (B := wr.heap.size) (o := wr) (fx := fx6) (p := ⟨g', o' + j * 6 + 4, none⟩) (v := m5) (by subst hfx6; simp)
              have u6_13 := Sx.get (B := wr.heap.size) (o := wr) (fx := fx6) (p := ⟨g', o' + j * 6 + 5, none⟩) (v := m6) (by subst hfx6; simp)
              clear hfx6
              have HS6 := Lib.hid hS6
              clear hS6
              clear x0 x1 x2 x3 x4 x5 y0 y1 y2 y3 y4 y5 c0 c1 c2 c3 c4 c5 a0 a1 a2 a3 a4 a5
              refine wp_region_held_drew (S := Sx wr.heap.size wr fx6) (by kernel_rfl) HS6.out.drew (fun hHeld => ?_)
              refine take_put (i := 0) (d := 76) (oi := _) (v := ?vs5x0) rfl rfl (by kernel_rfl) (by kernel_rfl) (by kernel_rfl) (fun _ _ _ h => h) (Or.inl ⟨by rfl, ?ys5x0⟩) hHeld ?rs5x0
              case ys5x0 => (intro w hSw; (try dsimp only at hSw); go_simp; try with_reducible rfl)
              simp only [Act.put, List.setIfInBounds_toArray, List.set_cons_zero, List.set_cons_succ]
              refine take_put (i := 1) (d := 77) (oi := _) (v := ?vs5x1) rfl rfl (by kernel_rfl) (by kernel_rfl) (by kernel_rfl) (fun _ _ _ h => h) (Or.inl ⟨by rfl, ?ys5x1⟩) hHeld ?rs5x1
              case ys5x1 => (intro w hSw; (try dsimp only at hSw); go_simp; try with_reducible rfl)
              simp only [Act.put, List.setIfInBounds_toArray, List.set_cons_zero, List.set_cons_succ]
              refine take_put (i := 2) (d := 78) (oi := _) (v := ?vs5x2) rfl rfl (by kernel_rfl) (by kernel_rfl) (by kernel_rfl) (fun _ _ _ h => h) (Or.inl ⟨by rfl, ?ys5x2⟩) hHeld ?rs5x2
              case ys5x2 => (intro w hSw; (try dsimp only at hSw); go_simp; try with_reducible rfl)
              simp only [Act.put, List.setIfInBounds_toArray, List.set_cons_zero, List.set_cons_succ]
              refine take_put (i := 3) (d := 79) (oi := _) (v := ?vs5x3) rfl rfl (by kernel_rfl) (by kernel_rfl) (by kernel_rfl) (fun _ _ _ h => h) (Or.inl ⟨by rfl, ?ys5x3⟩) hHeld ?rs5x3
              case ys5x3 => (intro w hSw; (try dsimp only at hSw); go_simp; try with_reducible rfl)
              simp only [Act.put, List.setIfInBounds_toArray, List.set_cons_zero, List.set_cons_succ]
              refine take_put (i := 4) (d := 80) (oi := _) (v := ?vs5x4) rfl rfl (by kernel_rfl) (by kernel_rfl) (by kernel_rfl) (fun _ _ _ h => h) (Or.inl ⟨by rfl, ?ys5x4⟩) hHeld ?rs5x4
              case ys5x4 => (intro w hSw; (try dsimp only at hSw); go_simp; try with_reducible rfl)
              simp only [Act.put, List.setIfInBounds_toArray, List.set_cons_zero, List.set_cons_succ]
              refine take_put (i := 5) (d := 81) (oi := _) (v := ?vs5x5) rfl rfl (by kernel_rfl) (by kernel_rfl) (by kernel_rfl) (fun _ _ _ h => h) (Or.inl ⟨by rfl, ?ys5x5⟩) hHeld ?rs5x5
              case ys5x5 => (intro w hSw; (try dsimp only at hSw); go_simp; try with_reducible rfl)
              simp only [Act.put, List.setIfInBounds_toArray, List.set_cons_zero, List.set_cons_succ]
              refine take_put (i := 6) (d := 82) (oi := _) (v := ?vs5x6) rfl rfl (by kernel_rfl) (by kernel_rfl) (by kernel_rfl) (fun _ _ _ h => h) (Or.inl ⟨by rfl, ?ys5x6⟩) hHeld ?rs5x6
              case ys5x6 => (intro w hSw; (try dsimp only at hSw); go_simp; try with_reducible rfl)
              simp only [Act.put, List.setIfInBounds_toArray, List.set_cons_zero, List.set_cons_succ]
              refine take_put (i := 7) (d := 83) (oi := _) (v := ?vs5x7) rfl rfl (by kernel_rfl) (by kernel_rfl) (by kernel_rfl) (fun _ _ _ h => h) (Or.inl ⟨by rfl, ?ys5x7⟩) hHeld ?rs5x7
              case ys5x7 => (intro w hSw; (try dsimp only at hSw); go_simp; try with_reducible rfl)
              simp only [Act.put, List.setIfInBounds_toArray, List.set_cons_zero, List.set_cons_succ]
              refine take_put (i := 8) (d := 84) (oi := _) (v := ?vs5x8) rfl rfl (by kernel_rfl) (by kernel_rfl) (by kernel_rfl) (fun _ _ _ h => h) (Or.inl ⟨by rfl, ?ys5x8⟩) hHeld ?rs5x8
              case ys5x8 => (intro w hSw; (try dsimp only at hSw); go_simp; try with_reducible rfl)
              simp only [Act.put, List.setIfInBounds_toArray, List.set_cons_zero, List.set_cons_succ]
              refine take_put (i := 9) (d := 85) (oi := _) (v := ?vs5x9) rfl rfl (by kernel_rfl) (by kernel_rfl) (by kernel_rfl) (fun _ _ _ h => h) (Or.inl ⟨by rfl, ?ys5x9⟩) hHeld ?rs5x9
              case ys5x9 => (intro w hSw; (try dsimp only at hSw); go_simp; try with_reducible rfl)
              simp only [Act.put, List.setIfInBounds_toArray, List.set_cons_zero, List.set_cons_succ]
              refine take_put (i := 10) (d := 86) (oi := _) (v := ?vs5x10) rfl rfl (by kernel_rfl) (by kernel_rfl) (by kernel_rfl) (fun _ _ _ h => h) (Or.inl ⟨by rfl, ?ys5x10⟩) hHeld ?rs5x10
              case ys5x10 => (intro w hSw; (try dsimp only at hSw); go_simp; try with_reducible rfl)
              simp only [Act.put, List.setIfInBounds_toArray, List.set_cons_zero, List.set_cons_succ]
              refine wpAnyH_ready (rs := [11]) (by kernel_rfl) (by simp) (AllReadyH.cons (o := _) rfl (fun K hK => ?_) AllReadyH.nil)
              go_simp
              refine HCS.out.mono ?_
              rintro e w6 ⟨c, m, rfl, rfl, rfl, b6⟩
              have HB6 := Lib.hid (bT HB0.out.drew b6)
              have HV6 : Hid (Vb w6 w.heap.size #[.int .i64 5, .int .i64 xc, .int .i64 xs, .string xst, .slice (some ⟨g, o, none⟩) l.length cap, .slice ko n3 kcap] ∧ Vb w6 (w.heap.size + 1) #[.int .i64 yk, .int .i64 yc, .int .i64 ys, .string yst, .slice (some ⟨g', o', none⟩) l'.length cap', .slice ko' n4 kcap']) := Lib.hid ⟨(HV0.out.1.drewN 1).on b6, (HV0.out.2.drewN 1).on b6⟩
              (try dsimp only)
              refine hK.out _ _ (Sx.call HS6.out.drew b6 (Nat.le_refl _)) (fun hHeld => ?_)
              clear hK K
              refine take_put (i := 12) (d := 75) (oi := _) (v := ?vs5x12) rfl rfl (by kernel_rfl) (by kernel_rfl) (by kernel_rfl) (fun _ _ _ h => h) (Or.inl ⟨by rfl, ?ys5x12⟩) hHeld ?rs5x12
              case ys5x12 => (intro w hSw; (try dsimp only at hSw); go_simp; try with_reducible rfl)
              simp only [Act.put, List.setIfInBounds_toArray, List.set_cons_zero, List.set_cons_succ]
              refine take_put (i := 13) (d := 88) (oi := _) (v := ?vs5x13) rfl rfl (by kernel_rfl) (by kernel_rfl) (by kernel_rfl) (fun _ _ _ h => h) (Or.inl ⟨by rfl, ?ys5x13⟩) hHeld ?rs5x13
              case ys5x13 => (intro w hSw; (try dsimp only at hSw); go_simp; try with_reducible rfl)
              simp only [Act.put, List.setIfInBounds_toArray, List.set_cons_zero, List.set_cons_succ]
              refine take_put (i := 14) (d := 89) (oi := _) (v := ?vs5x14) rfl rfl (by kernel_rfl) (by kernel_rfl) (by kernel_rfl) (fun _ _ _ h => h) (Or.inl ⟨by rfl, ?ys5x14⟩) hHeld ?rs5x14
              case ys5x14 => (intro w hSw; (try dsimp only at hSw); go_simp; try with_reducible rfl)
              simp only [Act.put, List.setIfInBounds_toArray, List.set_cons_zero, List.set_cons_succ]
              refine take_put (i := 15) (d := 8) (oi := _) (v := ?vs5x15) rfl rfl (by kernel_rfl) (by kernel_rfl) (by kernel_rfl) (fun _ _ _ h => h) (Or.inl ⟨by rfl, ?ys5x15⟩) hHeld ?rs5x15
              case ys5x15 => (intro w hSw; (try dsimp only at hSw); go_simp; try with_reducible rfl)
              simp only [Act.put, List.setIfInBounds_toArray, List.set_cons_zero, List.set_cons_succ]
              refine take_put (i := 16) (d := 2) (oi := _) (v := ?vs5x16) rfl rfl (by kernel_rfl) (by kernel_rfl) (by kernel_rfl) (fun _ _ _ h => h) (Or.inl ⟨by rfl, ?ys5x16⟩) hHeld ?rs5x16
              case ys5x16 => (intro w hSw; (try dsimp only at hSw); go_simp; try with_reducible rfl)
              simp only [Act.put, List.setIfInBounds_toArray, List.set_cons_zero, List.set_cons_succ]
              refine wpAnyH_done (by kernel_rfl) ?_ _
              clear hHeld b6
              go_wp2
              go_roundw
              case rel => exact ⟨j + 1, M', c, m, by go_num, rfl, rfl, hq5, by omega, by omega, by omega, HM', HQ, HV6, HB6⟩
              case measure => simp [intOf]; omega
          · have h1 := HL.out
            have h2 := HL'.out
            rw [cmpL_end (by rw [List.length_drop, List.length_drop]; omega), List.length_drop, List.length_drop, sgn_sub (by omega) (by omega), ← h1, ← h2] at hq
            subst hq
            clear h1 h2 HQ
            by_cases h3 : j < l.length
            · have h4 : ¬ j < l'.length := fun h => hlt ⟨h3, h⟩
              go_wp2_with (go_at_call 55; refine (sign_any _ _ _).mono ?_; rintro e w1 ⟨rfl, rfl⟩)
              go_ret2
              exact ⟨_, _, rfl, rfl, HM.out.symm, HB0.out⟩
            · go_wp2_with (go_at_call 55; refine (sign_any _ _ _).mono ?_; rintro e w1 ⟨rfl, rfl⟩)
              go_ret2
              exact ⟨_, _, rfl, rfl, HM.out.symm, HB0.out⟩
        · have hq := HQ.out
          rw [if_neg h0] at hq
          subst hq
          have h0b : (c == 0) = false := by simpa using h0
          clear HQ
          go_wp2
          go_ret2
          exact ⟨_, _, rfl, rfl, HM.out.symm, HB0.out⟩
    by_cases k6 : xk = 6
    · subst k6
      clear hK
      have hq := HR.out
      rw [if_neg (by decide), if_neg (by decide), if_neg (by decide), if_pos rfl] at hq
      obtain ⟨c, hc2⟩ : ∃ c, ksC t.keys u.keys = c := ⟨_, rfl⟩
      have hkc := HKC.out
      rw [hc2] at hq hkc
      have HKC2 := Lib.hid hkc
      have HQ : Hid (r = if c = 0 then cmpL (t.items.drop 0) (u.items.drop 0) M else some (c, M)) := Lib.hid (by rw [List.drop_zero, List.drop_zero]; exact hq.symm)
      clear HR HKC hq HTX hkc hc2
      go_upto_region 17 with (go_at_call 60; refine (HKC2.out _ HB0.out).mono ?_; rintro e w2 ⟨rfl, hd⟩; have HB2 := Lib.hid (bT HB0.out (DN.below hd)); have HV2 := Lib.hid (And.intro (HV0.out.1.on (DN.below hd)) (HV0.out.2.on (DN.below hd))); clear hd)
      clear x0 x1 x2 x3 x4 x5 y0 y1 y2 y3 y4 y5 HB0 HV0 HKC2
      have HB0 := HB2
      have HV0 := HV2
      clear HB2 HV2
      go_wp2
      go_loopw [2, 8, 9] (fun nv cv iv wr => ∃ (j N : Nat) (c q : Int), iv = .int .i64 (j : Nat) ∧ cv = .int .i64 c ∧ nv = .int .i64 q ∧ q ≤ 4096 ∧ j ≤ l.length ∧ j ≤ l'.length ∧ N ≤ 4096 ∧ Hid (4096 - (N : Int) = q) ∧ Hid (r = if c = 0 then cmpL (t.items.drop j) (u.items.drop j) N else some (c, N)) ∧ Hid (Vb wr w.heap.size #[.int .i64 6, .int .i64 xc, .int .i64 xs, .string xst, .slice ao l.length cap, .slice ko n3 kcap] ∧ Vb wr (w.heap.size + 1) #[.int .i64 yk, .int .i64 yc, .int .i64 ys, .string yst, .slice ao' l'.length cap', .slice ko' n4 kcap']) ∧ Hid (Below w.heap.size w wr)) (fun _ _ iv _ => l.length - (intOf iv).toNat)
      case atStart => exact ⟨0, M, c, a, rfl, rfl, rfl, by omega, by omega, by omega, by omega, HM, HQ, HV0, HB0⟩
      case round =>
        clear HQ HV0 HB0 HM
        obtain ⟨j, N, c, q, rfl, rfl, rfl, hq4, hj, hj', hN, HM, HQ, HV0, HB0⟩ := hrel
        have hqb : 0 ≤ q := by have := HM.out; omega
        obtain ⟨x0, x1, x2, x3, x4, x5⟩ := HV0.out.1.six
        obtain ⟨y0, y1, y2, y3, y4, y5⟩ := HV0.out.2.six
        by_cases h0 : c = 0
        · subst h0
          have hq := HQ.out
          rw [if_pos rfl] at hq
          by_cases hlt : j < l.length ∧ j < l'.length
          · as_aux_lemma =>
            obtain ⟨h1, h2⟩ := hlt
            obtain ⟨y1, hy1⟩ : ∃ x, l[j]? = some x := ⟨_, List.getElem?_eq_getElem h1⟩
            obtain ⟨y2, hy2⟩ : ∃ x, l'[j]? = some x := ⟨_, List.getElem?_eq_getElem h2⟩
            obtain ⟨t1, ht1⟩ : ∃ x, t.items[j]? = some x := ⟨_, List.getElem?_eq_getElem (by have := HL.out; omega)⟩
            obtain ⟨u1, hu1⟩ : ∃ x, u.items[j]? = some x := ⟨_, List.getElem?_eq_getElem (by have := HL'.out; omega)⟩
            obtain ⟨g, o, rfl, hg, hcl⟩ := H.out (by omega)
            obtain ⟨g', o', rfl, hg', hcl'⟩ := H'.out (by omega)
            rw [cmpL_at ht1 hu1] at hq
            have A1 := (hcl j y1 hy1).on hg HB0.out
            have A2 := (hcl' j y2 hy2).on hg' HB0.out
            have hcs := IH.out y1 y2 t1 u1 N wr.drew (VT.on HB0.out.drew n (HT.out j y1 t1 hy1 ht1)) ⟨my, VT.on HB0.out.drew my (HT'.out j y2 u1 hy2 hu1)⟩ hN
            rw [HM.out] at hcs
            have hle := cmpV_le t1 u1 N
            obtain ⟨k1, k2, k3, k4, k5, k6⟩ := y1
            obtain ⟨m1, m2, m3, m4, m5, m6⟩ := y2
            obtain ⟨c0, c1, c2, c3, c4, c5⟩ := A1
            obtain ⟨a0, a1, a2, a3, a4, a5⟩ := A2
            simp only at c0 c1 c2 c3 c4 c5 a0 a1 a2 a3 a4 a5
            unfold Six.val vV at hcs
            simp only at hcs
            have i1 : (j : Int) < (l.length : Int) := by omega
            have i2 : (j : Int) < (l'.length : Int) := by omega
            clear hcl hcl' hy1 hy2 ht1 hu1 HQ H H'
            cases hrr : cmpV t1 u1 N with
            | none =>
              rw [hrr] at hq hcs
              simp only at hq
              subst hq
              have HCS := Lib.hid hcs
              clear hrr hcs hle
              go_wp2
              have hS5 : Sx wr.heap.size wr [(⟨w.heap.size, 4, none⟩, (.slice (some ⟨g, o, none⟩) l.length cap)), (⟨w.heap.size + 1, 4, none⟩, (.slice (some ⟨g', o', none⟩) l'.length cap')), (⟨g, o + j * 6, none⟩, (.int .i64 k1)), (⟨g, o + j * 6 + 1, none⟩, (.int .i64 k2)), (⟨g, o + j * 6 + 2, none⟩, (.int .i64 k3)), (⟨g, o + j * 6 + 3, none⟩, (.string k4)), (⟨g, o + j * 6 + 4, none⟩, k5), (⟨g, o + j * 6 + 5, none⟩, k6), (⟨g', o' + j * 6, none⟩, (.int .i64 m1)), (⟨g', o' + j * 6 + 1, none⟩, (.int .i64 m2)), (⟨g', o' + j * 6 + 2, none⟩, (.int .i64 m3)), (⟨g', o' + j * 6 + 3, none⟩, (.string m4)), (⟨g', o' + j * 6 + 4, none⟩, m5), (⟨g', o' + j * 6 + 5, none⟩, m6)] (wr) := by
                refine ⟨Below.refl _ _, ?_⟩
                intro t ht
                simp only [List.mem_cons, List.not_mem_nil, or_false] at ht
                rcases ht with rfl | rfl | rfl | rfl | rfl | rfl | rfl | rfl | rfl | rfl | rfl | rfl | rfl | rfl
                · exact Sx.mk (x4)
                · exact Sx.mk (y4)
                · exact Sx.mk (c0)
                · exact Sx.mk (c1)
                · exact Sx.mk (c2)
                · exact Sx.mk (c3)
                · exact Sx.mk (c4)
                · exact Sx.mk (c5)
                · exact Sx.mk (a0)
                · exact Sx.mk (a1)
                · exact Sx.mk (a2)
                · exact Sx.mk (a3)
                · exact Sx.mk (a4)
                · exact Sx.mk (a5)
              obtain ⟨fx5, hfx5⟩ : ∃ fx : List (Addr × Value), [(⟨w.heap.size, 4, none⟩, (.slice (some ⟨g, o, none⟩) l.length cap)), (⟨w.heap.size + 1, 4, none⟩, (.slice (some ⟨g', o', none⟩) l'.length cap')), (⟨g, o + j * 6, none⟩, (.int .i64 k1)), (⟨g, o + j * 6 + 1, none⟩, (.int .i64 k2)), (⟨g, o + j * 6 + 2, none⟩, (.int .i64 k3)), (⟨g, o + j * 6 + 3, none⟩, (.string k4)), (⟨g, o + j * 6 + 4, none⟩, k5), (⟨g, o + j * 6 + 5, none⟩, k6), (⟨g', o' + j * 6, none⟩, (.int .i64 m1)), (⟨g', o' + j * 6 + 1, none⟩, (.int .i64 m2)), (⟨g', o' + j * 6 + 2, none⟩, (.int .i64 m3)), (⟨g', o' + j * 6 + 3, none⟩, (.string m4)), (⟨g', o' + j * 6 + 4, none⟩, m5), (⟨g', o' + j * 6 + 5, none⟩, m6)] = fx := ⟨_, rfl⟩
              rw [hfx5] at hS5
              have u5_0 := Sx.get (B := wr.heap.size) (o := wr) (fx := fx5) (p := ⟨w.heap.size, 4, none⟩) (v := (.slice (some ⟨g, o, none⟩) l.length cap)) (by subst hfx5; simp)
              have u5_1 := Sx.get (B := wr.heap.size) (o := wr) (fx := fx5) (p := ⟨w.heap.size + 1, 4, none⟩) (v := (.slice (some ⟨g', o', none⟩) l'.length cap')) (by subst hfx5; simp)
              have u5_2 := Sx.get (B := wr.heap.size) (o := wr) (fx := fx5) (p := ⟨g, o + j * 6, none⟩) (v := (.int .i64 k1)) (by subst hfx5; simp)
              have u5_3 := Sx.get (B := wr.heap.size) (o := wr) (fx := fx5) (p := ⟨g, o + j * 6 + 1, none⟩) (v := (.int .i64 k2)) (by subst hfx5; simp)
              have u5_4 := Sx.get (B := wr.heap.size) (o := wr) (fx := fx5) (p := ⟨g, o + j * 6 + 2, none⟩) (v := (.int .i64 k3)) (by subst hfx5; simp)
              have u5_5 := Sx.get (B := wr.heap.size) (o := wr) (fx := fx5) (p := ⟨g, o + j * 6 + 3, none⟩) (v := (.string k4)) (by subst hfx5; simp)
              have u5_6 := Sx.get (B := wr.heap.size) (o := wr) (fx := fx5) (p := ⟨g, o + j * 6 + 4, none⟩) (v := k5) (by subst hfx5; simp)
              have u5_7 := Sx.get (B := wr.heap.size) (o := wr) (fx := fx5) (p := ⟨g, o + j * 6 + 5, none⟩) (v := k6) (by subst hfx5; simp)
              have u5_8 := Sx.get (B := wr.heap.size) (o := wr) (fx := fx5) (p := ⟨g', o' + j * 6, none⟩) (v := (.int .i64 m1)) (by subst hfx5; simp)
              have u5_9 := Sx.get (B := wr.heap.size) (o := wr) (fx := fx5) (p := ⟨g', o' + j * 6 + 1, none⟩) (v := (.int .i64 m2)) (by subst hfx5; simp)
              have u5_10 := Sx.get (B := wr.heap.size) (o := wr) (fx := fx5) (p := ⟨g', o' + j * 6 + 2, none⟩) (v := (.int .i64 m3)) (by subst hfx5; simp)
              have u5_11 := Sx.get (B := wr.heap.size) (o := wr) (fx := fx5) (p := ⟨g', o' + j * 6 + 3, none⟩) (v := (.string m4)) (by subst hfx5; simp)
              have u5_12 := Sx.get (B := wr.heap.size) (o := wr) (fx := fx5) (p := ⟨g', o' + j * 6 + 4, none⟩) (v := m5) (by subst hfx5; simp)
              have u5_13 := Sx.get (B := wr.heap.size) (o := wr) (fx := fx5) (p := ⟨g', o' + j * 6 + 5, none⟩) (v := m6) (by subst hfx5; simp)
              clear hfx5
              have HS5 := Lib.hid hS5
              clear hS5
              clear x0 x1 x2 x3 x4 x5 y0 y1 y2 y3 y4 y5 c0 c1 c2 c3 c4 c5 a0 a1 a2 a3 a4 a5
              refine wp_region_held_drew (S := Sx wr.heap.size wr fx5) (by kernel_rfl) HS5.out.drew (fun hHeld => ?_)
              refine take_put (i := 0) (d := 76) (oi := _) (v := ?vn6x0) rfl rfl (by kernel_rfl) (by kernel_rfl) (by kernel_rfl) (fun _ _ _ h => h) (Or.inl ⟨by rfl, ?yn6x0⟩) hHeld ?rn6x0
              case yn6x0 => (intro w hSw; (try dsimp only at hSw); go_simp; try with_reducible rfl)
              simp only [Act.put, List.setIfInBounds_toArray, List.set_cons_zero, List.set_cons_succ]
              refine take_put (i := 1) (d := 77) (oi := _) (v := ?vn6x1) rfl rfl (by kernel_rfl) (by kernel_rfl) (by kernel_rfl) (fun _ _ _ h => h) (Or.inl ⟨by rfl, ?yn6x1⟩) hHeld ?rn6x1
              case yn6x1 => (intro w hSw; (try dsimp only at hSw); go_simp; try with_reducible rfl)
              simp only [Act.put, List.setIfInBounds_toArray, List.set_cons_zero, List.set_cons_succ]
              refine take_put (i := 2) (d := 78) (oi := _) (v := ?vn6x2) rfl rfl (by kernel_rfl) (by kernel_rfl) (by kernel_rfl) (fun _ _ _ h => h) (Or.inl ⟨by rfl, ?yn6x2⟩) hHeld ?rn6x2
              case yn6x2 => (intro w hSw; (try dsimp only at hSw); go_simp; try with_reducible rfl)
              simp only [Act.put, List.setIfInBounds_toArray, List.set_cons_zero, List.set_cons_succ]
              refine take_put (i := 3) (d := 79) (oi := _) (v := ?vn6x3) rfl rfl (by kernel_rfl) (by kernel_rfl) (by kernel_rfl) (fun _ _ _ h => h) (Or.inl ⟨by rfl, ?yn6x3⟩) hHeld ?rn6x3
              case yn6x3 => (intro w hSw; (try dsimp only at hSw); go_simp; try with_reducible rfl)
              simp only [Act.put, List.setIfInBounds_toArray, List.set_cons_zero, List.set_cons_succ]
              refine take_put (i := 4) (d := 80) (oi := _) (v := ?vn6x4) rfl rfl (by kernel_rfl) (by kernel_rfl) (by kernel_rfl) (fun _ _ _ h => h) (Or.inl ⟨by rfl, ?yn6x4⟩) hHeld ?rn6x4
              case yn6x4 => (intro w hSw; (try dsimp only at hSw); go_simp; try with_reducible rfl)
              simp only [Act.put, List.setIfInBounds_toArray, List.set_cons_zero, List.set_cons_succ]
              refine take_put (i := 5) (d := 81) (oi := _) (v := ?vn6x5) rfl rfl (by kernel_rfl) (by kernel_rfl) (by kernel_rfl) (fun _ _ _ h => h) (Or.inl ⟨by rfl, ?yn6x5⟩) hHeld ?rn6x5
              case yn6x5 => (intro w hSw; (try dsimp only at hSw); go_simp; try with_reducible rfl)
              simp only [Act.put, List.setIfInBounds_toArray, List.set_cons_zero, List.set_cons_succ]
              refine take_put (i := 6) (d := 82) (oi := _) (v := ?vn6x6) rfl rfl (by kernel_rfl) (by kernel_rfl) (by kernel_rfl) (fun _ _ _ h => h) (Or.inl ⟨by rfl, ?yn6x6⟩) hHeld ?rn6x6
              case yn6x6 => (intro w hSw; (try dsimp only at hSw); go_simp; try with_reducible rfl)
              simp only [Act.put, List.setIfInBounds_toArray, List.set_cons_zero, List.set_cons_succ]
              refine take_put (i := 7) (d := 83) (oi := _) (v := ?vn6x7) rfl rfl (by kernel_rfl) (by kernel_rfl) (by kernel_rfl) (fun _ _ _ h => h) (Or.inl ⟨by rfl, ?yn6x7⟩) hHeld ?rn6x7
              case yn6x7 => (intro w hSw; (try dsimp only at hSw); go_simp; try with_reducible rfl)
              simp only [Act.put, List.setIfInBounds_toArray, List.set_cons_zero, List.set_cons_succ]
              refine take_put (i := 8) (d := 84) (oi := _) (v := ?vn6x8) rfl rfl (by kernel_rfl) (by kernel_rfl) (by kernel_rfl) (fun _ _ _ h => h) (Or.inl ⟨by rfl, ?yn6x8⟩) hHeld ?rn6x8
              case yn6x8 => (intro w hSw; (try dsimp only at hSw); go_simp; try with_reducible rfl)
              simp only [Act.put, List.setIfInBounds_toArray, List.set_cons_zero, List.set_cons_succ]
              refine take_put (i := 9) (d := 85) (oi := _) (v := ?vn6x9) rfl rfl (by kernel_rfl) (by kernel_rfl) (by kernel_rfl) (fun _ _ _ h => h) (Or.inl ⟨by rfl, ?yn6x9⟩) hHeld ?rn6x9
              case yn6x9 => (intro w hSw; (try dsimp only at hSw); go_simp; try with_reducible rfl)
              simp only [Act.put, List.setIfInBounds_toArray, List.set_cons_zero, List.set_cons_succ]
              refine take_put (i := 10) (d := 86) (oi := _) (v := ?vn6x10) rfl rfl (by kernel_rfl) (by kernel_rfl) (by kernel_rfl) (fun _ _ _ h => h) (Or.inl ⟨by rfl, ?yn6x10⟩) hHeld ?rn6x10
              case yn6x10 => (intro w hSw; (try dsimp only at hSw); go_simp; try with_reducible rfl)
              simp only [Act.put, List.setIfInBounds_toArray, List.set_cons_zero, List.set_cons_succ]
              refine wpAnyH_ready (rs := [11]) (by kernel_rfl) (by simp) (AllReadyH.cons (o := _) rfl (fun K hK => ?_) AllReadyH.nil)
              go_simp
              refine HCS.out.mono ?_
              rintro e w6 ⟨c, m, rfl, rfl, rfl, b6⟩
              have HB6 := Lib.hid (bT HB0.out.drew b6)
              (try dsimp only)
              refine hK.out _ _ (Sx.call HS5.out.drew b6 (Nat.le_refl _)) (fun hHeld => ?_)
              clear hK K
              refine take_put (i := 12) (d := 75) (oi := _) (v := ?vn6x12) rfl rfl (by kernel_rfl) (by kernel_rfl) (by kernel_rfl) (fun _ _ _ h => h) (Or.inl ⟨by rfl, ?yn6x12⟩) hHeld ?rn6x12
              case yn6x12 => (intro w hSw; (try dsimp only at hSw); go_simp; try with_reducible rfl)
              simp only [Act.put, List.setIfInBounds_toArray, List.set_cons_zero, List.set_cons_succ]
              refine take_put (i := 13) (d := 88) (oi := _) (v := ?vn6x13) rfl rfl (by kernel_rfl) (by kernel_rfl) (by kernel_rfl) (fun _ _ _ h => h) (Or.inl ⟨by rfl, ?yn6x13⟩) hHeld ?rn6x13
              case yn6x13 => (intro w hSw; (try dsimp only at hSw); go_simp; try with_reducible rfl)
              simp only [Act.put, List.setIfInBounds_toArray, List.set_cons_zero, List.set_cons_succ]
              refine take_put (i := 14) (d := 89) (oi := _) (v := ?vn6x14) rfl rfl (by kernel_rfl) (by kernel_rfl) (by kernel_rfl) (fun _ _ _ h => h) (Or.inl ⟨by rfl, ?yn6x14⟩) hHeld ?rn6x14
              case yn6x14 => (intro w hSw; (try dsimp only at hSw); go_simp; try with_reducible rfl)
              simp only [Act.put, List.setIfInBounds_toArray, List.set_cons_zero, List.set_cons_succ]
              refine take_put (i := 15) (d := 8) (oi := _) (v := ?vn6x15) rfl rfl (by kernel_rfl) (by kernel_rfl) (by kernel_rfl) (fun _ _ _ h => h) (Or.inl ⟨by rfl, ?yn6x15⟩) hHeld ?rn6x15
              case yn6x15 => (intro w hSw; (try dsimp only at hSw); go_simp; try with_reducible rfl)
              simp only [Act.put, List.setIfInBounds_toArray, List.set_cons_zero, List.set_cons_succ]
              refine take_put (i := 16) (d := 2) (oi := _) (v := ?vn6x16) rfl rfl (by kernel_rfl) (by kernel_rfl) (by kernel_rfl) (fun _ _ _ h => h) (Or.inl ⟨by rfl, ?yn6x16⟩) hHeld ?rn6x16
              case yn6x16 => (intro w hSw; (try dsimp only at hSw); go_simp; try with_reducible rfl)
              simp only [Act.put, List.setIfInBounds_toArray, List.set_cons_zero, List.set_cons_succ]
              refine wpAnyH_done (by kernel_rfl) ?_ _
              clear hHeld b6
              go_wp2
              go_ret2
              exact ⟨_, _, rfl, rfl, rfl, HB6.out⟩
            | some p =>
              obtain ⟨c', M'⟩ := p
              have hM' : M' ≤ N := hle c' M' hrr
              rw [hrr] at hq hcs
              simp only at hq
              obtain ⟨q', hq'⟩ : ∃ q' : Int, 4096 - (M' : Int) = q' := ⟨_, rfl⟩
              have hq5 : q' ≤ 4096 := by omega
              have hq6 : ¬ 4096 < q' := by omega
              have hq7 : 0 ≤ q' := by omega
              unfold lkC lkN at hcs
              simp only [hq'] at hcs
              have HCS := Lib.hid hcs
              have HM' := Lib.hid hq'
              have HQ := Lib.hid hq
              clear hrr hcs hle hq' hq
              go_wp2
              have hS6 : Sx wr.heap.size wr [(⟨w.heap.size, 4, none⟩, (.slice (some ⟨g, o, none⟩) l.length cap)), (⟨w.heap.size + 1, 4, none⟩, (.slice (some ⟨g', o', none⟩) l'.length cap')), (⟨g, o + j * 6, none⟩, (.int .i64 k1)), (⟨g, o + j * 6 + 1, none⟩, (.int .i64 k2)), (⟨g, o + j * 6 + 2, none⟩, (.int .i64 k3)), (⟨g, o + j * 6 + 3, none⟩, (.string k4)), (⟨g, o + j * 6 + 4, none⟩, k5), (⟨g, o + j * 6 + 5, none⟩, k6), (⟨g', o' + j * 6, none⟩, (.int .i64 m1)), (⟨g', o' + j * 6 + 1, none⟩, (.int .i64 m2)), (⟨g', o' + j * 6 + 2, none⟩, (.int .i64 m3)), (⟨g', o' + j * 6 + 3, none⟩, (.string m4)), (⟨g', o' + j * 6 + 4, none⟩, m5), (⟨g', o' + j * 6 + 5, none⟩, m6)] (wr) := by
                refine ⟨Below.refl _ _, ?_⟩
                intro t ht
                simp only [List.mem_cons, List.not_mem_nil, or_false] at ht
                rcases ht with rfl | rfl | rfl | rfl | rfl | rfl | rfl | rfl | rfl | rfl | rfl | rfl | rfl | rfl
                · exact Sx.mk (x4)
                · exact Sx.mk (y4)
                · exact Sx.mk (c0)
                · exact Sx.mk (c1)
                · exact Sx.mk (c2)
                · exact Sx.mk (c3)
                · exact Sx.mk (c4)
                · exact Sx.mk (c5)
                · exact Sx.mk (a0)
                · exact Sx.mk (a1)
                · exact Sx.mk (a2)
                · exact Sx.mk (a3)
                · exact Sx.mk (a4)
                · exact Sx.mk (a5)
              obtain ⟨fx6, hfx6⟩ : ∃ fx : List (Addr × Value), [(⟨w.heap.size, 4, none⟩, (.slice (some ⟨g, o, none⟩) l.length cap)), (⟨w.heap.size + 1, 4, none⟩, (.slice (some ⟨g', o', none⟩) l'.length cap')), (⟨g, o + j * 6, none⟩, (.int .i64 k1)), (⟨g, o + j * 6 + 1, none⟩, (.int .i64 k2)), (⟨g, o + j * 6 + 2, none⟩, (.int .i64 k3)), (⟨g, o + j * 6 + 3, none⟩, (.string k4)), (⟨g, o + j * 6 + 4, none⟩, k5), (⟨g, o + j * 6 + 5, none⟩, k6), (⟨g', o' + j * 6, none⟩, (.int .i64 m1)), (⟨g', o' + j * 6 + 1, none⟩, (.int .i64 m2)), (⟨g', o' + j * 6 + 2, none⟩, (.int .i64 m3)), (⟨g', o' + j * 6 + 3, none⟩, (.string m4)), (⟨g', o' + j * 6 + 4, none⟩, m5), (⟨g', o' + j * 6 + 5, none⟩, m6)] = fx := ⟨_, rfl⟩
              rw [hfx6] at hS6
              have u6_0 := Sx.get (B := wr.heap.size) (o := wr) (fx := fx6) (p := ⟨w.heap.size, 4, none⟩) (v := (.slice (some ⟨g, o, none⟩) l.length cap)) (by subst hfx6; simp)
              have u6_1 := Sx.get (B := wr.heap.size) (o := wr) (fx := fx6) (p := ⟨w.heap.size + 1, 4, none⟩) (v := (.slice (some ⟨g', o', none⟩) l'.length cap')) (by subst hfx6; simp)
              have u6_2 := Sx.get (B := wr.heap.size) (o := wr) (fx := fx6) (p := ⟨g, o + j * 6, none⟩) (v := (.int .i64 k1)) (by subst hfx6; simp)
              have u6_3 := Sx.get (B := wr.heap.size) (o := wr) (fx := fx6) (p := ⟨g, o + j * 6 + 1, none⟩) (v := (.int .i64 k2)) (by subst hfx6; simp)
              have u6_4 := Sx.get (B := wr.heap.size) (o := wr) (fx := fx6) (p := ⟨g, o + j * 6 + 2, none⟩) (v := (.int .i64 k3)) (by subst hfx6; simp)
              have u6_5 := Sx.get (B := wr.heap.size) (o := wr) (fx := fx6) (p := ⟨g, o + j * 6 + 3, none⟩) (v := (.string k4)) (by subst hfx6; simp)
              have u6_6 := Sx.get (B := wr.heap.size) (o := wr) (fx := fx6) (p := ⟨g, o + j * 6 + 4, none⟩) (v := k5) (by subst hfx6; simp)
              have u6_7 := Sx.get (B := wr.heap.size) (o := wr) (fx := fx6) (p := ⟨g, o + j * 6 + 5, none⟩) (v := k6) (by subst hfx6; simp)
              have u6_8 := Sx.get (B := wr.heap.size) (o := wr) (fx := fx6) (p := ⟨g', o' + j * 6, none⟩) (v := (.int .i64 m1)) (by subst hfx6; simp)
              have u6_9 := Sx.get (B := wr.heap.size) (o := wr) (fx := fx6) (p := ⟨g', o' + j * 6 + 1, none⟩) (v := (.int .i64 m2)) (by subst hfx6; simp)
              have u6_10 := Sx.get (B := wr.heap.size) (o := wr) (fx := fx6) (p := ⟨g', o' + j * 6 + 2, none⟩) (v := (.int .i64 m3)) (by subst hfx6; simp)
              have u6_11 := Sx.get (B := wr.heap.size) (o := wr) (fx := fx6) (p := ⟨g', o' + j * 6 + 3, none⟩) (v := (.string m4)) (by subst hfx6; simp)
              have u6_12 := Sx.get (B := wr.heap.size) (o := wr) (fx := fx6) (p := ⟨g', o' + j * 6 + 4, none⟩) (v := m5) (by subst hfx6; simp)
              have u6_13 := Sx.get (B := wr.heap.size) (o := wr) (fx := fx6) (p := ⟨g', o' + j * 6 + 5, none⟩) (v := m6) (by subst hfx6; simp)
              clear hfx6
              have HS6 := Lib.hid hS6
              clear hS6
              clear x0 x1 x2 x3 x4 x5 y0 y1 y2 y3 y4 y5 c0 c1 c2 c3 c4 c5 a0 a1 a2 a3 a4 a5
              refine wp_region_held_drew (S := Sx wr.heap.size wr fx6) (by kernel_rfl) HS6.out.drew (fun hHeld => ?_)
              refine take_put (i := 0) (d := 76) (oi := _) (v := ?vs6x0) rfl rfl (by kernel_rfl) (by kernel_rfl) (by kernel_rfl) (fun _ _ _ h => h) (Or.inl ⟨by rfl, ?ys6x0⟩) hHeld ?rs6x0
              case ys6x0 => (intro w hSw; (try dsimp only at hSw); go_simp; try with_reducible rfl)
              simp only [Act.put, List.setIfInBounds_toArray, List.set_cons_zero, List.set_cons_succ]
              refine take_put (i := 1) (d := 77) (oi := _) (v := ?vs6x1) rfl rfl (by kernel_rfl) (by kernel_rfl) (by kernel_rfl) (fun _ _ _ h => h) (Or.inl ⟨by rfl, ?ys6x1⟩) hHeld ?rs6x1
              case ys6x1 => (intro w hSw; (try dsimp only at hSw); go_simp; try with_reducible rfl)
              simp only [Act.put, List.setIfInBounds_toArray, List.set_cons_zero, List.set_cons_succ]
              refine take_put (i := 2) (d := 78) (oi := _) (v := ?vs6x2) rfl rfl (by kernel_rfl) (by kernel_rfl) (by kernel_rfl) (fun _ _ _ h => h) (Or.inl ⟨by rfl, ?ys6x2⟩) hHeld ?rs6x2
              case ys6x2 => (intro w hSw; (try dsimp only at hSw); go_simp; try with_reducible rfl)
              simp only [Act.put, List.setIfInBounds_toArray, List.set_cons_zero, List.set_cons_succ]
              refine take_put (i := 3) (d := 79) (oi := _) (v := ?vs6x3) rfl rfl (by kernel_rfl) (by kernel_rfl) (by kernel_rfl) (fun _ _ _ h => h) (Or.inl ⟨by rfl, ?ys6x3⟩) hHeld ?rs6x3
              case ys6x3 => (intro w hSw; (try dsimp only at hSw); go_simp; try with_reducible rfl)
              simp only [Act.put, List.setIfInBounds_toArray, List.set_cons_zero, List.set_cons_succ]
              refine take_put (i := 4) (d := 80) (oi := _) (v := ?vs6x4) rfl rfl (by kernel_rfl) (by kernel_rfl) (by kernel_rfl) (fun _ _ _ h => h) (Or.inl ⟨by rfl, ?ys6x4⟩) hHeld ?rs6x4
              case ys6x4 => (intro w hSw; (try dsimp only at hSw); go_simp; try with_reducible rfl)
              simp only [Act.put, List.setIfInBounds_toArray, List.set_cons_zero, List.set_cons_succ]
              refine take_put (i := 5) (d := 81) (oi := _) (v := ?vs6x5) rfl rfl (by kernel_rfl) (by kernel_rfl) (by kernel_rfl) (fun _ _ _ h => h) (Or.inl ⟨by rfl, ?ys6x5⟩) hHeld ?rs6x5
              case ys6x5 => (intro w hSw; (try dsimp only at hSw); go_simp; try with_reducible rfl)
              simp only [Act.put, List.setIfInBounds_toArray, List.set_cons_zero, List.set_cons_succ]
              refine take_put (i := 6) (d := 82) (oi := _) (v := ?vs6x6) rfl rfl (by kernel_rfl) (by kernel_rfl) (by kernel_rfl) (fun _ _ _ h => h) (Or.inl ⟨by rfl, ?ys6x6⟩) hHeld ?rs6x6
              case ys6x6 => (intro w hSw; (try dsimp only at hSw); go_simp; try with_reducible rfl)
              simp only [Act.put, List.setIfInBounds_toArray, List.set_cons_zero, List.set_cons_succ]
              refine take_put (i := 7) (d := 83) (oi := _) (v := ?vs6x7) rfl rfl (by kernel_rfl) (by kernel_rfl) (by kernel_rfl) (fun _ _ _ h => h) (Or.inl ⟨by rfl, ?ys6x7⟩) hHeld ?rs6x7
              case ys6x7 => (intro w hSw; (try dsimp only at hSw); go_simp; try with_reducible rfl)
              simp only [Act.put, List.setIfInBounds_toArray, List.set_cons_zero, List.set_cons_succ]
              refine take_put (i := 8) (d := 84) (oi := _) (v := ?vs6x8) rfl rfl (by kernel_rfl) (by kernel_rfl) (by kernel_rfl) (fun _ _ _ h => h) (Or.inl ⟨by rfl, ?ys6x8⟩) hHeld ?rs6x8
              case ys6x8 => (intro w hSw; (try dsimp only at hSw); go_simp; try with_reducible rfl)
              simp only [Act.put, List.setIfInBounds_toArray, List.set_cons_zero, List.set_cons_succ]
              refine take_put (i := 9) (d := 85) (oi := _) (v := ?vs6x9) rfl rfl (by kernel_rfl) (by kernel_rfl) (by kernel_rfl) (fun _ _ _ h => h) (Or.inl ⟨by rfl, ?ys6x9⟩) hHeld ?rs6x9
              case ys6x9 => (intro w hSw; (try dsimp only at hSw); go_simp; try with_reducible rfl)
              simp only [Act.put, List.setIfInBounds_toArray, List.set_cons_zero, List.set_cons_succ]
              refine take_put (i := 10) (d := 86) (oi := _) (v := ?vs6x10) rfl rfl (by kernel_rfl) (by kernel_rfl) (by kernel_rfl) (fun _ _ _ h => h) (Or.inl ⟨by rfl, ?ys6x10⟩) hHeld ?rs6x10
              case ys6x10 => (intro w hSw; (try dsimp only at hSw); go_simp; try with_reducible rfl)
              simp only [Act.put, List.setIfInBounds_toArray, List.set_cons_zero, List.set_cons_succ]
              refine wpAnyH_ready (rs := [11]) (by kernel_rfl) (by simp) (AllReadyH.cons (o := _) rfl (fun K hK => ?_) AllReadyH.nil)
              go_simp
              refine HCS.out.mono ?_
              rintro e w6 ⟨c, m, rfl, rfl, rfl, b6⟩
              have HB6 := Lib.hid (bT HB0.out.drew b6)
              have HV6 : Hid (Vb w6 w.heap.size #[.int .i64 6, .int .i64 xc, .int .i64 xs, .string xst, .slice (some ⟨g, o, none⟩) l.length cap, .slice ko n3 kcap] ∧ Vb w6 (w.heap.size + 1) #[.int .i64 yk, .int .i64 yc, .int .i64 ys, .string yst, .slice (some ⟨g', o', none⟩) l'.length cap', .slice ko' n4 kcap']) := Lib.hid ⟨(HV0.out.1.drewN 1).on b6, (HV0.out.2.drewN 1).on b6⟩
              (try dsimp only)
              refine hK.out _ _ (Sx.call HS6.out.drew b6 (Nat.le_refl _)) (fun hHeld => ?_)
              clear hK K
              refine take_put (i := 12) (d := 75) (oi := _) (v := ?vs6x12) rfl rfl (by kernel_rfl) (by kernel_rfl) (by kernel_rfl) (fun _ _ _ h => h) (Or.inl ⟨by rfl, ?ys6x12⟩) hHeld ?rs6x12
              case ys6x12 => (intro w hSw; (try dsimp only at hSw); go_simp; try with_reducible rfl)
              simp only [Act.put, List.setIfInBounds_toArray, List.set_cons_zero, List.set_cons_succ]
              refine take_put (i := 13) (d := 88) (oi := _) (v := ?vs6x13) rfl rfl (by kernel_rfl) (by kernel_rfl) (by kernel_rfl) (fun _ _ _ h => h) (Or.inl ⟨by rfl, ?ys6x13⟩) hHeld ?rs6x13
              case ys6x13 => (intro w hSw; (try dsimp only at hSw); go_simp; try with_reducible rfl)
              simp only [Act.put, List.setIfInBounds_toArray, List.set_cons_zero, List.set_cons_succ]
              refine take_put (i := 14) (d := 89) (oi := _) (v := ?vs6x14) rfl rfl (by kernel_rfl) (by kernel_rfl) (by kernel_rfl) (fun _ _ _ h => h) (Or.inl ⟨by rfl, ?ys6x14⟩) hHeld ?rs6x14
              case ys6x14 => (intro w hSw; (try dsimp only at hSw); go_simp; try with_reducible rfl)
              simp only [Act.put, List.setIfInBounds_toArray, List.set_cons_zero, List.set_cons_succ]
              refine take_put (i := 15) (d := 8) (oi := _) (v := ?vs6x15) rfl rfl (by kernel_rfl) (by kernel_rfl) (by kernel_rfl) (fun _ _ _ h => h) (Or.inl ⟨by rfl, ?ys6x15⟩) hHeld ?rs6x15
              case ys6x15 => (intro w hSw; (try dsimp only at hSw); go_simp; try with_reducible rfl)
              simp only [Act.put, List.setIfInBounds_toArray, List.set_cons_zero, List.set_cons_succ]
              refine take_put (i := 16) (d := 2) (oi := _) (v := ?vs6x16) rfl rfl (by kernel_rfl) (by kernel_rfl) (by kernel_rfl) (fun _ _ _ h => h) (Or.inl ⟨by rfl, ?ys6x16⟩) hHeld ?rs6x16
              case ys6x16 => (intro w hSw; (try dsimp only at hSw); go_simp; try with_reducible rfl)
              simp only [Act.put, List.setIfInBounds_toArray, List.set_cons_zero, List.set_cons_succ]
              refine wpAnyH_done (by kernel_rfl) ?_ _
              clear hHeld b6
              go_wp2
              go_roundw
              case rel => exact ⟨j + 1, M', c, m, by go_num, rfl, rfl, hq5, by omega, by omega, by omega, HM', HQ, HV6, HB6⟩
              case measure => simp [intOf]; omega
          · have h1 := HL.out
            have h2 := HL'.out
            rw [cmpL_end (by rw [List.length_drop, List.length_drop]; omega), List.length_drop, List.length_drop, sgn_sub (by omega) (by omega), ← h1, ← h2] at hq
            subst hq
            clear h1 h2 HQ
            by_cases h3 : j < l.length
            · have h4 : ¬ j < l'.length := fun h => hlt ⟨h3, h⟩
              go_wp2_with (go_at_call 55; refine (sign_any _ _ _).mono ?_; rintro e w1 ⟨rfl, rfl⟩)
              go_ret2
              exact ⟨_, _, rfl, rfl, HM.out.symm, HB0.out⟩
            · go_wp2_with (go_at_call 55; refine (sign_any _ _ _).mono ?_; rintro e w1 ⟨rfl, rfl⟩)
              go_ret2
              exact ⟨_, _, rfl, rfl, HM.out.symm, HB0.out⟩
        · have hq := HQ.out
          rw [if_neg h0] at hq
          subst hq
          have h0b : (c == 0) = false := by simpa using h0
          clear HQ
          go_wp2
          go_ret2
          exact ⟨_, _, rfl, rfl, HM.out.symm, HB0.out⟩
    have hq := HR.out
    rw [if_neg k3, if_neg (by omega), if_neg k5, if_neg k6] at hq
    subst hq
    have g3 : (xk == 3) = false := by simpa using k3
    have g4 : (xk == 4) = false := by simpa using k4
    have g5 : (xk == 5) = false := by simpa using k5
    have g6 : (xk == 6) = false := by simpa using k6
    have g7 : (xk == 7) = false := by simpa using k7
    clear HR HKC IH hK
    go_wp2
    go_ret2
    exact ⟨_, _, rfl, rfl, HM.out.symm, HB0.out⟩
end Od
end Go.Proofs.Ytkmfoclhhnhkdaa
