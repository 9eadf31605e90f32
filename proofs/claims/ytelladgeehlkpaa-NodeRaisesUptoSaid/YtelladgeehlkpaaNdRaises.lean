/- keyholelaw09.NodeRaises answers true, of every node whose texts and rows of keys are not too long. -/
import Derived.Test.YtelladgeehlkpaaNdLives
import Derived.Test.YtelladgeehlkpaaPo
import Derived.Test.YtelladgeehlkpaaPq
import Derived.Test.YtelladgeehlkpaaPf
namespace Go.Proofs.Ytelladgeehlkpaa
open Go.RowKit
namespace Nd
open _root_.Go.Proofs.Ytelladgeehlkpaa.Nm _root_.Go.Proofs.Ytelladgeehlkpaa.Jv
open _root_.Go.Proofs.Ytelladgeehlkpaa.Lv (Ord IsJ inI TabAt SLat sz sr sj sbo sz_pos sz_le sr_ord sr_j join_any joinV bottom_any leq_any leqB)
theorem mod_in (x : Int) (n : Nat) (h1 : 1 ≤ n) (h8 : n ≤ 8) : ∃ a : Nat, a < n ∧ (wrap64 (x.tmod n + n)).tmod n = a := by
  have e1 : -(n : Int) < x.tmod n ∧ x.tmod n < n := by
    have h0 : (0 : Int) < n := by omega
    rcases Int.le_total 0 x with hx | hx
    · rw [Int.tmod_eq_emod_of_nonneg hx]
      have := Int.emod_nonneg x (show (n : Int) ≠ 0 by omega)
      have := Int.emod_lt_of_pos x h0
      omega
    · have e : x.tmod n = -((-x).tmod n) := by rw [Int.neg_tmod]; omega
      rw [e, Int.tmod_eq_emod_of_nonneg (by omega)]
      have := Int.emod_nonneg (-x) (show (n : Int) ≠ 0 by omega)
      have := Int.emod_lt_of_pos (-x) h0
      omega
  rw [IntWalk.wrap64_in _ ⟨by omega, by omega⟩]
  generalize x.tmod n = y at e1
  obtain ⟨k, hk⟩ := Int.eq_ofNat_of_zero_le (show 0 ≤ y + n by omega)
  rw [hk]
  refine ⟨k % n, Nat.mod_lt _ h1, ?_⟩
  rw [Int.tmod_eq_emod_of_nonneg (by omega)]
  rfl
/-- a node with other labels -/
theorem NT.relabel {w : World} {f : Nat} {la de : Int} {kk c s : Int} {st : ByteArray} {iv kv : Value} {t : NV} (h : NT w f ⟨la, de, kk, c, s, st, iv, kv⟩ t) (L D : Nat) (hL : L < 8) (hD : D < 8) : NT w f ⟨(L : Nat), (D : Nat), kk, c, s, st, iv, kv⟩ (.mk (L : Nat) (D : Nat) kk c s st t.items t.keys) := by
  cases f with
  | zero => exact h.elim
  | succ f =>
    obtain ⟨_, _, e1, e2, e3, e4, e5, hB, hBl, l, hl, hll, hlt⟩ := h
    exact ⟨rfl, rfl, rfl, rfl, rfl, rfl, e5, hB, ⟨by simp only; omega, by simp only; omega⟩, l, hl, hll, hlt⟩
set_option maxRecDepth 100000 in
set_option maxHeartbeats 16000000 in
theorem raises_any (k0 x0 x1 : Int) (f : Nat) (x : Eight) (t : NV) (w : World) (hv : NT w f x t) (hsn : SnA 2000000 t) :
    Calls Try.prog 5 #[.int .i64 k0, x.val, .agg #[.int .i64 x0, .int .i64 x1]] w fun e w' => e = .returned (.bool true) ∧ Below w.heap.size w w' := by
  have HOF := Lib.hid (fun wx => of_any k0 wx)
  generalize (k0 % 6).toNat = k at HOF
  have HLI := Lib.hid (fun wx (hx : Below w.heap.size w wx) => light_any f 200 x t wx (NT.on hx f hv) (by decide))
  have HIS := Lib.hid (fun (wx : World) (v : Value) (hx : Below w.heap.size w wx) (ht : TabAt wx v (sz k) (sr k)) (hc : t.cnt ≤ 1000) => is_any k f v x t wx (NT.on hx f hv) ht hsn hc)
  have hv0 := hv
  obtain ⟨f', hf'⟩ : ∃ f', f = f' + 1 := by cases f with | zero => exact hv.elim | succ f => exact ⟨f, rfl⟩
  rw [hf'] at hv0
  obtain ⟨ea, ed, e1, e2, e3, e4, e5, hB, hBl, l, hl, hll, hlt⟩ := hv0
  obtain ⟨la, de, kk, c, s, st, iv, kv⟩ := x
  simp only at ea ed
  obtain ⟨io, ic, hxi, hcc, hcl⟩ := hl.form
  obtain ⟨ko, kc, hxk, _⟩ := e5.form
  simp only at hxi hxk
  subst hxi hxk
  have hmx : l.length ≤ maxLen := by obtain ⟨_, _, q1, q2, q3, _⟩ := hl; omega
  unfold maxLen at hmx
  have HV := Lib.hid hv
  have HLA := Lib.hid ea
  have HDE := Lib.hid ed
  have HLL := Lib.hid hll
  have HLT := Lib.hid hlt
  have HCL := Lib.hid hcl
  clear ea ed e1 e2 e3 e4 e5 hB hBl hl hll hlt hcl hcc hv hsn hf'
  unfold Eight.val nV at HLI HIS ⊢
  simp only at HLI HIS ⊢
  have hN1 : Wb ((w.alloc (Obj.cells #[.int .i64 la, .int .i64 de, .int .i64 kk, .int .i64 c, .int .i64 s, .string st, .slice io l.length ic, .slice ko t.keys.length kc] 27)).alloc (Obj.cells #[.int .i64 x0, .int .i64 x1] 43)) w.heap.size #[.int .i64 la, .int .i64 de, .int .i64 kk, .int .i64 c, .int .i64 s, .string st, .slice io l.length ic, .slice ko t.keys.length kc] := (Wb.new w _).alloc _
  have hX1 : Cb0 ((w.alloc (Obj.cells #[.int .i64 la, .int .i64 de, .int .i64 kk, .int .i64 c, .int .i64 s, .string st, .slice io l.length ic, .slice ko t.keys.length kc] 27)).alloc (Obj.cells #[.int .i64 x0, .int .i64 x1] 43)) (w.heap.size + 1) 43 #[.int .i64 x0, .int .i64 x1] := by
    have := Cb0.new (w.alloc (Obj.cells #[.int .i64 la, .int .i64 de, .int .i64 kk, .int .i64 c, .int .i64 s, .string st, .slice io l.length ic, .slice ko t.keys.length kc] 27)) 43 #[.int .i64 x0, .int .i64 x1]
    simpa using this
  have hB1 : Below w.heap.size w ((w.alloc (Obj.cells #[.int .i64 la, .int .i64 de, .int .i64 kk, .int .i64 c, .int .i64 s, .string st, .slice io l.length ic, .slice ko t.keys.length kc] 27)).alloc (Obj.cells #[.int .i64 x0, .int .i64 x1] 43)) := bT (bA1 _ _) (bA1 _ _)
  obtain ⟨w1, hw1⟩ : ∃ w1, ((w.alloc (Obj.cells #[.int .i64 la, .int .i64 de, .int .i64 kk, .int .i64 c, .int .i64 s, .string st, .slice io l.length ic, .slice ko t.keys.length kc] 27)).alloc (Obj.cells #[.int .i64 x0, .int .i64 x1] 43)) = w1 := ⟨_, rfl⟩
  rw [hw1] at hN1 hX1 hB1
  have HN1 := Lib.hid hN1
  have HX1 := Lib.hid hX1
  have HB1 := Lib.hid hB1
  clear hN1 hX1 hB1
  go_enter Try.func5, Try.ntmps5
  go_upto_region 2 with (go_at_call 8; refine (HOF.out _).mono ?_; rintro e w2 ⟨b2, g, v, rfl, hS, hT⟩; have HS := Lib.hid hS; have HT := Lib.hid hT; have HB2 := Lib.hid (bT HB1.out b2); have HN2 := Lib.hid (HN1.out.on b2); have HX2 := Lib.hid (HX1.out.on b2); clear hS hT b2)
  clear hw1 HN1 HX1 HB1 HOF
  obtain ⟨z0, z1, z2, z3, z4, z5, z6, z7⟩ := HN2.out.eight
  cases hli : lightB 200 t with
  | false =>
    rw [hli] at HLI
    clear hli
    go_wp2_with (first | (go_at_call 6; refine (HLI.out _ HB2.out).mono ?_; rintro e w3 ⟨rfl, b3⟩; have HB3 := Lib.hid (bT HB2.out b3); clear b3) | (go_at_call 7; refine (lives_any _).mono ?_; rintro e w4 ⟨rfl, b4⟩))
    go_ret
    exact ⟨rfl, bT HB3.out b4⟩
  | true =>
  rw [hli] at HLI
  have hct : t.cnt ≤ 1000 := by
    unfold lightB at hli
    simp only [Bool.and_eq_true, decide_eq_true_eq] at hli
    omega
  have HCT := Lib.hid hct
  clear hli hct
  go_wp2_with (first | (go_at_call 6; refine (HLI.out _ HB2.out).mono ?_; rintro e w3 ⟨rfl, b3⟩; have HB3 := Lib.hid (bT HB2.out b3); have HN3 := Lib.hid (HN2.out.on b3); have HX3 := Lib.hid (HX2.out.on b3); have HS3 := Lib.hid (HS.out.go b3); have HT3 := Lib.hid (HT.out.go b3); clear b3 z0 z1 z2 z3 z4 z5 z6 z7; obtain ⟨z0, z1, z2, z3, z4, z5, z6, z7⟩ := HN3.out.eight) | (go_at_call 10; refine (HIS.out _ _ HB3.out HT3.out HCT.out).mono ?_; rintro e w4 ⟨b, rfl, b4, hb⟩; have HB4 := Lib.hid (bT HB3.out b4); have HN4 := Lib.hid (HN3.out.on b4); have HX4 := Lib.hid (HX3.out.on b4); have HS4 := Lib.hid (HS3.out.go b4); have HT4 := Lib.hid (HT3.out.go b4); clear b4; cases b) | (go_at_call 7; refine (lives_any _).mono ?_; rintro e w5 ⟨rfl, b5⟩))
  · go_ret
    exact ⟨rfl, bT HB4.out b5⟩
  obtain ⟨hlb, hri⟩ := hb (by trivial)
  have hl0 := labB_la hlb
  have hdl := dp_lt (sr_j k) t hlb
  have hLD := la_le_dp (sr_ord k) (sr_j k) hlb
  have hde := riB_de hri
  have HLA' := HLA.out
  have HDE' := HDE.out
  rw [hde] at HDE'
  obtain ⟨L, hL⟩ := Int.eq_ofNat_of_zero_le hl0.1
  rw [hL] at HLA' hl0 hLD
  rw [Int.toNat_natCast] at hLD
  have hLs : L < sz k := by omega
  generalize t.dp (sj k) = D at hdl hLD HDE'
  subst HLA' HDE'
  have n1 := sz_pos k
  have n8 := sz_le k
  obtain ⟨g0, cap0, R0, C0, rfl, _⟩ := HT4.out.form
  have q1 : ((sz k : Int) == 0) = false := by rw [beq_eq_false_iff_ne]; omega
  have X0 : w4.cell? ⟨w.heap.size + 1, 0, none⟩ = some (.int .i64 x0) := HX4.out.cell 0
  have X1 : w4.cell? ⟨w.heap.size + 1, 1, none⟩ = some (.int .i64 x1) := HX4.out.cell 1
  clear hb hlb hri hl0 hde hL z0 z1 z2 z3 z4 z5 z6 z7 HLI HIS HB2 HN2 HX2 HS HT HB3 HN3 HX3 HS3 HT3 HLA HDE
  go_quiet (fail)
  obtain ⟨a, ha, eqa⟩ := mod_in x0 (sz k) n1 n8
  obtain ⟨b, hb, eqb⟩ := mod_in x1 (sz k) n1 n8
  rw [eqa, eqb]
  clear eqa eqb X0 X1 q1
  have hb5 : Below w4.heap.size w4 (w4.drewN nq) := Jv.bN (Below.refl _ _) nq
  obtain ⟨w5, hw5⟩ : ∃ w5, w4.drewN nq = w5 := ⟨_, rfl⟩
  rw [hw5] at hb5 ⊢
  clear hw5
  have HB5 := Lib.hid (bT HB4.out hb5)
  have HN5 := Lib.hid (HN4.out.on hb5)
  have HS5 := Lib.hid (HS4.out.go hb5)
  clear hb5 HB4 HN4 HX4 HS4 HT4
  have J := sr_j k
  have O := sr_ord k
  have hL1 := J.lt L a hLs ha
  have hD1 := J.lt D a hdl ha
  have hL2 := J.lt _ b hL1 hb
  have hD2 := J.lt _ b hD1 hb
  have hJ := J.lt a b ha hb
  have eL : sj k L (sj k a b) = sj k (sj k L a) b := (j_assoc O J hLs ha hb).symm
  have eD : sj k D (sj k a b) = sj k (sj k D a) b := (j_assoc O J hdl ha hb).symm
  have eL0 : sj k L (sbo k) = L := j_bot O J hLs (sbo_lt k) (sbo_low k L hLs)
  have eD0 : sj k D (sbo k) = D := j_bot O J hdl (sbo_lt k) (sbo_low k D hdl)
  have haL : sr k a (sj k (sj k L a) b) = true := O.trans _ _ _ ha hL1 hL2 (J.right _ _ hLs ha) (J.left _ _ hL1 hb)
  have hLDf : sr k (sj k (sj k L a) b) (sj k (sj k D a) b) = true := j_mono O J hL1 hD1 hb (j_mono O J hLs hdl ha hLD)
  have HRA := Lib.hid (fun wx (h : Below w5.heap.size w5 wx) => raise_any g k L D a kk c s st io ko l.length ic t.keys.length kc wx (HS5.out.go h) hLs hdl ha)
  have HRB := Lib.hid (fun wx (h : Below w5.heap.size w5 wx) => raise_any g k (sj k L a) (sj k D a) b kk c s st io ko l.length ic t.keys.length kc wx (HS5.out.go h) hL1 hD1 hb)
  have HRC := Lib.hid (fun wx (h : Below w5.heap.size w5 wx) => raise_any g k L D (sj k a b) kk c s st io ko l.length ic t.keys.length kc wx (HS5.out.go h) hLs hdl hJ)
  have HRD := Lib.hid (fun wx (h : Below w5.heap.size w5 wx) => raise_any g k L D (sbo k) kk c s st io ko l.length ic t.keys.length kc wx (HS5.out.go h) hLs hdl (sbo_lt k))
  rw [eL, eD] at HRC
  rw [eL0, eD0] at HRD
  have HJN : Hid (∀ wx, Below w5.heap.size w5 wx → Calls Try.prog 16 #[.pointer (some ⟨g, 0, none⟩), .int .i64 (a : Nat), .int .i64 (b : Nat)] wx fun e w' => e = .returned (.int .i64 (sj k a b : Nat)) ∧ wx = w') := Lib.hid (fun wx h => by
    have := join_any wx g _ _ _ _ _ _ _ (a : Int) (b : Int) (HS5.out.go h) (sz_le k)
    unfold joinV at this
    have h1 : (inI (a : Int) (sz k) && inI (b : Int) (sz k)) = true := by simp [inI]; omega
    rw [if_pos h1] at this
    exact this)
  have HBO : Hid (∀ wx, Below w5.heap.size w5 wx → Calls Try.prog 17 #[.pointer (some ⟨g, 0, none⟩)] wx fun e w' => e = .returned (.int .i64 (sbo k : Nat)) ∧ wx = w') := Lib.hid (fun wx h => bottom_any _ _ _ _ _ _ _ _ _ (HS5.out.go h))
  have hleq : ∀ (p q : Nat) (hp : p < sz k) (hq : q < sz k) (hr : sr k p q = true) (wx : World), Below w5.heap.size w5 wx → Calls Try.prog 18 #[.pointer (some ⟨g, 0, none⟩), .int .i64 (p : Nat), .int .i64 (q : Nat)] wx fun e w' => e = .returned (.bool true) ∧ wx = w' := fun p q hp hq hr wx h => by
    have := leq_any wx g _ _ _ _ _ _ _ (p : Int) (q : Int) (HS5.out.go h) (sz_le k)
    have e : leqB (sz k) (sr k) (p : Int) (q : Int) = true := by
      unfold leqB
      simp [inI, hr]
      omega
    rw [e] at this
    exact this
  have HQ1 := Lib.hid (hleq a (sj k (sj k L a) b) ha hL2 haL)
  have HQ2 := Lib.hid (hleq (sj k (sj k L a) b) (sj k (sj k D a) b) hL2 hD2 hLDf)
  have HSA : Hid (∀ wx, Below w5.heap.size w5 wx → Calls Try.prog 11 #[(.agg #[.int .i64 (sj k (sj k L a) b : Nat), .int .i64 (sj k (sj k D a) b : Nat), .int .i64 kk, .int .i64 c, .int .i64 s, .string st, .slice io l.length ic, .slice ko t.keys.length kc]), (.agg #[.int .i64 (sj k (sj k L a) b : Nat), .int .i64 (sj k (sj k D a) b : Nat), .int .i64 kk, .int .i64 c, .int .i64 s, .string st, .slice io l.length ic, .slice ko t.keys.length kc])] wx fun e w' => e = .returned (.bool true) ∧ Below wx.heap.size wx w') := Lib.hid (fun wx h => by
    have hx := NT.on (HB5.out.trans (h.mono HB5.out.size)) f (HV.out.relabel (sj k (sj k L a) b) (sj k (sj k D a) b) (by omega) (by omega))
    have h2 := nsame_any f f _ _ _ _ wx hx hx rfl (by
      have := HCT.out
      rw [cnt_is] at this ⊢
      show 1 + cntL t.items ≤ 100000
      omega)
    unfold Eight.val nV at h2
    exact h2)
  have HSB : Hid (∀ wx, Below w5.heap.size w5 wx → Calls Try.prog 11 #[(.agg #[.int .i64 (L : Nat), .int .i64 (D : Nat), .int .i64 kk, .int .i64 c, .int .i64 s, .string st, .slice io l.length ic, .slice ko t.keys.length kc]), (.agg #[.int .i64 (L : Nat), .int .i64 (D : Nat), .int .i64 kk, .int .i64 c, .int .i64 s, .string st, .slice io l.length ic, .slice ko t.keys.length kc])] wx fun e w' => e = .returned (.bool true) ∧ Below wx.heap.size wx w') := Lib.hid (fun wx h => by
    have hx := NT.on (HB5.out.trans (h.mono HB5.out.size)) f HV.out
    have h2 := nsame_any f f _ _ _ _ wx hx hx rfl (by have := HCT.out; omega)
    unfold Eight.val nV at h2
    exact h2)
  generalize sj k (sj k L a) b = L2 at *
  generalize sj k (sj k D a) b = D2 at *
  generalize sj k L a = L1 at *
  generalize sj k D a = D1 at *
  generalize sj k a b = jab at *
  generalize sbo k = bot at *
  clear J O hL1 hD1 hL2 hD2 hJ eL eD eL0 eD0 haL hLDf hleq hLs hdl hLD HS5 ha hb
  unfold nV at HRA HRB HRC HRD
  obtain ⟨z0, z1, z2, z3, z4, z5, z6, z7⟩ := HN5.out.eight
  go_upto_region 6 with (first | (go_at_call_of 15 L1; refine (HRB.out _ hb7).mono ?_; rintro e w8 ⟨rfl, hb8⟩) | (go_at_call 15; refine (HRA.out _ (Below.refl _ _)).mono ?_; rintro e w7 ⟨rfl, hb7⟩))
  have hU9 : Wb (w8.alloc (Obj.cells #[.int .i64 (L2 : Nat), .int .i64 (D2 : Nat), .int .i64 kk, .int .i64 c, .int .i64 s, .string st, .slice io l.length ic, .slice ko t.keys.length kc] 27)) w8.heap.size #[.int .i64 (L2 : Nat), .int .i64 (D2 : Nat), .int .i64 kk, .int .i64 c, .int .i64 s, .string st, .slice io l.length ic, .slice ko t.keys.length kc] := Wb.new _ _
  have h59 : Below w5.heap.size w5 (w8.alloc (Obj.cells #[.int .i64 (L2 : Nat), .int .i64 (D2 : Nat), .int .i64 kk, .int .i64 c, .int .i64 s, .string st, .slice io l.length ic, .slice ko t.keys.length kc] 27)) := bT (bT hb7 hb8) (bA1 _ _)
  obtain ⟨w9, hw9⟩ : ∃ w9, w8.alloc (Obj.cells #[.int .i64 (L2 : Nat), .int .i64 (D2 : Nat), .int .i64 kk, .int .i64 c, .int .i64 s, .string st, .slice io l.length ic, .slice ko t.keys.length kc] 27) = w9 := ⟨_, rfl⟩
  rw [hw9] at hU9 h59 ⊢
  clear hw9 z0 z1 z2 z3 z4 z5 z6 z7 hb7 hb8 HRA HRB
  have HU9 := Lib.hid hU9
  have HN9 := Lib.hid (HN5.out.on h59)
  have H59 := Lib.hid h59
  have HB9 := Lib.hid (bT HB5.out h59)
  clear hU9 h59 HN5
  have n0 : ∀ wx, Below w9.heap.size w9 wx → wx.cell? ⟨w.heap.size, 0, none⟩ = some (.int .i64 (L : Nat)) := fun wx h => (h.cell (p := ⟨w.heap.size, 0, none⟩) HN9.out.lt).trans (HN9.out.cell 0)
  have n1 : ∀ wx, Below w9.heap.size w9 wx → wx.cell? ⟨w.heap.size, 1, none⟩ = some (.int .i64 (D : Nat)) := fun wx h => (h.cell (p := ⟨w.heap.size, 1, none⟩) HN9.out.lt).trans (HN9.out.cell 1)
  have n2 : ∀ wx, Below w9.heap.size w9 wx → wx.cell? ⟨w.heap.size, 2, none⟩ = some (.int .i64 kk) := fun wx h => (h.cell (p := ⟨w.heap.size, 2, none⟩) HN9.out.lt).trans (HN9.out.cell 2)
  have n3 : ∀ wx, Below w9.heap.size w9 wx → wx.cell? ⟨w.heap.size, 3, none⟩ = some (.int .i64 c) := fun wx h => (h.cell (p := ⟨w.heap.size, 3, none⟩) HN9.out.lt).trans (HN9.out.cell 3)
  have n4 : ∀ wx, Below w9.heap.size w9 wx → wx.cell? ⟨w.heap.size, 4, none⟩ = some (.int .i64 s) := fun wx h => (h.cell (p := ⟨w.heap.size, 4, none⟩) HN9.out.lt).trans (HN9.out.cell 4)
  have n5 : ∀ wx, Below w9.heap.size w9 wx → wx.cell? ⟨w.heap.size, 5, none⟩ = some (.string st) := fun wx h => (h.cell (p := ⟨w.heap.size, 5, none⟩) HN9.out.lt).trans (HN9.out.cell 5)
  have n6 : ∀ wx, Below w9.heap.size w9 wx → wx.cell? ⟨w.heap.size, 6, none⟩ = some (.slice io l.length ic) := fun wx h => (h.cell (p := ⟨w.heap.size, 6, none⟩) HN9.out.lt).trans (HN9.out.cell 6)
  have n7 : ∀ wx, Below w9.heap.size w9 wx → wx.cell? ⟨w.heap.size, 7, none⟩ = some (.slice ko t.keys.length kc) := fun wx h => (h.cell (p := ⟨w.heap.size, 7, none⟩) HN9.out.lt).trans (HN9.out.cell 7)
  have u0 : ∀ wx, Below w9.heap.size w9 wx → wx.cell? ⟨w8.heap.size, 0, none⟩ = some (.int .i64 (L2 : Nat)) := fun wx h => (h.cell (p := ⟨w8.heap.size, 0, none⟩) HU9.out.lt).trans (HU9.out.cell 0)
  have u1 : ∀ wx, Below w9.heap.size w9 wx → wx.cell? ⟨w8.heap.size, 1, none⟩ = some (.int .i64 (D2 : Nat)) := fun wx h => (h.cell (p := ⟨w8.heap.size, 1, none⟩) HU9.out.lt).trans (HU9.out.cell 1)
  have u2 : ∀ wx, Below w9.heap.size w9 wx → wx.cell? ⟨w8.heap.size, 2, none⟩ = some (.int .i64 kk) := fun wx h => (h.cell (p := ⟨w8.heap.size, 2, none⟩) HU9.out.lt).trans (HU9.out.cell 2)
  have u3 : ∀ wx, Below w9.heap.size w9 wx → wx.cell? ⟨w8.heap.size, 3, none⟩ = some (.int .i64 c) := fun wx h => (h.cell (p := ⟨w8.heap.size, 3, none⟩) HU9.out.lt).trans (HU9.out.cell 3)
  have u4 : ∀ wx, Below w9.heap.size w9 wx → wx.cell? ⟨w8.heap.size, 4, none⟩ = some (.int .i64 s) := fun wx h => (h.cell (p := ⟨w8.heap.size, 4, none⟩) HU9.out.lt).trans (HU9.out.cell 4)
  have u5 : ∀ wx, Below w9.heap.size w9 wx → wx.cell? ⟨w8.heap.size, 5, none⟩ = some (.string st) := fun wx h => (h.cell (p := ⟨w8.heap.size, 5, none⟩) HU9.out.lt).trans (HU9.out.cell 5)
  have u6 : ∀ wx, Below w9.heap.size w9 wx → wx.cell? ⟨w8.heap.size, 6, none⟩ = some (.slice io l.length ic) := fun wx h => (h.cell (p := ⟨w8.heap.size, 6, none⟩) HU9.out.lt).trans (HU9.out.cell 6)
  have u7 : ∀ wx, Below w9.heap.size w9 wx → wx.cell? ⟨w8.heap.size, 7, none⟩ = some (.slice ko t.keys.length kc) := fun wx h => (h.cell (p := ⟨w8.heap.size, 7, none⟩) HU9.out.lt).trans (HU9.out.cell 7)
  refine wp_region_held_drew (S := fun wx => Below w9.heap.size w9 wx) (by kernel_rfl) (Below.refl _ _).drew (fun hHeld => ?_)
  refine take_put (i := 0) (d := 61) (oi := _) (v := ?va0) rfl rfl (by kernel_rfl) (by kernel_rfl) (by kernel_rfl) (fun _ _ _ h => h) (Or.inl ⟨by rfl, ?ya0⟩) hHeld ?ra0
  case ya0 => (intro w hSw; (try dsimp only at hSw); go_simp; try with_reducible rfl)
  simp only [Act.put, List.setIfInBounds_toArray, List.set_cons_zero, List.set_cons_succ]
  refine take_put (i := 1) (d := 62) (oi := _) (v := ?va1) rfl rfl (by kernel_rfl) (by kernel_rfl) (by kernel_rfl) (fun _ _ _ h => h) (Or.inl ⟨by rfl, ?ya1⟩) hHeld ?ra1
  case ya1 => (intro w hSw; (try dsimp only at hSw); go_simp; try with_reducible rfl)
  simp only [Act.put, List.setIfInBounds_toArray, List.set_cons_zero, List.set_cons_succ]
  refine take_put (i := 2) (d := 63) (oi := _) (v := ?va2) rfl rfl (by kernel_rfl) (by kernel_rfl) (by kernel_rfl) (fun _ _ _ h => h) (Or.inl ⟨by rfl, ?ya2⟩) hHeld ?ra2
  case ya2 => (intro w hSw; (try dsimp only at hSw); go_simp; try with_reducible rfl)
  simp only [Act.put, List.setIfInBounds_toArray, List.set_cons_zero, List.set_cons_succ]
  refine take_put (i := 3) (d := 64) (oi := _) (v := ?va3) rfl rfl (by kernel_rfl) (by kernel_rfl) (by kernel_rfl) (fun _ _ _ h => h) (Or.inl ⟨by rfl, ?ya3⟩) hHeld ?ra3
  case ya3 => (intro w hSw; (try dsimp only at hSw); go_simp; try with_reducible rfl)
  simp only [Act.put, List.setIfInBounds_toArray, List.set_cons_zero, List.set_cons_succ]
  refine take_put (i := 4) (d := 65) (oi := _) (v := ?va4) rfl rfl (by kernel_rfl) (by kernel_rfl) (by kernel_rfl) (fun _ _ _ h => h) (Or.inl ⟨by rfl, ?ya4⟩) hHeld ?ra4
  case ya4 => (intro w hSw; (try dsimp only at hSw); go_simp; try with_reducible rfl)
  simp only [Act.put, List.setIfInBounds_toArray, List.set_cons_zero, List.set_cons_succ]
  refine take_put (i := 5) (d := 66) (oi := _) (v := ?va5) rfl rfl (by kernel_rfl) (by kernel_rfl) (by kernel_rfl) (fun _ _ _ h => h) (Or.inl ⟨by rfl, ?ya5⟩) hHeld ?ra5
  case ya5 => (intro w hSw; (try dsimp only at hSw); go_simp; try with_reducible rfl)
  simp only [Act.put, List.setIfInBounds_toArray, List.set_cons_zero, List.set_cons_succ]
  refine wpAnyH_ready (rs := [6]) (by kernel_rfl) (by simp) (AllReadyH.cons (o := _) rfl (fun K hK => ?_) AllReadyH.nil)
  go_simp
  refine (HJN.out _ (bT H59.out hHeld)).mono ?_
  rintro e wj ⟨rfl, rfl⟩
  (try dsimp only)
  refine hK.out _ _ (hHeld) (fun hHeld => ?_)
  clear hK K
  refine wpAnyH_ready (rs := [7]) (by kernel_rfl) (by simp) (AllReadyH.cons (o := _) rfl (fun K hK => ?_) AllReadyH.nil)
  go_simp
  refine (HRC.out _ (bT H59.out hHeld)).mono ?_
  rintro e wc ⟨rfl, bc⟩
  (try dsimp only)
  refine hK.out _ _ (bT hHeld bc) (fun hHeld => ?_)
  clear hK K
  refine wpAnyH_ready (rs := [8]) (by kernel_rfl) (by simp) (AllReadyH.cons (o := _) rfl (fun K hK => ?_) AllReadyH.nil)
  go_simp
  refine (HSA.out _ (bT H59.out hHeld)).mono ?_
  rintro e wd ⟨rfl, bd⟩
  (try dsimp only)
  refine hK.out _ _ (bT hHeld bd) (fun hHeld => ?_)
  clear hK K
  refine take_put (i := 9) (d := 70) (oi := _) (v := ?va9) rfl rfl (by kernel_rfl) (by kernel_rfl) (by kernel_rfl) (fun _ _ _ h => h) (Or.inl ⟨by rfl, ?ya9⟩) hHeld ?ra9
  case ya9 => (intro w hSw; (try dsimp only at hSw); go_simp; try with_reducible rfl)
  simp only [Act.put, List.setIfInBounds_toArray, List.set_cons_zero, List.set_cons_succ]
  refine take_put (i := 10) (d := 71) (oi := _) (v := ?va10) rfl rfl (by kernel_rfl) (by kernel_rfl) (by kernel_rfl) (fun _ _ _ h => h) (Or.inl ⟨by rfl, ?ya10⟩) hHeld ?ra10
  case ya10 => (intro w hSw; (try dsimp only at hSw); go_simp; try with_reducible rfl)
  simp only [Act.put, List.setIfInBounds_toArray, List.set_cons_zero, List.set_cons_succ]
  refine take_put (i := 11) (d := 72) (oi := _) (v := ?va11) rfl rfl (by kernel_rfl) (by kernel_rfl) (by kernel_rfl) (fun _ _ _ h => h) (Or.inl ⟨by rfl, ?ya11⟩) hHeld ?ra11
  case ya11 => (intro w hSw; (try dsimp only at hSw); go_simp; try with_reducible rfl)
  simp only [Act.put, List.setIfInBounds_toArray, List.set_cons_zero, List.set_cons_succ]
  refine take_put (i := 12) (d := 73) (oi := _) (v := ?va12) rfl rfl (by kernel_rfl) (by kernel_rfl) (by kernel_rfl) (fun _ _ _ h => h) (Or.inl ⟨by rfl, ?ya12⟩) hHeld ?ra12
  case ya12 => (intro w hSw; (try dsimp only at hSw); go_simp; try with_reducible rfl)
  simp only [Act.put, List.setIfInBounds_toArray, List.set_cons_zero, List.set_cons_succ]
  refine take_put (i := 13) (d := 74) (oi := _) (v := ?va13) rfl rfl (by kernel_rfl) (by kernel_rfl) (by kernel_rfl) (fun _ _ _ h => h) (Or.inl ⟨by rfl, ?ya13⟩) hHeld ?ra13
  case ya13 => (intro w hSw; (try dsimp only at hSw); go_simp; try with_reducible rfl)
  simp only [Act.put, List.setIfInBounds_toArray, List.set_cons_zero, List.set_cons_succ]
  refine take_put (i := 16) (d := 77) (oi := _) (v := ?va16) rfl rfl (by kernel_rfl) (by kernel_rfl) (by kernel_rfl) (fun _ _ _ h => h) (Or.inl ⟨by rfl, ?ya16⟩) hHeld ?ra16
  case ya16 => (intro w hSw; (try dsimp only at hSw); go_simp; try with_reducible rfl)
  simp only [Act.put, List.setIfInBounds_toArray, List.set_cons_zero, List.set_cons_succ]
  refine wpAnyH_ready (rs := [14]) (by kernel_rfl) (by simp) (AllReadyH.cons (o := _) rfl (fun K hK => ?_) AllReadyH.nil)
  go_simp
  refine (HBO.out _ (bT H59.out hHeld)).mono ?_
  rintro e wj2 ⟨rfl, rfl⟩
  (try dsimp only)
  refine hK.out _ _ (hHeld) (fun hHeld => ?_)
  clear hK K
  refine wpAnyH_ready (rs := [15]) (by kernel_rfl) (by simp) (AllReadyH.cons (o := _) rfl (fun K hK => ?_) AllReadyH.nil)
  go_simp
  refine (HRD.out _ (bT H59.out hHeld)).mono ?_
  rintro e wc2 ⟨rfl, bc2⟩
  (try dsimp only)
  refine hK.out _ _ (bT hHeld bc2) (fun hHeld => ?_)
  clear hK K
  refine wpAnyH_ready (rs := [17]) (by kernel_rfl) (by simp) (AllReadyH.cons (o := _) rfl (fun K hK => ?_) AllReadyH.nil)
  go_simp
  refine (HSB.out _ (bT H59.out hHeld)).mono ?_
  rintro e wd2 ⟨rfl, bd2⟩
  (try dsimp only)
  refine hK.out _ _ (bT hHeld bd2) (fun hHeld => ?_)
  clear hK K
  refine take_put (i := 18) (d := 79) (oi := _) (v := ?va18) rfl rfl (by kernel_rfl) (by kernel_rfl) (by kernel_rfl) (fun _ _ _ h => h) (Or.inl ⟨by rfl, ?ya18⟩) hHeld ?ra18
  case ya18 => (intro w hSw; (try dsimp only at hSw); go_simp; try with_reducible rfl)
  simp only [Act.put, List.setIfInBounds_toArray, List.set_cons_zero, List.set_cons_succ]
  refine take_put (i := 19) (d := 80) (oi := _) (v := ?va19) rfl rfl (by kernel_rfl) (by kernel_rfl) (by kernel_rfl) (fun _ _ _ h => h) (Or.inl ⟨by rfl, ?ya19⟩) hHeld ?ra19
  case ya19 => (intro w hSw; (try dsimp only at hSw); go_simp; try with_reducible rfl)
  simp only [Act.put, List.setIfInBounds_toArray, List.set_cons_zero, List.set_cons_succ]
  refine take_put (i := 20) (d := 81) (oi := _) (v := ?va20) rfl rfl (by kernel_rfl) (by kernel_rfl) (by kernel_rfl) (fun _ _ _ h => h) (Or.inl ⟨by rfl, ?ya20⟩) hHeld ?ra20
  case ya20 => (intro w hSw; (try dsimp only at hSw); go_simp; try with_reducible rfl)
  simp only [Act.put, List.setIfInBounds_toArray, List.set_cons_zero, List.set_cons_succ]
  refine take_put (i := 21) (d := 82) (oi := _) (v := ?va21) rfl rfl (by kernel_rfl) (by kernel_rfl) (by kernel_rfl) (fun _ _ _ h => h) (Or.inl ⟨by rfl, ?ya21⟩) hHeld ?ra21
  case ya21 => (intro w hSw; (try dsimp only at hSw); go_simp; try with_reducible rfl)
  simp only [Act.put, List.setIfInBounds_toArray, List.set_cons_zero, List.set_cons_succ]
  refine take_put (i := 22) (d := 83) (oi := _) (v := ?va22) rfl rfl (by kernel_rfl) (by kernel_rfl) (by kernel_rfl) (fun _ _ _ h => h) (Or.inl ⟨by rfl, ?ya22⟩) hHeld ?ra22
  case ya22 => (intro w hSw; (try dsimp only at hSw); go_simp; try with_reducible rfl)
  simp only [Act.put, List.setIfInBounds_toArray, List.set_cons_zero, List.set_cons_succ]
  refine take_put (i := 23) (d := 84) (oi := _) (v := ?va23) rfl rfl (by kernel_rfl) (by kernel_rfl) (by kernel_rfl) (fun _ _ _ h => h) (Or.inl ⟨by rfl, ?ya23⟩) hHeld ?ra23
  case ya23 => (intro w hSw; (try dsimp only at hSw); go_simp; try with_reducible rfl)
  simp only [Act.put, List.setIfInBounds_toArray, List.set_cons_zero, List.set_cons_succ]
  refine take_put (i := 24) (d := 85) (oi := _) (v := ?va24) rfl rfl (by kernel_rfl) (by kernel_rfl) (by kernel_rfl) (fun _ _ _ h => h) (Or.inl ⟨by rfl, ?ya24⟩) hHeld ?ra24
  case ya24 => (intro w hSw; (try dsimp only at hSw); go_simp; try with_reducible rfl)
  simp only [Act.put, List.setIfInBounds_toArray, List.set_cons_zero, List.set_cons_succ]
  refine take_put (i := 25) (d := 86) (oi := _) (v := ?va25) rfl rfl (by kernel_rfl) (by kernel_rfl) (by kernel_rfl) (fun _ _ _ h => h) (Or.inl ⟨by rfl, ?ya25⟩) hHeld ?ra25
  case ya25 => (intro w hSw; (try dsimp only at hSw); go_simp; try with_reducible rfl)
  simp only [Act.put, List.setIfInBounds_toArray, List.set_cons_zero, List.set_cons_succ]
  refine take_put (i := 26) (d := 87) (oi := _) (v := ?va26) rfl rfl (by kernel_rfl) (by kernel_rfl) (by kernel_rfl) (fun _ _ _ h => h) (Or.inl ⟨by rfl, ?ya26⟩) hHeld ?ra26
  case ya26 => (intro w hSw; (try dsimp only at hSw); go_simp; try with_reducible rfl)
  simp only [Act.put, List.setIfInBounds_toArray, List.set_cons_zero, List.set_cons_succ]
  refine take_put (i := 27) (d := 88) (oi := _) (v := ?va27) rfl rfl (by kernel_rfl) (by kernel_rfl) (by kernel_rfl) (fun _ _ _ h => h) (Or.inl ⟨by rfl, ?ya27⟩) hHeld ?ra27
  case ya27 => (intro w hSw; (try dsimp only at hSw); go_simp; try with_reducible rfl)
  simp only [Act.put, List.setIfInBounds_toArray, List.set_cons_zero, List.set_cons_succ]
  refine take_put (i := 28) (d := 89) (oi := _) (v := ?va28) rfl rfl (by kernel_rfl) (by kernel_rfl) (by kernel_rfl) (fun _ _ _ h => h) (Or.inl ⟨by rfl, ?ya28⟩) hHeld ?ra28
  case ya28 => (intro w hSw; (try dsimp only at hSw); go_simp; try with_reducible rfl)
  simp only [Act.put, List.setIfInBounds_toArray, List.set_cons_zero, List.set_cons_succ]
  refine wpAnyH_done (by kernel_rfl) ?_ _
  have HH := Lib.hid hHeld
  clear hHeld bc bd bc2 bd2 n0 n1 n2 n3 n4 n5 n6 n7 u0 u1 u2 u3 u4 u5 u6 u7
  go_wp2_with fail
  go_loopw [12] (fun i wr => ∃ j : Nat, i = .int .i64 (j : Nat) ∧ j ≤ l.length ∧ Hid (Below w9.heap.size w9 wr)) (fun i _ => l.length - (intOf i).toNat)
  case atStart => exact ⟨0, rfl, by omega, HH⟩
  case round =>
    obtain ⟨j, rfl, hj, HR⟩ := hrel
    have hNr := HN9.out.on HR.out
    have hUr := HU9.out.on HR.out
    obtain ⟨z0, z1, z2, z3, z4, z5, z6, z7⟩ := hNr.eight
    obtain ⟨y0, y1, y2, y3, y4, y5, y6, y7⟩ := hUr.eight
    have HNr := Lib.hid hNr
    have HUr := Lib.hid hUr
    have HBr := Lib.hid (bT HB9.out HR.out)
    clear hNr hUr
    by_cases hlt : j < l.length
    · obtain ⟨y, hy⟩ : ∃ y, l[j]? = some y := ⟨l[j], List.getElem?_eq_getElem hlt⟩
      obtain ⟨zt, hz⟩ : ∃ z, t.items[j]? = some z := ⟨t.items[j]'(by rw [← HLL.out]; exact hlt), List.getElem?_eq_getElem _⟩
      obtain ⟨g1, o1, rfl, hg1, _, hc1⟩ := HCL.out (by omega)
      have A8 := (hc1 j y hy).on hg1 HBr.out
      have hgr : g1 < wr.heap.size := Nat.lt_of_lt_of_le hg1 HBr.out.size
      have hnt := HLT.out j y zt hy hz
      have hcz : zt.cnt ≤ 100000 := by
        have h1 := cntL_le _ zt (List.mem_of_getElem? hz)
        have h2 := HCT.out
        rw [cnt_is] at h2
        omega
      have hsi : ∀ wx, Below wr.heap.size wr wx → Calls Try.prog 11 #[y.val, y.val] wx fun e w' => e = .returned (.bool true) ∧ Below wx.heap.size wx w' := fun wx h => by
        have hx := NT.on (bT HBr.out h) f' hnt
        exact nsame_any f' f' y y zt zt wx hx hx rfl hcz
      obtain ⟨ya, yd, yk, yc, yss, yst, yi, yv⟩ := y
      unfold Eight.val nV at hsi
      simp only at hsi
      have HSI := Lib.hid hsi
      obtain ⟨c0, c1, c2, c3, c4, c5, c6, c7⟩ := A8
      simp only at c0 c1 c2 c3 c4 c5 c6 c7
      have i1 : (j : Int) < (l.length : Int) := by omega
      have d0 : ∀ wx, Below wr.heap.size wr wx → wx.cell? ⟨g1, o1 + j * 8, none⟩ = some (.int .i64 ya) := fun wx hx => (hx.cell (p := ⟨g1, o1 + j * 8, none⟩) hgr).trans c0
      have d1 : ∀ wx, Below wr.heap.size wr wx → wx.cell? ⟨g1, o1 + j * 8 + 1, none⟩ = some (.int .i64 yd) := fun wx hx => (hx.cell (p := ⟨g1, o1 + j * 8 + 1, none⟩) hgr).trans c1
      have d2 : ∀ wx, Below wr.heap.size wr wx → wx.cell? ⟨g1, o1 + j * 8 + 2, none⟩ = some (.int .i64 yk) := fun wx hx => (hx.cell (p := ⟨g1, o1 + j * 8 + 2, none⟩) hgr).trans c2
      have d3 : ∀ wx, Below wr.heap.size wr wx → wx.cell? ⟨g1, o1 + j * 8 + 3, none⟩ = some (.int .i64 yc) := fun wx hx => (hx.cell (p := ⟨g1, o1 + j * 8 + 3, none⟩) hgr).trans c3
      have d4 : ∀ wx, Below wr.heap.size wr wx → wx.cell? ⟨g1, o1 + j * 8 + 4, none⟩ = some (.int .i64 yss) := fun wx hx => (hx.cell (p := ⟨g1, o1 + j * 8 + 4, none⟩) hgr).trans c4
      have d5 : ∀ wx, Below wr.heap.size wr wx → wx.cell? ⟨g1, o1 + j * 8 + 5, none⟩ = some (.string yst) := fun wx hx => (hx.cell (p := ⟨g1, o1 + j * 8 + 5, none⟩) hgr).trans c5
      have d6 : ∀ wx, Below wr.heap.size wr wx → wx.cell? ⟨g1, o1 + j * 8 + 6, none⟩ = some (yi) := fun wx hx => (hx.cell (p := ⟨g1, o1 + j * 8 + 6, none⟩) hgr).trans c6
      have d7 : ∀ wx, Below wr.heap.size wr wx → wx.cell? ⟨g1, o1 + j * 8 + 7, none⟩ = some (yv) := fun wx hx => (hx.cell (p := ⟨g1, o1 + j * 8 + 7, none⟩) hgr).trans c7
      have e1 : ∀ wx, Below wr.heap.size wr wx → wx.cell? ⟨w.heap.size, 6, none⟩ = some (.slice (some ⟨g1, o1, none⟩) l.length ic) := fun wx hx => (hx.cell (p := ⟨w.heap.size, 6, none⟩) HNr.out.lt).trans z6
      have e2 : ∀ wx, Below wr.heap.size wr wx → wx.cell? ⟨w8.heap.size, 6, none⟩ = some (.slice (some ⟨g1, o1, none⟩) l.length ic) := fun wx hx => (hx.cell (p := ⟨w8.heap.size, 6, none⟩) HUr.out.lt).trans y6
      clear hy hz hc1 hnt hcz hsi
      go_wp2_with fail
      clear c0 c1 c2 c3 c4 c5 c6 c7 z0 z1 z2 z3 z4 z5 z6 z7 y0 y1 y2 y3 y4 y5 y6 y7
      refine wp_region_held_drew (S := fun wx => Below wr.heap.size wr wx) (by kernel_rfl) (Below.refl _ _).drew (fun hHeld => ?_)
      refine take_put (i := 0) (d := 97) (oi := _) (v := ?vk0) rfl rfl (by kernel_rfl) (by kernel_rfl) (by kernel_rfl) (fun _ _ _ h => h) (Or.inl ⟨by rfl, ?yk0⟩) hHeld ?rk0
      case yk0 => (intro w hSw; (try dsimp only at hSw); go_simp; try with_reducible rfl)
      simp only [Act.put, List.setIfInBounds_toArray, List.set_cons_zero, List.set_cons_succ]
      refine take_put (i := 1) (d := 98) (oi := _) (v := ?vk1) rfl rfl (by kernel_rfl) (by kernel_rfl) (by kernel_rfl) (fun _ _ _ h => h) (Or.inl ⟨by rfl, ?yk1⟩) hHeld ?rk1
      case yk1 => (intro w hSw; (try dsimp only at hSw); go_simp; try with_reducible rfl)
      simp only [Act.put, List.setIfInBounds_toArray, List.set_cons_zero, List.set_cons_succ]
      refine take_put (i := 2) (d := 99) (oi := _) (v := ?vk2) rfl rfl (by kernel_rfl) (by kernel_rfl) (by kernel_rfl) (fun _ _ _ h => h) (Or.inl ⟨by rfl, ?yk2⟩) hHeld ?rk2
      case yk2 => (intro w hSw; (try dsimp only at hSw); go_simp; try with_reducible rfl)
      simp only [Act.put, List.setIfInBounds_toArray, List.set_cons_zero, List.set_cons_succ]
      refine take_put (i := 3) (d := 100) (oi := _) (v := ?vk3) rfl rfl (by kernel_rfl) (by kernel_rfl) (by kernel_rfl) (fun _ _ _ h => h) (Or.inl ⟨by rfl, ?yk3⟩) hHeld ?rk3
      case yk3 => (intro w hSw; (try dsimp only at hSw); go_simp; try with_reducible rfl)
      simp only [Act.put, List.setIfInBounds_toArray, List.set_cons_zero, List.set_cons_succ]
      refine take_put (i := 4) (d := 101) (oi := _) (v := ?vk4) rfl rfl (by kernel_rfl) (by kernel_rfl) (by kernel_rfl) (fun _ _ _ h => h) (Or.inl ⟨by rfl, ?yk4⟩) hHeld ?rk4
      case yk4 => (intro w hSw; (try dsimp only at hSw); go_simp; try with_reducible rfl)
      simp only [Act.put, List.setIfInBounds_toArray, List.set_cons_zero, List.set_cons_succ]
      refine take_put (i := 5) (d := 102) (oi := _) (v := ?vk5) rfl rfl (by kernel_rfl) (by kernel_rfl) (by kernel_rfl) (fun _ _ _ h => h) (Or.inl ⟨by rfl, ?yk5⟩) hHeld ?rk5
      case yk5 => (intro w hSw; (try dsimp only at hSw); go_simp; try with_reducible rfl)
      simp only [Act.put, List.setIfInBounds_toArray, List.set_cons_zero, List.set_cons_succ]
      refine take_put (i := 6) (d := 103) (oi := _) (v := ?vk6) rfl rfl (by kernel_rfl) (by kernel_rfl) (by kernel_rfl) (fun _ _ _ h => h) (Or.inl ⟨by rfl, ?yk6⟩) hHeld ?rk6
      case yk6 => (intro w hSw; (try dsimp only at hSw); go_simp; try with_reducible rfl)
      simp only [Act.put, List.setIfInBounds_toArray, List.set_cons_zero, List.set_cons_succ]
      refine take_put (i := 7) (d := 104) (oi := _) (v := ?vk7) rfl rfl (by kernel_rfl) (by kernel_rfl) (by kernel_rfl) (fun _ _ _ h => h) (Or.inl ⟨by rfl, ?yk7⟩) hHeld ?rk7
      case yk7 => (intro w hSw; (try dsimp only at hSw); go_simp; try with_reducible rfl)
      simp only [Act.put, List.setIfInBounds_toArray, List.set_cons_zero, List.set_cons_succ]
      refine take_put (i := 8) (d := 105) (oi := _) (v := ?vk8) rfl rfl (by kernel_rfl) (by kernel_rfl) (by kernel_rfl) (fun _ _ _ h => h) (Or.inl ⟨by rfl, ?yk8⟩) hHeld ?rk8
      case yk8 => (intro w hSw; (try dsimp only at hSw); go_simp; try with_reducible rfl)
      simp only [Act.put, List.setIfInBounds_toArray, List.set_cons_zero, List.set_cons_succ]
      refine take_put (i := 9) (d := 106) (oi := _) (v := ?vk9) rfl rfl (by kernel_rfl) (by kernel_rfl) (by kernel_rfl) (fun _ _ _ h => h) (Or.inl ⟨by rfl, ?yk9⟩) hHeld ?rk9
      case yk9 => (intro w hSw; (try dsimp only at hSw); go_simp; try with_reducible rfl)
      simp only [Act.put, List.setIfInBounds_toArray, List.set_cons_zero, List.set_cons_succ]
      refine wpAnyH_ready (rs := [10]) (by kernel_rfl) (by simp) (AllReadyH.cons (o := _) rfl (fun K hK => ?_) AllReadyH.nil)
      go_simp
      refine (HSI.out _ hHeld).mono ?_
      rintro e w12 ⟨rfl, b12⟩
      (try dsimp only)
      refine hK.out _ _ (bT hHeld b12) (fun hHeld => ?_)
      clear hK K
      refine take_put (i := 11) (d := 108) (oi := _) (v := ?vk11) rfl rfl (by kernel_rfl) (by kernel_rfl) (by kernel_rfl) (fun _ _ _ h => h) (Or.inl ⟨by rfl, ?yk11⟩) hHeld ?rk11
      case yk11 => (intro w hSw; (try dsimp only at hSw); go_simp; try with_reducible rfl)
      simp only [Act.put, List.setIfInBounds_toArray, List.set_cons_zero, List.set_cons_succ]
      refine wpAnyH_done (by kernel_rfl) ?_ _
      have HK := Lib.hid (HR.out.trans (hHeld.mono HR.out.size))
      clear hHeld b12 d0 d1 d2 d3 d4 d5 d6 d7 e1 e2
      go_wp2_with fail
      go_roundw
      case rel => exact ⟨j + 1, by go_num, by omega, HK⟩
      case measure => simp [intOf]; omega
    · go_wp2_with (first | (go_at_call_of 18 a; refine (HQ1.out _ (bT H59.out HR.out)).mono ?_; rintro e w10 ⟨rfl, rfl⟩) | (go_at_call 18; refine (HQ2.out _ (bT H59.out HR.out)).mono ?_; rintro e w10 ⟨rfl, rfl⟩) | (go_at_call 7; refine (lives_any _).mono ?_; rintro e w11 ⟨rfl, b11⟩))
      go_ret
      exact ⟨rfl, bT HBr.out b11⟩
end Nd
end Go.Proofs.Ytelladgeehlkpaa
