/- order.Compare and the document's Compare, of every two values; what the law's other functions answer. -/
import Derived.Test.YtkmfoclhhnhkdaaOdLook
namespace Go.Proofs.Ytkmfoclhhnhkdaa
open Go.RowKit
namespace Od
open _root_.Go.Proofs.Ytkmfoclhhnhkdaa.Nm _root_.Go.Proofs.Ytkmfoclhhnhkdaa.Jv
/-- which of two values is ahead, and whether there is an answer -/
def cmpR (t u : JV) : Int × Bool := match cmpV t u 4096 with | none => (0, false) | some (c, _) => (c, true)
set_option maxRecDepth 100000 in
set_option maxHeartbeats 4000000 in
theorem compare_any (n m : Nat) (x y : Six) (t u : JV) (w : World) (hx : VT w n x t) (hy : VT w m y u) :
    Calls Try.prog 23 #[x.val, y.val] w fun e w' => e = .returned (.tuple #[.int .i64 (cmpR t u).1, .bool (cmpR t u).2]) ∧ Below w.heap.size w w' := by
  obtain ⟨w0, hw0⟩ : ∃ w0, (w.alloc (Obj.cells #[.int .i64 x.k, .int .i64 x.c, .int .i64 x.s, .string x.st, x.iv, x.kv] 27)).alloc (Obj.cells #[.int .i64 y.k, .int .i64 y.c, .int .i64 y.s, .string y.st, y.iv, y.kv] 27) = w0 := ⟨_, rfl⟩
  have hb0 : Below w.heap.size w w0 := by rw [← hw0]; exact bA2 _ _ _
  have hs0 : w0.heap.size = w.heap.size + 2 := by rw [← hw0]; simp
  have hv1 : Vb w0 w.heap.size #[.int .i64 x.k, .int .i64 x.c, .int .i64 x.s, .string x.st, x.iv, x.kv] := by rw [← hw0]; exact (Vb.new w _).alloc _
  have hv2 : Vb w0 (w.heap.size + 1) #[.int .i64 y.k, .int .i64 y.c, .int .i64 y.s, .string y.st, y.iv, y.kv] := by
    rw [← hw0]
    simpa using Vb.new (w.alloc (Obj.cells #[.int .i64 x.k, .int .i64 x.c, .int .i64 x.s, .string x.st, x.iv, x.kv] 27)) #[.int .i64 y.k, .int .i64 y.c, .int .i64 y.s, .string y.st, y.iv, y.kv]
  have hA : At6 w0 w.heap.size 0 x := hv1.six
  have hB : At6 w0 (w.heap.size + 1) 0 y := hv2.six
  have hk : Wk (w0.alloc (Obj.cells #[.int .i64 4096] 76)) (w.heap.size + 2) 4096 := by
    rw [← hs0]; exact heap_alloc_new w0 _
  obtain ⟨r, hr⟩ : ∃ r, cmpV t u 4096 = r := ⟨_, rfl⟩
  have hcv := values_any n (w.heap.size + 2) w0 (by omega) x y t u w.heap.size 0 (w.heap.size + 1) 0 4096 (w0.alloc (Obj.cells #[.int .i64 4096] 76)) (VT.on hb0 n hx) ⟨m, VT.on hb0 m hy⟩ hA (by omega) hB (by omega) (bA1 _ _) hk (Nat.le_refl _)
  rw [hr] at hcv
  unfold cmpR
  rw [hr]
  have HCV := Lib.hid hcv
  have HB0 := Lib.hid hb0
  have HW0 := Lib.hid hw0
  have HS0 := Lib.hid hs0
  clear hcv hb0 hv1 hv2 hA hB hk hr hx hy hw0 hs0
  unfold Six.val vV
  go_enter Try.func23, Try.ntmps23
  go_upto_region 1 with (fail)
  rw [HW0.out]
  go_upto_region 2 with (fail)
  rw [HS0.out]
  cases r with
  | none =>
    go_wp2_with (go_at_call 41; refine HCV.out.mono ?_; rintro e w6 ⟨c, b, rfl, b6, rfl, rfl⟩; have HB6 := Lib.hid (bT HB0.out b6); clear b6)
    go_ret2
    exact ⟨rfl, HB6.out⟩
  | some p =>
    obtain ⟨c', M⟩ := p
    go_wp2_with (go_at_call 41; refine HCV.out.mono ?_; rintro e w6 ⟨c, b, rfl, b6, rfl, rfl, _, _⟩; have HB6 := Lib.hid (bT HB0.out b6); clear b6)
    go_ret2
    exact ⟨rfl, HB6.out⟩
set_option maxRecDepth 100000 in
set_option maxHeartbeats 4000000 in
theorem rcompare_any (n m : Nat) (x y : Six) (t u : JV) (w : World) (hx : VT w n x t) (hy : VT w m y u) :
    Calls Try.prog 21 #[x.val, y.val] w fun e w' => e = .returned (.tuple #[.int .i64 (cmpR t u).1, .bool (cmpR t u).2]) ∧ Below w.heap.size w w' := by
  have hlk := fun wx (h : Below w.heap.size w wx) => look_any n x y t u 4096 wx (VT.on h n hx) ⟨m, VT.on h m hy⟩ (Nat.le_refl _)
  obtain ⟨r, hr⟩ : ∃ r, cmpV t u 4096 = r := ⟨_, rfl⟩
  have hle : ∀ c M, r = some (c, M) → M ≤ 4096 := fun c M h => cmpV_le t u 4096 c M (hr.trans h)
  rw [hr] at hlk
  unfold cmpR
  rw [hr]
  rw [show (4096 - ((4096 : Nat) : Int)) = 0 by decide] at hlk
  unfold Six.val vV at hlk ⊢
  have HLK := Lib.hid hlk
  have HV : Hid (Vb ((w.alloc (Obj.cells #[.int .i64 x.k, .int .i64 x.c, .int .i64 x.s, .string x.st, x.iv, x.kv] 27)).alloc (Obj.cells #[.int .i64 y.k, .int .i64 y.c, .int .i64 y.s, .string y.st, y.iv, y.kv] 27)) w.heap.size #[.int .i64 x.k, .int .i64 x.c, .int .i64 x.s, .string x.st, x.iv, x.kv] ∧ Vb ((w.alloc (Obj.cells #[.int .i64 x.k, .int .i64 x.c, .int .i64 x.s, .string x.st, x.iv, x.kv] 27)).alloc (Obj.cells #[.int .i64 y.k, .int .i64 y.c, .int .i64 y.s, .string y.st, y.iv, y.kv] 27)) (w.heap.size + 1) #[.int .i64 y.k, .int .i64 y.c, .int .i64 y.s, .string y.st, y.iv, y.kv]) := Lib.hid ⟨(Vb.new w _).alloc _, by simpa using Vb.new (w.alloc (Obj.cells #[.int .i64 x.k, .int .i64 x.c, .int .i64 x.s, .string x.st, x.iv, x.kv] 27)) #[.int .i64 y.k, .int .i64 y.c, .int .i64 y.s, .string y.st, y.iv, y.kv]⟩
  clear hlk hr hx hy
  go_enter Try.func21, Try.ntmps21
  go_upto_region 1 with (fail)
  obtain ⟨x0, x1, x2, x3, x4, x5⟩ := HV.out.1.six
  obtain ⟨y0, y1, y2, y3, y4, y5⟩ := HV.out.2.six
  cases r with
  | none =>
    go_wp2_with (go_at_call 40; refine (HLK.out _ (bA2 _ _ _)).mono ?_; rintro e w6 ⟨c, m, rfl, rfl, rfl, b6⟩; have HB6 := Lib.hid (bT (bA2 _ _ _) b6); clear b6; (try simp only [lkC, lkN]))
    go_ret2
    exact ⟨rfl, HB6.out⟩
  | some p =>
    obtain ⟨c', M⟩ := p
    have hM := hle c' M rfl
    obtain ⟨q, hq⟩ : ∃ q : Int, 4096 - (M : Int) = q := ⟨_, rfl⟩
    have hq1 : q ≤ 4096 := by omega
    have HQ := Lib.hid hq
    clear hle hM hq
    go_wp2_with (go_at_call 40; refine (HLK.out _ (bA2 _ _ _)).mono ?_; rintro e w6 ⟨c, m, rfl, rfl, rfl, b6⟩; have HB6 := Lib.hid (bT (bA2 _ _ _) b6); clear b6; (try simp only [lkN, HQ.out]))
    go_ret2
    exact ⟨by simp, HB6.out⟩
set_option maxRecDepth 100000 in
set_option maxHeartbeats 4000000 in
theorem n07_any (c : Int) (w : World) : Calls Try.prog 34 #[.int .i64 c] w fun e w' => e = .returned (.agg #[.int .i64 3, .int .i64 c, .int .i64 0, .string ⟨#[]⟩, .slice none 0 0, .slice none 0 0]) ∧ Below w.heap.size w w' := by
  go_enter Try.func34, Try.ntmps34
  go_wp2
  simp [bodyPost, results, Try.results34, go_sem]
  exact bA1 _ _
/-- two values in a row -/
theorem row2 {w : World} {k : Nat} {x y : Six} (h : w.heap[k]? = some (.cells #[.int .i64 x.k, .int .i64 x.c, .int .i64 x.s, .string x.st, x.iv, x.kv, .int .i64 y.k, .int .i64 y.c, .int .i64 y.s, .string y.st, y.iv, y.kv] 27 (0, 0))) : Vs w (.slice (some ⟨k, 0, none⟩) 2 2) [x, y] := by
  refine ⟨some ⟨k, 0, none⟩, 2, rfl, by simp, by decide, (fun h => by cases h), fun _ => ⟨k, 0, rfl, (Array.getElem?_eq_some_iff.1 h).1, fun j z hj => ?_⟩⟩
  match j, hj with
  | 0, hj =>
    obtain rfl : x = z := by simpa using hj
    exact ⟨cell_of_row w _ 0 _ _ _ h, cell_of_row w _ 1 _ _ _ h, cell_of_row w _ 2 _ _ _ h, cell_of_row w _ 3 _ _ _ h, cell_of_row w _ 4 _ _ _ h, cell_of_row w _ 5 _ _ _ h⟩
  | 1, hj =>
    obtain rfl : y = z := by simpa using hj
    exact ⟨cell_of_row w _ 6 _ _ _ h, cell_of_row w _ 7 _ _ _ h, cell_of_row w _ 8 _ _ _ h, cell_of_row w _ 9 _ _ _ h, cell_of_row w _ 10 _ _ _ h, cell_of_row w _ 11 _ _ _ h⟩
/-- an array of two whole numbers -/
def jvA (a b : Int) : JV := .mk 5 0 0 ⟨#[]⟩ [jvI a, jvI b] []
theorem VT.A {w : World} {k : Nat} {a b : Int} (ha : -9223372036854775808 ≤ a ∧ a < 9223372036854775808) (hb : -9223372036854775808 ≤ b ∧ b < 9223372036854775808) (h : w.heap[k]? = some (.cells #[.int .i64 3, .int .i64 a, .int .i64 0, .string ⟨#[]⟩, .slice none 0 0, .slice none 0 0, .int .i64 3, .int .i64 b, .int .i64 0, .string ⟨#[]⟩, .slice none 0 0, .slice none 0 0] 27 (0, 0))) : VT w 2 ⟨5, 0, 0, ⟨#[]⟩, .slice (some ⟨k, 0, none⟩) 2 2, .slice none 0 0⟩ (jvA a b) := by
  refine ⟨rfl, rfl, rfl, rfl, Ks.nil0 w, ⟨⟨by show (-9223372036854775808 : Int) ≤ 5; decide, by show (5 : Int) < _; decide⟩, ⟨by show (-9223372036854775808 : Int) ≤ 0; decide, by show (0 : Int) < _; decide⟩, ⟨by show (-9223372036854775808 : Int) ≤ 0; decide, by show (0 : Int) < _; decide⟩, by show (⟨#[]⟩ : ByteArray).size ≤ maxLen; decide, fun x hx => by simp [jvA, JV.keys] at hx⟩, [sixI a, sixI b], row2 h, rfl, fun j y z hy hz => ?_⟩
  match j, hy, hz with
  | 0, hy, hz =>
    obtain rfl : sixI a = y := by simpa using hy
    obtain rfl : jvI a = z := by simpa [jvA, JV.items] using hz
    exact VT.I w a ha
  | 1, hy, hz =>
    obtain rfl : sixI b = y := by simpa using hy
    obtain rfl : jvI b = z := by simpa [jvA, JV.items] using hz
    exact VT.I w b hb
theorem cmp_lives : cmpR (jvA 1 2) (jvA 1 3) = (-1, true) := by
  have h1 : cmpV (jvI 1) (jvI 1) 4095 = some (0, 4094) := by rw [cmpV_is]; rfl
  have h2 : cmpV (jvI 2) (jvI 3) 4094 = some (-1, 4093) := by rw [cmpV_is]; rfl
  have h3 : cmpL [jvI 1, jvI 2] [jvI 1, jvI 3] 4095 = some (-1, 4093) := by
    rw [cmpL, h1]
    show (if (0 : Int) = 0 then cmpL [jvI 2] [jvI 3] 4094 else some (0, 4094)) = _
    rw [if_pos rfl, cmpL, h2]
    rfl
  have h4 : cmpV (jvA 1 2) (jvA 1 3) 4096 = some (-1, 4093) := by
    rw [cmpV_is]
    exact h3
  unfold cmpR
  rw [h4]
set_option maxRecDepth 100000 in
set_option maxHeartbeats 4000000 in
theorem lives07_any (w : World) : Calls Try.prog 16 #[] w fun e w' => e = .returned (.bool true) ∧ Below w.heap.size w w' := by
  have hn1 := fun w => n07_any 1 w
  have hn2 := fun w => n07_any 2 w
  have hn3 := fun w => n07_any 3 w
  have hcp : ∀ (wr : World) (k k' : Nat), wr.heap[k]? = some (.cells #[.int .i64 3, .int .i64 1, .int .i64 0, .string ⟨#[]⟩, .slice none 0 0, .slice none 0 0, .int .i64 3, .int .i64 2, .int .i64 0, .string ⟨#[]⟩, .slice none 0 0, .slice none 0 0] 27 (0, 0)) → wr.heap[k']? = some (.cells #[.int .i64 3, .int .i64 1, .int .i64 0, .string ⟨#[]⟩, .slice none 0 0, .slice none 0 0, .int .i64 3, .int .i64 3, .int .i64 0, .string ⟨#[]⟩, .slice none 0 0, .slice none 0 0] 27 (0, 0)) → Calls Try.prog 23 #[.agg #[.int .i64 5, .int .i64 0, .int .i64 0, .string ⟨#[]⟩, .slice (some ⟨k, 0, none⟩) 2 2, .slice none 0 0], .agg #[.int .i64 5, .int .i64 0, .int .i64 0, .string ⟨#[]⟩, .slice (some ⟨k', 0, none⟩) 2 2, .slice none 0 0]] wr fun e w' => e = .returned (.tuple #[.int .i64 (-1), .bool true]) ∧ Below wr.heap.size wr w' := fun wr k k' h h' => by
    have h1 := compare_any 2 2 _ _ _ _ wr (VT.A (by decide) (by decide) h) (VT.A (by decide) (by decide) h')
    rw [cmp_lives] at h1
    exact h1
  go_enter Try.func16, Try.ntmps16
  go_upto_region 2 with (first
    | (go_at_call 23; have _ := b4; refine (hcp _ w2.heap.size w4.heap.size ((bT (bT b3 b4) (bA1 _ _)).block _ (by simp) |>.trans (heap_alloc_new w2 _)) (heap_alloc_new w4 _)).mono ?_; rintro e w5 ⟨rfl, b5⟩)
    | (go_at_call 34; have _ := b3; refine (hn3 _).mono ?_; rintro e w4 ⟨rfl, b4⟩)
    | (go_at_call 34; have _ := b2; refine (hn1 _).mono ?_; rintro e w3 ⟨rfl, b3⟩)
    | (go_at_call 34; have _ := b1; refine (hn2 _).mono ?_; rintro e w2 ⟨rfl, b2⟩)
    | (go_at_call 34; refine (hn1 _).mono ?_; rintro e w1 ⟨rfl, b1⟩))
  have HB := Lib.hid (bT (bT (bT (bT (bT (bT b1 b2) (bA1 _ _)) b3) b4) (bA1 _ _)) b5)
  clear b1 b2 b3 b4 b5 hn1 hn2 hn3 hcp
  go_wp2
  go_ret
  exact ⟨rfl, HB.out⟩
/-- what the law's light answers -/
def LgP (n : Nat) (w : World) (e : Ending) (w' : World) : Prop := ∃ b, e = .returned (.bool b) ∧ (b = true → n ≤ 12) ∧ Below w.heap.size w w'
set_option maxRecDepth 100000 in
set_option maxHeartbeats 4000000 in
theorem light07_any (v : Value) (l : List Six) (ts : List JV) (w : World) (hv : Vs w v l) (hl : l.length = ts.length) (ht : ∀ (j : Nat) (y : Six) (z : JV), l[j]? = some y → ts[j]? = some z → ∃ n, VT w n y z) :
    Calls Try.prog 15 #[v] w (LgP l.length w) := by
  have hm1 : l.length ≤ maxLen := by obtain ⟨_, _, q1, q2, q3, _⟩ := hv; omega
  unfold maxLen at hm1
  obtain ⟨ao, cap, rfl, hc, h⟩ := hv.form
  have H := Lib.hid h
  have HL := Lib.hid hl
  have HT := Lib.hid ht
  clear h hv hl ht
  go_enter Try.func15, Try.ntmps15
  go_wp2
  go_loopw [3] (fun i wr => ∃ j : Nat, i = .int .i64 (j : Nat) ∧ j ≤ l.length ∧ j ≤ 20 ∧ Hid (Below w.heap.size w wr)) (fun i _ => l.length - (intOf i).toNat)
  case atStart => exact ⟨0, rfl, by omega, by omega, Lib.hid (Below.refl _ _)⟩
  case round =>
    obtain ⟨j, rfl, hj, hj', HB⟩ := hrel
    by_cases hlt : j < l.length ∧ j < 20
    · obtain ⟨h1, h2⟩ := hlt
      obtain ⟨y1, hy1⟩ : ∃ x, l[j]? = some x := ⟨_, List.getElem?_eq_getElem h1⟩
      obtain ⟨t1, ht1⟩ : ∃ x, ts[j]? = some x := ⟨_, List.getElem?_eq_getElem (by have := HL.out; omega)⟩
      obtain ⟨g, o, rfl, hg, hcl⟩ := H.out (by omega)
      have A1 := (hcl j y1 hy1).on hg HB.out
      obtain ⟨n, hvt⟩ := HT.out j y1 t1 hy1 ht1
      have hlg := light_any n 6000 y1 t1 wr (VT.on HB.out n hvt) (by decide)
      obtain ⟨k1, k2, k3, k4, k5, k6⟩ := y1
      obtain ⟨c0, c1, c2, c3, c4, c5⟩ := A1
      simp only at c0 c1 c2 c3 c4 c5
      unfold Six.val vV at hlg
      simp only at hlg
      obtain ⟨b, hb⟩ : ∃ b, lightB 6000 t1 = b := ⟨_, rfl⟩
      rw [hb] at hlg
      have HLG := Lib.hid hlg
      have i1 : (j : Int) < (l.length : Int) := by omega
      have i2 : (j : Int) < 20 := by omega
      clear hcl hy1 ht1 hvt hlg hb H
      cases b
      · go_wp2_with (go_at_call 7; refine HLG.out.mono ?_; rintro e w1 ⟨rfl, b1⟩; have HB1 := Lib.hid (bT HB.out b1); clear b1)
        go_ret
        exact ⟨_, rfl, (fun h => by cases h), HB1.out⟩
      · go_wp2_with (go_at_call 7; refine HLG.out.mono ?_; rintro e w1 ⟨rfl, b1⟩; have HB1 := Lib.hid (bT HB.out b1); clear b1)
        go_roundw
        case rel => exact ⟨j + 1, by go_num, by omega, by omega, HB1⟩
        case measure => simp [intOf]; omega
    · by_cases h1 : j < l.length
      · have h2 : ¬ j < 20 := fun h => hlt ⟨h1, h⟩
        have h3 : ¬ (l.length : Int) ≤ 12 := by omega
        go_wp2
        go_ret
        exact ⟨_, rfl, (fun h => by simp at h <;> omega), HB.out⟩
      · by_cases h3 : l.length ≤ 12
        · have h4 : (l.length : Int) ≤ 12 := by omega
          go_wp2
          go_ret
          exact ⟨_, rfl, fun _ => h3, HB.out⟩
        · have h4 : ¬ (l.length : Int) ≤ 12 := by omega
          go_wp2
          go_ret
          exact ⟨_, rfl, (fun h => by simp at h <;> omega), HB.out⟩
end Od
end Go.Proofs.Ytkmfoclhhnhkdaa
