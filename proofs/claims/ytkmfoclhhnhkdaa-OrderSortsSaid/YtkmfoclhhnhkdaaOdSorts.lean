/- OrderSorts answers true for every list of values and every value. -/
import Derived.Test.YtkmfoclhhnhkdaaOdRSU
namespace Go.Proofs.Ytkmfoclhhnhkdaa
open Go.RowKit
namespace Od
open _root_.Go.Proofs.Ytkmfoclhhnhkdaa.Nm _root_.Go.Proofs.Ytkmfoclhhnhkdaa.Jv
set_option maxRecDepth 100000 in
set_option maxHeartbeats 4000000 in
theorem samel_any (v v' : Value) (l l' : List Six) (ts : List JV) (w : World) (hv : Vs w v l) (hv' : Vs w v' l') (hl : l.length = ts.length) (hl' : l'.length = ts.length) (ht : ∀ (j : Nat) (y : Six) (z : JV), l[j]? = some y → ts[j]? = some z → ∃ n, VT w n y z) (ht2 : ∀ (j : Nat) (y : Six) (z : JV), l'[j]? = some y → ts[j]? = some z → ∃ n, VT w n y z) :
    Calls Try.prog 20 #[v, v'] w fun e w' => e = .returned (.bool true) ∧ Below w.heap.size w w' := by
  have hm1 : l.length ≤ maxLen := by obtain ⟨_, _, q1, q2, q3, _⟩ := hv; omega
  unfold maxLen at hm1
  obtain ⟨ao, cap, rfl, hc, h⟩ := hv.form
  obtain ⟨ao', cap', rfl, hc', h'⟩ := hv'.form
  have H := Lib.hid h
  have H' := Lib.hid h'
  have HL := Lib.hid hl
  have HT := Lib.hid ht
  have HT2 := Lib.hid ht2
  have q1 : l.length ≤ l'.length := by omega
  have q2 : l'.length ≤ l.length := by omega
  have q3 : ((l.length : Int) != (l'.length : Int)) = false := by simp; omega
  have q4 : ((l.length : Int) == (l'.length : Int)) = true := by simp; omega
  clear h h' hl hl' ht ht2 hv hv'
  go_enter Try.func20, Try.ntmps20
  go_wp2
  go_loopw [5] (fun iv wr => ∃ j : Nat, iv = .int .i64 (j : Nat) ∧ j ≤ l.length ∧ Hid (Below w.heap.size w wr)) (fun iv _ => l.length - (intOf iv).toNat)
  case atStart => exact ⟨0, rfl, by omega, Lib.hid (Below.refl _ _)⟩
  case round =>
    obtain ⟨j, rfl, hj, HB⟩ := hrel
    by_cases hlt : j < l.length
    · obtain ⟨y1, hy1⟩ : ∃ x, l[j]? = some x := ⟨_, List.getElem?_eq_getElem hlt⟩
      obtain ⟨y2, hy2⟩ : ∃ x, l'[j]? = some x := ⟨_, List.getElem?_eq_getElem (by omega)⟩
      obtain ⟨t1, ht1⟩ : ∃ x, ts[j]? = some x := ⟨_, List.getElem?_eq_getElem (by have := HL.out; omega)⟩
      obtain ⟨g, o, rfl, hg, hcl⟩ := H.out (by omega)
      obtain ⟨g', o', rfl, hg', hcl'⟩ := H'.out (by omega)
      have A1 := (hcl j y1 hy1).on hg HB.out
      have A2 := (hcl' j y2 hy2).on hg' HB.out
      obtain ⟨n, hvt⟩ := HT.out j y1 t1 hy1 ht1
      obtain ⟨m, hvt2⟩ := HT2.out j y2 t1 hy2 ht1
      have hsm := rsame_any n m y1 y2 t1 t1 wr.drew (VT.on HB.out.drew n hvt) (VT.on HB.out.drew m hvt2)
      rw [sameB_refl] at hsm
      obtain ⟨k1, k2, k3, k4, k5, k6⟩ := y1
      obtain ⟨m1, m2, m3, m4, m5, m6⟩ := y2
      obtain ⟨c0, c1, c2, c3, c4, c5⟩ := A1
      obtain ⟨a0, a1, a2, a3, a4, a5⟩ := A2
      unfold Six.val vV at hsm
      simp only at hsm c0 c1 c2 c3 c4 c5 a0 a1 a2 a3 a4 a5
      have HSM := Lib.hid hsm
      have i1 : (j : Int) < (l.length : Int) := by omega
      have i2 : (j : Int) < (l'.length : Int) := by omega
      clear hcl hcl' hy1 hy2 ht1 hvt hvt2 H H' hsm
      go_wp2
      go_still_tail 8, (by kernel_rfl)
      change wpList _ _ _ _ _ wr.drew
      go_wp2_with (go_at_call 12; refine HSM.out.mono ?_; rintro e w1 ⟨rfl, b1⟩; have HB1 := Lib.hid (bT HB.out.drew b1); clear b1)
      go_roundw
      case rel => exact ⟨j + 1, by go_num, by omega, HB1⟩
      case measure => simp [intOf]; omega
    · go_wp2
      go_ret
      exact ⟨rfl, HB.out⟩
/-- the place of a value among others -/
def fdF (u : JV) : List JV → Nat → Int × Bool
  | [], _ => (-1, true)
  | t :: ts, i => if (cmpR t u).2 = false then (0, false) else if (cmpR t u).1 = 0 then ((i : Int), true) else fdF u ts (i + 1)
theorem fdF_at {u t : JV} {ts : List JV} {i : Nat} (h : ts[i]? = some t) : fdF u (ts.drop i) i = if (cmpR t u).2 = false then (0, false) else if (cmpR t u).1 = 0 then ((i : Int), true) else fdF u (ts.drop (i + 1)) (i + 1) := by
  obtain ⟨h1, rfl⟩ := List.getElem?_eq_some_iff.1 h
  rw [List.drop_eq_getElem_cons h1]
  rfl
theorem fdF_end {u : JV} {ts : List JV} {i : Nat} (h : ts.length ≤ i) : fdF u (ts.drop i) i = (-1, true) := by
  rw [List.drop_eq_nil_of_le h]
  rfl
/-- what Find answers -/
def FnP (w : World) (r : Int × Bool) (e : Ending) (w' : World) : Prop := e = .returned (.tuple #[.int .i64 r.1, .bool r.2]) ∧ Below w.heap.size w w'
set_option maxRecDepth 100000 in
set_option maxHeartbeats 8000000 in
theorem find_any (v : Value) (l : List Six) (ts : List JV) (x : Six) (u : JV) (m : Nat) (w : World) (hv : Vs w v l) (hl : l.length = ts.length) (ht : ∀ (j : Nat) (y : Six) (z : JV), l[j]? = some y → ts[j]? = some z → ∃ n, VT w n y z) (hx : VT w m x u) :
    Calls Try.prog 22 #[v, x.val] w (FnP w (fdF u ts 0)) := by
  have hm1 : l.length ≤ maxLen := by obtain ⟨_, _, q1, q2, q3, _⟩ := hv; omega
  unfold maxLen at hm1
  obtain ⟨ao, cap, rfl, hc, h⟩ := hv.form
  have H := Lib.hid h
  have HL := Lib.hid hl
  have HT := Lib.hid ht
  have HX := Lib.hid hx
  obtain ⟨R, hR⟩ : ∃ R, fdF u ts 0 = R := ⟨_, rfl⟩
  rw [hR]
  have HR0 : Hid (fdF u (ts.drop 0) 0 = R) := Lib.hid hR
  clear h hl ht hx hv hR
  unfold Six.val vV
  go_enter Try.func22, Try.ntmps22
  go_wp2
  go_loopw [11] (fun iv wr => ∃ j : Nat, iv = .int .i64 (j : Nat) ∧ j ≤ l.length ∧ Hid (fdF u (ts.drop j) j = R) ∧ Hid (Vb wr w.heap.size #[.int .i64 x.k, .int .i64 x.c, .int .i64 x.s, .string x.st, x.iv, x.kv]) ∧ Hid (Below w.heap.size w wr)) (fun iv _ => l.length - (intOf iv).toNat)
  case atStart => exact ⟨0, rfl, by omega, HR0, Lib.hid (Vb.new w _), Lib.hid (bA1 _ _)⟩
  case round =>
    clear HR0
    obtain ⟨j, rfl, hj, HR, HV, HB⟩ := hrel
    have hvb : ∀ wx, Below wr.heap.size wr wx → Vb wx w.heap.size #[.int .i64 x.k, .int .i64 x.c, .int .i64 x.s, .string x.st, x.iv, x.kv] := fun wx h => HV.out.on h
    by_cases hlt : j < l.length
    · obtain ⟨y1, hy1⟩ : ∃ x, l[j]? = some x := ⟨_, List.getElem?_eq_getElem hlt⟩
      obtain ⟨t1, ht1⟩ : ∃ x, ts[j]? = some x := ⟨_, List.getElem?_eq_getElem (by have := HL.out; omega)⟩
      obtain ⟨g, o, rfl, hg, hcl⟩ := H.out (by omega)
      have hat1 : ∀ wx, Below wr.heap.size wr wx → At6 wx g (o + j * 6) y1 := fun wx h => (hcl j y1 hy1).on hg (bT HB.out h)
      obtain ⟨n, hvt⟩ := HT.out j y1 t1 hy1 ht1
      have hcm := fun wx (h : Below wr.heap.size wr wx) => compare_any n m y1 x t1 u wx (VT.on (bT HB.out h) n hvt) (VT.on (bT HB.out h) m HX.out)
      have hfd := fdF_at (u := u) ht1
      obtain ⟨c, hc0⟩ : ∃ c, (cmpR t1 u).1 = c := ⟨_, rfl⟩
      obtain ⟨b, hb0⟩ : ∃ b, (cmpR t1 u).2 = b := ⟨_, rfl⟩
      rw [hc0, hb0] at hcm hfd
      rw [HR.out] at hfd
      clear hcl hy1 ht1 hvt hc0 hb0 HR
      obtain ⟨k1, k2, k3, k4, k5, k6⟩ := y1
      unfold Six.val vV at hcm
      simp only at hcm
      have HCM := Lib.hid hcm
      have HFD := Lib.hid hfd
      have hat2 := fun wx (h : Below wr.heap.size wr wx) => (hvb wx h).six
      clear hcm hfd hvb
      have a0 := fun wx h => (hat1 wx h).1
      have a1 := fun wx h => (hat1 wx h).2.1
      have a2 := fun wx h => (hat1 wx h).2.2.1
      have a3 := fun wx h => (hat1 wx h).2.2.2.1
      have a4 := fun wx h => (hat1 wx h).2.2.2.2.1
      have a5 := fun wx h => (hat1 wx h).2.2.2.2.2
      try simp only at a0 a1 a2 a3 a4 a5
      have e0 := fun wx h => (hat2 wx h).1
      have e1 := fun wx h => (hat2 wx h).2.1
      have e2 := fun wx h => (hat2 wx h).2.2.1
      have e3 := fun wx h => (hat2 wx h).2.2.2.1
      have e4 := fun wx h => (hat2 wx h).2.2.2.2.1
      have e5 := fun wx h => (hat2 wx h).2.2.2.2.2
      try simp only at e0 e1 e2 e3 e4 e5
      clear hat1 hat2
      have i1 : (j : Int) < (l.length : Int) := by omega
      go_wp2
      refine wp_region_held_drew (S := Below wr.heap.size wr) (by kernel_rfl) (Below.refl wr.heap.size wr).drew (fun hHeld => ?_)
      refine take_put (i := 0) (d := 15) (oi := _) (v := ?vf0) rfl rfl (by kernel_rfl) (by kernel_rfl) (by kernel_rfl) (fun _ _ _ h => h) (Or.inl ⟨by rfl, ?yf0⟩) hHeld ?rf0
      case yf0 => (intro w hSw; (try dsimp only at hSw); go_simp; try with_reducible rfl)
      simp only [Act.put, List.setIfInBounds_toArray, List.set_cons_zero, List.set_cons_succ]
      refine take_put (i := 1) (d := 16) (oi := _) (v := ?vf1) rfl rfl (by kernel_rfl) (by kernel_rfl) (by kernel_rfl) (fun _ _ _ h => h) (Or.inl ⟨by rfl, ?yf1⟩) hHeld ?rf1
      case yf1 => (intro w hSw; (try dsimp only at hSw); go_simp; try with_reducible rfl)
      simp only [Act.put, List.setIfInBounds_toArray, List.set_cons_zero, List.set_cons_succ]
      refine take_put (i := 2) (d := 17) (oi := _) (v := ?vf2) rfl rfl (by kernel_rfl) (by kernel_rfl) (by kernel_rfl) (fun _ _ _ h => h) (Or.inl ⟨by rfl, ?yf2⟩) hHeld ?rf2
      case yf2 => (intro w hSw; (try dsimp only at hSw); go_simp; try with_reducible rfl)
      simp only [Act.put, List.setIfInBounds_toArray, List.set_cons_zero, List.set_cons_succ]
      refine take_put (i := 3) (d := 18) (oi := _) (v := ?vf3) rfl rfl (by kernel_rfl) (by kernel_rfl) (by kernel_rfl) (fun _ _ _ h => h) (Or.inl ⟨by rfl, ?yf3⟩) hHeld ?rf3
      case yf3 => (intro w hSw; (try dsimp only at hSw); go_simp; try with_reducible rfl)
      simp only [Act.put, List.setIfInBounds_toArray, List.set_cons_zero, List.set_cons_succ]
      refine take_put (i := 4) (d := 19) (oi := _) (v := ?vf4) rfl rfl (by kernel_rfl) (by kernel_rfl) (by kernel_rfl) (fun _ _ _ h => h) (Or.inl ⟨by rfl, ?yf4⟩) hHeld ?rf4
      case yf4 => (intro w hSw; (try dsimp only at hSw); go_simp; try with_reducible rfl)
      simp only [Act.put, List.setIfInBounds_toArray, List.set_cons_zero, List.set_cons_succ]
      refine wpAnyH_ready (rs := [5]) (by kernel_rfl) (by simp) (AllReadyH.cons (o := _) rfl (fun K hK => ?_) AllReadyH.nil)
      go_simp
      refine (HCM.out _ hHeld).mono ?_
      rintro e w6 ⟨rfl, b6⟩
      (try dsimp only)
      refine hK.out _ _ (bT hHeld b6) (fun hHeld => ?_)
      clear hK K
      refine take_put (i := 6) (d := 14) (oi := _) (v := ?vf6) rfl rfl (by kernel_rfl) (by kernel_rfl) (by kernel_rfl) (fun _ _ _ h => h) (Or.inl ⟨by rfl, ?yf6⟩) hHeld ?rf6
      case yf6 => (intro w hSw; (try dsimp only at hSw); go_simp; try with_reducible rfl)
      simp only [Act.put, List.setIfInBounds_toArray, List.set_cons_zero, List.set_cons_succ]
      refine take_put (i := 7) (d := 21) (oi := _) (v := ?vf7) rfl rfl (by kernel_rfl) (by kernel_rfl) (by kernel_rfl) (fun _ _ _ h => h) (Or.inl ⟨by rfl, ?yf7⟩) hHeld ?rf7
      case yf7 => (intro w hSw; (try dsimp only at hSw); go_simp; try with_reducible rfl)
      simp only [Act.put, List.setIfInBounds_toArray, List.set_cons_zero, List.set_cons_succ]
      refine take_put (i := 8) (d := 22) (oi := _) (v := ?vf8) rfl rfl (by kernel_rfl) (by kernel_rfl) (by kernel_rfl) (fun _ _ _ h => h) (Or.inl ⟨by rfl, ?yf8⟩) hHeld ?rf8
      case yf8 => (intro w hSw; (try dsimp only at hSw); go_simp; try with_reducible rfl)
      simp only [Act.put, List.setIfInBounds_toArray, List.set_cons_zero, List.set_cons_succ]
      refine take_put (i := 9) (d := 7) (oi := _) (v := ?vf9) rfl rfl (by kernel_rfl) (by kernel_rfl) (by kernel_rfl) (fun _ _ _ h => h) (Or.inl ⟨by rfl, ?yf9⟩) hHeld ?rf9
      case yf9 => (intro w hSw; (try dsimp only at hSw); go_simp; try with_reducible rfl)
      simp only [Act.put, List.setIfInBounds_toArray, List.set_cons_zero, List.set_cons_succ]
      refine take_put (i := 10) (d := 8) (oi := _) (v := ?vf10) rfl rfl (by kernel_rfl) (by kernel_rfl) (by kernel_rfl) (fun _ _ _ h => h) (Or.inl ⟨by rfl, ?yf10⟩) hHeld ?rf10
      case yf10 => (intro w hSw; (try dsimp only at hSw); go_simp; try with_reducible rfl)
      simp only [Act.put, List.setIfInBounds_toArray, List.set_cons_zero, List.set_cons_succ]
      refine wpAnyH_done (by kernel_rfl) ?_ _
      have HB6 := Lib.hid (bT HB.out hHeld)
      have HV6 := Lib.hid (HV.out.on hHeld)
      clear hHeld b6 HCM a0 a1 a2 a3 a4 a5 e0 e1 e2 e3 e4 e5 HB HV
      cases b with
      | false =>
        have hr : R = (0, false) := HFD.out
        subst hr
        clear HFD
        go_wp2
        go_ret2
        exact ⟨rfl, HB6.out⟩
      | true =>
        by_cases hcz : c = 0
        · subst hcz
          have hr : R = ((j : Int), true) := HFD.out
          subst hr
          clear HFD
          go_wp2
          go_ret2
          exact ⟨rfl, HB6.out⟩
        · have hce : (c == 0) = false := by rw [beq_eq_false_iff_ne]; exact hcz
          have HR1 : Hid (fdF u (ts.drop (j + 1)) (j + 1) = R) := Lib.hid (by have h1 := HFD.out; rw [if_neg (by decide), if_neg hcz] at h1; exact h1.symm)
          clear HFD
          go_wp2
          go_roundw
          case rel => exact ⟨j + 1, by go_num, by omega, HR1, HV6, HB6⟩
          case measure => simp [intOf]; omega
    · have hr : R = (-1, true) := by rw [← HR.out]; exact fdF_end (by have := HL.out; omega)
      subst hr
      clear HR
      have i1 : ¬ (j : Int) < (l.length : Int) := by omega
      go_wp2
      go_ret2
      exact ⟨rfl, HB.out⟩
/-- what the three sorts answer: the same list, or none -/
theorem two_ok {P : Prop} {a b : Bool} (h1 : a = false → ¬ P) (h2 : a = true → P) (h3 : b = false → ¬ P) (h4 : b = true → P) : a = b := by
  cases a <;> cases b
  · rfl
  · exact absurd (h4 rfl) (h1 rfl)
  · exact absurd (h2 rfl) (h3 rfl)
  · rfl
theorem sr_pw {ts : List JV} (h1 : Ch (refS ts)) (h2 : (refS ts).Perm ts) : ts.Pairwise Ans := (ans_perm h2).1 (Ch.ans h1)
theorem pk_ts {S : List JV} {l : List Six} {w : World} (hl : l.length = S.length) (ht : ∀ (j : Nat) (y : Six) (z : JV), l[j]? = some y → S[j]? = some z → ∃ n, VT w n y z) :
    (pk S l l.length).length = (pk S S S.length).length ∧ ∀ (j : Nat) (y : Six) (z : JV), (pk S l l.length)[j]? = some y → (pk S S S.length)[j]? = some z → ∃ n, VT w n y z := by
  refine ⟨by rw [pk_len (Nat.le_refl _), pk_len (Nat.le_refl _), hl], fun j y z hy hz => ?_⟩
  rw [pk_at (Nat.le_refl _), hl] at hy
  rw [pk_at (Nat.le_refl _)] at hz
  obtain ⟨i, hi, hy⟩ := Option.bind_eq_some_iff.1 hy
  obtain ⟨i', hi', hz⟩ := Option.bind_eq_some_iff.1 hz
  rw [hi] at hi'
  obtain rfl := Option.some.inj hi'
  exact ht i y z hy hz

theorem pk_mem {S : List JV} {l : List Six} {n : Nat} {y : Six} (h : y ∈ pk S l n) : y ∈ l := by
  obtain ⟨i, _, hi⟩ := List.mem_filterMap.1 h
  exact List.mem_of_getElem? hi
theorem one_of {w : World} {S : List JV} {l : List Six} (hl : l.length = S.length) (ht : ∀ (j : Nat) (y : Six) (z : JV), l[j]? = some y → S[j]? = some z → ∃ n, VT w n y z) {y : Six} (hy : y ∈ l) : y.one := by
  obtain ⟨j, hj⟩ := List.getElem?_of_mem hy
  have h1 := (List.getElem?_eq_some_iff.1 hj).1
  obtain ⟨n, h⟩ := ht j y _ hj (List.getElem?_eq_getElem (by omega))
  exact h.one
/-- a row of one value -/
theorem row1 {w : World} {k : Nat} {x : Six} (h : Vb w k #[.int .i64 x.k, .int .i64 x.c, .int .i64 x.s, .string x.st, x.iv, x.kv]) : Vs w (.slice (some ⟨k, 0, none⟩) 1 1) [x] := by
  obtain ⟨h0, h1, h2, h3, h4, h5⟩ := h.six
  refine ⟨some ⟨k, 0, none⟩, 1, rfl, by simp, by decide, (fun h => by cases h), fun _ => ⟨k, 0, rfl, h.lt, fun j z hj => ?_⟩⟩
  match j, hj with
  | 0, hj => obtain rfl := Option.some.inj hj; exact ⟨h0, h1, h2, h3, h4, h5⟩
/-- what the three sorts answered -/
structure S3 (w3 : World) (S : List JV) (v1 v2 v3 : Value) (l1 l2 l3 : List Six) : Prop where
  v1 : Vs w3 v1 l1
  n1 : l1.length = S.length
  t1 : ∀ (j : Nat) (y : Six) (z : JV), l1[j]? = some y → S[j]? = some z → ∃ n, VT w3 n y z
  v2 : Vs w3 v2 l2
  n2 : l2.length = S.length
  t2 : ∀ (j : Nat) (y : Six) (z : JV), l2[j]? = some y → S[j]? = some z → ∃ n, VT w3 n y z
  v3 : Vs w3 v3 (pk S l3 l3.length)
  n3 : l3.length = S.length
  t3 : ∀ (j : Nat) (y : Six) (z : JV), l3[j]? = some y → S[j]? = some z → ∃ n, VT w3 n y z
  le : S.length ≤ 12
set_option maxRecDepth 100000 in
set_option maxHeartbeats 16000000 in
theorem sorts_any (v : Value) (l : List Six) (ts : List JV) (x : Six) (u : JV) (m : Nat) (w : World) (hv : Vs w v l) (hl : l.length = ts.length) (ht : ∀ (j : Nat) (y : Six) (z : JV), l[j]? = some y → ts[j]? = some z → ∃ n, VT w n y z) (hx : VT w m x u) :
    Calls Try.prog 5 #[v, x.val] w fun e w' => e = .returned (.bool true) ∧ Below w.heap.size w w' := by
  have hm1 : l.length ≤ maxLen := by obtain ⟨_, _, q1, q2, q3, _⟩ := hv; omega
  unfold maxLen at hm1
  obtain ⟨⟨ba, bb, bc2, g1⟩, bd, be, bf, g2⟩ := hx.one
  have htx : ∀ wx, Below w.heap.size w wx → ∀ (j : Nat) (y : Six) (z : JV), l[j]? = some y → ts[j]? = some z → ∃ n, VT wx n y z := fun wx h j y z h1 h2 => by obtain ⟨n, hh⟩ := ht j y z h1 h2; exact ⟨n, VT.on h n hh⟩
  have hlg1 := light07_any v l ts
  have hlg2 := fun wx k (h : Below w.heap.size w wx) (hk : Vb wx k #[.int .i64 x.k, .int .i64 x.c, .int .i64 x.s, .string x.st, x.iv, x.kv]) => light07_any (.slice (some ⟨k, 0, none⟩) 1 1) [x] [u] wx (row1 hk) rfl (fun j p q hp hq => by
    match j, hp, hq with
    | 0, hp, hq => obtain rfl := Option.some.inj hp; obtain rfl := Option.some.inj hq; exact ⟨m, VT.on h m hx⟩)
  have hso := fun wx (h : Below w.heap.size w wx) (hn : l.length ≤ 12) => sort_any v l ts wx (hv.on h) hl (htx wx h) hn
  have hrs := fun wx (h : Below w.heap.size w wx) (hn : l.length ≤ 12) => rsort_any v l ts wx (hv.on h) hl (htx wx h) hn
  have hun := fun wx (h : Below w.heap.size w wx) (hn : l.length ≤ 12) => unique_any v l ts wx (hv.on h) hl (htx wx h) hn
  obtain ⟨ra, rb, hR⟩ : ∃ ra rb, fdF u ts 0 = (ra, rb) := ⟨_, _, rfl⟩
  have hfn : ∀ wx, Below w.heap.size w wx → Calls Try.prog 22 #[v, x.val] wx fun e w' => e = .returned (.tuple #[.int .i64 ra, .bool rb]) ∧ Below wx.heap.size wx w' := fun wx h => by
    have h1 := find_any v l ts x u m wx (hv.on h) hl (htx wx h) (VT.on h m hx)
    rw [hR] at h1
    exact h1
  have hlg1 := fun wx (h : Below w.heap.size w wx) => light07_any v l ts wx (hv.on h) hl (htx wx h)
  have hrc := fun wx (h : Below w.heap.size w wx) (y : Six) (t : JV) (n : Nat) (hy : VT w n y t) => rcompare_any n m y x t u wx (VT.on h n hy) (VT.on h m hx)
  obtain ⟨ao, cap, rfl, hc, hcl⟩ := hv.form
  have H := Lib.hid hcl
  have HT := Lib.hid ht
  have HL := Lib.hid hl
  have HR := Lib.hid hR
  obtain ⟨bk, bc, bs, bst, xiv, xkv⟩ := x
  simp only at g1 g2
  subst g1 g2
  unfold Six.val vV at hfn hrc ⊢
  simp only at hfn hrc hlg2 ⊢
  have HLG1 := Lib.hid hlg1
  have HLG2 := Lib.hid hlg2
  have HSO := Lib.hid hso
  have HRS := Lib.hid hrs
  have HUN := Lib.hid hun
  have HFN0 := Lib.hid hfn
  have HRC := Lib.hid hrc
  have HB0 : Hid (Below w.heap.size w (w.alloc (Obj.cells #[.int .i64 bk, .int .i64 bc, .int .i64 bs, .string bst, .slice ba bb bc2, .slice bd be bf] 27))) := Lib.hid (bA1 _ _)
  have HV0 : Hid (Vb (w.alloc (Obj.cells #[.int .i64 bk, .int .i64 bc, .int .i64 bs, .string bst, .slice ba bb bc2, .slice bd be bf] 27)) w.heap.size #[.int .i64 bk, .int .i64 bc, .int .i64 bs, .string bst, .slice ba bb bc2, .slice bd be bf]) := Lib.hid (Vb.new w _)
  clear hlg1 hlg2 hso hrs hun hfn hrc hR hl ht hv hcl htx hx
  go_enter Try.func5, Try.ntmps5
  go_upto_if 29 with (first
    | (go_at_call 15; have _ := HBa; refine (HLG2.out _ wa.heap.size (bT HBa.out (bA1 _ _)) (Vb.new wa _)).mono ?_; rintro e wb ⟨lb, rfl, _, bb⟩; have HBb := Lib.hid (bT HBa.out (bT (bA1 _ _) bb)); have HVb := Lib.hid ((HVa.out.alloc _).on bb); clear bb)
    | (go_at_call 15; refine (HLG1.out _ HB0.out).mono ?_; rintro e wa ⟨la, rfl, hla, ba⟩; have HLA := Lib.hid hla; have HBa := Lib.hid (bT HB0.out ba); have HVa := Lib.hid (HV0.out.on ba); obtain ⟨f0, f1, f2, f3, f4, f5⟩ := HVa.out.six; clear ba hla; cases la))
  · go_wp2_with (go_at_call 16; refine (lives07_any _).mono ?_; rintro e w9 ⟨rfl, b9⟩)
    go_ret
    exact ⟨rfl, bT HBa.out b9⟩
  cases lb
  · go_wp2_with (go_at_call 16; refine (lives07_any _).mono ?_; rintro e w9 ⟨rfl, b9⟩)
    go_ret
    exact ⟨rfl, bT HBb.out b9⟩
  have hn12 := HLA.out (by trivial)
  clear HLA HLG1 HLG2 HBa HVa HB0 HV0 f0 f1 f2 f3 f4 f5
  go_upto_region 4 with (go_at_call 17; refine (HSO.out _ HBb.out hn12).mono ?_; rintro e w1 ⟨ao1, m1, cap1, ok1, rfl, hsr⟩; have HSR := Lib.hid hsr; clear hsr)
  have HB1 := Lib.hid (bT HBb.out HSR.out.1)
  go_upto_region 5 with (go_at_call 18; refine (HRS.out _ HB1.out hn12).mono ?_; rintro e w2 ⟨b2, ao2, m2, cap2, ok2, rfl, hr0, hr1⟩; have HB2 := Lib.hid (bT HB1.out b2); have HR2 := Lib.hid (And.intro b2 (And.intro hr0 hr1)); clear b2 hr0 hr1)
  go_upto_region 6 with (go_at_call 19; refine (HUN.out _ HB2.out hn12).mono ?_; rintro e w3 ⟨b3, ao3, m3, cap3, ok3, rfl, hu0, hu1⟩; have HB3 := Lib.hid (bT HB2.out b3); have HU3 := Lib.hid (And.intro b3 (And.intro hu0 hu1)); clear b3 hu0 hu1)
  have HV3 := Lib.hid (((HVb.out.on HSR.out.1).on HR2.out.1).on HU3.out.1)
  obtain rfl : ok1 = ok2 := two_ok (P := ts.Pairwise Ans) (fun h => (HSR.out.2.1 h).2) (fun h => sr_pw (HSR.out.2.2 h).1 (HSR.out.2.2 h).2.1) (fun h => (HR2.out.2.1 h).2) (fun h => (HR2.out.2.2 h).1)
  obtain rfl : ok1 = ok3 := two_ok (P := ts.Pairwise Ans) (fun h => (HSR.out.2.1 h).2) (fun h => sr_pw (HSR.out.2.2 h).1 (HSR.out.2.2 h).2.1) (fun h => (HU3.out.2.1 h).2) (fun h => (HU3.out.2.2 h).1)
  obtain ⟨S, l1, l2, l3, h3⟩ : ∃ S l1 l2 l3, S3 w3 S (.slice ao1 m1 cap1) (.slice ao2 m2 cap2) (.slice ao3 m3 cap3) l1 l2 l3 := by
    have k1 := bT HR2.out.1 HU3.out.1
    have k0 := bT HSR.out.1 k1
    cases ok1 with
    | false =>
      rw [(HSR.out.2.1 rfl).1, (HR2.out.2.1 rfl).1, (HU3.out.2.1 rfl).1]
      exact ⟨[], [], [], [], Vs.nil0 _, rfl, (fun j y z h => by simp at h), Vs.nil0 _, rfl, (fun j y z h => by simp at h), Vs.nil0 _, rfl, (fun j y z h => by simp at h), by decide⟩
    | true =>
      obtain ⟨_, _, ao', cap', l1, e1, _, _, _, hv1, hl1, ht1⟩ := HSR.out.2.2 rfl
      obtain ⟨_, l2, hv2, hl2, ht2⟩ := HR2.out.2.2 rfl
      obtain ⟨_, l3, hv3, hl3, ht3⟩ := HU3.out.2.2 rfl
      have hs : (refS ts).length = ts.length := refS_len ts
      exact ⟨refS ts, l1, l2, l3, hv1.on k1, by omega, (fun j y z h1 h2 => by obtain ⟨n, hh⟩ := ht1 j y z h1 h2; exact ⟨n, VT.on k0 n hh⟩), hv2.on HU3.out.1, by omega, (fun j y z h1 h2 => by obtain ⟨n, hh⟩ := ht2 j y z h1 h2; exact ⟨n, VT.on k1 n hh⟩), hv3, by omega, (fun j y z h1 h2 => by obtain ⟨n, hh⟩ := ht3 j y z h1 h2; exact ⟨n, VT.on HU3.out.1 n hh⟩), by have := HL.out; omega⟩
  have H3 := Lib.hid h3
  clear h3 HSR HR2 HU3 HSO HRS HUN HBb HVb HB1 HB2
  have hnn : (ok1 != ok1) = false := by simp
  go_upto_if 59 with (go_at_call 20; refine (samel_any _ _ l1 l2 S w3 H3.out.v1 H3.out.v2 H3.out.n1 H3.out.n2 H3.out.t1 H3.out.t2).mono ?_; rintro e w4 ⟨rfl, b4⟩; have HB34 := Lib.hid b4; clear b4)
  have HB4 := Lib.hid (bT HB3.out HB34.out)
  have HV4 := Lib.hid (HV3.out.on HB34.out)
  have HFN := Lib.hid (fun wx (h : Below w4.heap.size w4 wx) => HFN0.out wx (bT HB4.out h))
  have HSU := Lib.hid (fun wx ov (h : Below w4.heap.size w4 wx) (ho : Vs wx ov (pk S l2 l2.length)) => samel_any (.slice ao3 m3 cap3) ov (pk S l3 l3.length) (pk S l2 l2.length) (pk S S S.length) wx (H3.out.v3.on (bT HB34.out h)) ho (pk_ts H3.out.n3 H3.out.t3).1 (pk_ts H3.out.n2 H3.out.t2).1 (fun j y z h1 h2 => by obtain ⟨n, hh⟩ := (pk_ts H3.out.n3 H3.out.t3).2 j y z h1 h2; exact ⟨n, VT.on (bT HB34.out h) n hh⟩) (fun j y z h1 h2 => by obtain ⟨n, hh⟩ := (pk_ts H3.out.n2 H3.out.t2).2 j y z h1 h2; exact ⟨n, VT.on (bT HB34.out h) n hh⟩))
  obtain ⟨ao2', cap2', he, hlc2, hcl2⟩ := H3.out.v2.form
  injection he with e1 e2 e3
  subst e1 e2 e3
  have H2 := Lib.hid hcl2
  have HN2 : Hid (l2.length = S.length ∧ S.length ≤ 12) := Lib.hid ⟨H3.out.n2, H3.out.le⟩
  have hl12 : l2.length ≤ 12 := by have := HN2.out; omega
  have HT2 := Lib.hid H3.out.t2
  have HON : Hid (∀ y ∈ pk S l2 l2.length, y.one) := Lib.hid (fun y hy => one_of H3.out.n2 H3.out.t2 (pk_mem hy))
  clear hcl2 H3 HFN0 HV3 HB3 hnn
  go_wp2
  go_loopw [11, 12] (fun ovv iv wr => ∃ (i : Nat) (ov : Value), ov = ovv ∧ iv = .int .i64 (i : Nat) ∧ i ≤ l2.length ∧ Hid (Own6 w4.heap.size wr ov (pk S l2 i)) ∧ Hid (Below w4.heap.size w4 wr)) (fun _ iv _ => l2.length - (intOf iv).toNat)
  case atStart => exact ⟨0, _, rfl, rfl, by omega, Lib.hid (Own6.nil _ _), Lib.hid (Below.refl _ _)⟩
  case round =>
    obtain ⟨i, ov, rfl, rfl, hi, HO, HB⟩ := hrel
    by_cases hlt : i < l2.length
    · obtain ⟨y1, hy1⟩ : ∃ x, l2[i]? = some x := ⟨_, List.getElem?_eq_getElem hlt⟩
      obtain ⟨t1, ht1⟩ : ∃ x, S[i]? = some x := ⟨_, List.getElem?_eq_getElem (by have := HN2.out; omega)⟩
      obtain ⟨g, o, rfl, hg, hcl⟩ := H2.out (by omega)
      have hat0 : ∀ wx, Below w4.heap.size w4 wx → At6 wx g (o + i * 6) y1 := fun wx h => (hcl i y1 hy1).on hg (bT HB34.out h)
      obtain ⟨n1, hv1⟩ := HT2.out i y1 t1 hy1 ht1
      obtain ⟨⟨xa, xb, xc2, g1⟩, xd, xe, xf, g2⟩ := hv1.one
      have hone1 := hv1.one
      have HPL : Hid ((pk S l2 i).length ≤ 12) := Lib.hid (by have h1 := pk_len (S := S) (l := l2) (n := i) (by omega); have h2 := onc_le S i; omega)
      obtain ⟨xk, xc, xs, xst, xi, xv⟩ := y1
      simp only at g1 g2
      subst g1 g2
      have HA0 := Lib.hid hat0
      have HY1 := Lib.hid hy1
      have HT1 := Lib.hid ht1
      have HV1 := Lib.hid hv1
      have HONE := Lib.hid hone1
      have HCL := Lib.hid hcl
      clear hat0 hy1 ht1 hv1 hone1 hcl
      have i1 : (i : Int) < (l2.length : Int) := by omega
      by_cases hi0 : 0 < i
      · obtain ⟨j, rfl⟩ : ∃ j, i = j + 1 := ⟨i - 1, by omega⟩
        obtain ⟨y0, hy0⟩ : ∃ x, l2[j]? = some x := ⟨_, List.getElem?_eq_getElem (by omega)⟩
        obtain ⟨t0, ht0⟩ : ∃ x, S[j]? = some x := ⟨_, List.getElem?_eq_getElem (by have := HN2.out; omega)⟩
        obtain ⟨n0, hv0⟩ := HT2.out j y0 t0 hy0 ht0
        have hcm := fun wx (h : Below wr.heap.size wr wx) => rcompare_any n0 n1 y0 _ t0 t1 wx (VT.on (bT HB34.out (bT HB.out h)) n0 hv0) (VT.on (bT HB34.out (bT HB.out h)) n1 HV1.out)
        have hkt := kp_at ht0 HT1.out
        obtain ⟨c, hc0⟩ : ∃ c, (cmpR t0 t1).1 = c := ⟨_, rfl⟩
        rw [hc0] at hkt hcm
        have hat1 : ∀ wx, Below wr.heap.size wr wx → At6 wx g (o + (j + 1) * 6) ⟨xk, xc, xs, xst, .slice xa xb xc2, .slice xd xe xf⟩ := fun wx h => HA0.out wx (bT HB.out h)
        have hat2 : ∀ wx, Below wr.heap.size wr wx → At6 wx g (o + j * 6) y0 := fun wx h => (HCL.out j y0 hy0).on hg (bT HB34.out (bT HB.out h))
        clear hy0 ht0 hv0 hc0
        obtain ⟨yk, yc, ys, yst, yi, yv⟩ := y0
        unfold Six.val vV at hcm
        simp only at hcm
        have HCM := Lib.hid hcm
        have HKT := Lib.hid hkt
        clear hcm hkt
        have a0 := fun wx h => (hat1 wx h).1
        have a1 := fun wx h => (hat1 wx h).2.1
        have a2 := fun wx h => (hat1 wx h).2.2.1
        have a3 := fun wx h => (hat1 wx h).2.2.2.1
        have a4 := fun wx h => (hat1 wx h).2.2.2.2.1
        have a5 := fun wx h => (hat1 wx h).2.2.2.2.2
        try simp only at a0 a1 a2 a3 a4 a5
        have e0 := fun wx h => (hat2 wx h).1
        have e1 := fun wx h => (hat2 wx h).2.1
        have e2 := fun wx h => (hat2 wx h).2.2.1
        have e3 := fun wx h => (hat2 wx h).2.2.2.1
        have e4 := fun wx h => (hat2 wx h).2.2.2.2.1
        have e5 := fun wx h => (hat2 wx h).2.2.2.2.2
        try simp only at e0 e1 e2 e3 e4 e5
        clear hat1 hat2
        have i1 : ((j : Int) + 1) < (l2.length : Int) := by omega
        have j1 : (0 : Int) < (j : Int) + 1 := by omega
        have j2 : (j : Int) < (l2.length : Int) := by omega
        have j4 : j < l2.length := by omega
        have j3 : ((j : Int) + 1 - 1) = (j : Int) := by omega
        have j6 : ((j : Int) + 1).toNat = j + 1 := by omega
        have j9 : (0 : Int) ≤ (j : Int) + 1 := by omega
        have j10 : IntKind.i64.wrap (j : Int) = (j : Int) := IntWalk.i64_in _ (by omega)
        go_wp2
        refine wp_region_held_drew (S := Below wr.heap.size wr) (by kernel_rfl) (Below.refl wr.heap.size wr).drew (fun hHeld => ?_)
        refine take_put (i := 0) (d := 69) (oi := _) (v := ?vg0) rfl rfl (by kernel_rfl) (by kernel_rfl) (by kernel_rfl) (fun _ _ _ h => h) (Or.inl ⟨by rfl, ?yg0⟩) hHeld ?rg0
        case yg0 => (intro w hSw; (try dsimp only at hSw); go_simp; try with_reducible rfl)
        simp only [Act.put, List.setIfInBounds_toArray, List.set_cons_zero, List.set_cons_succ]
        refine take_put (i := 1) (d := 70) (oi := _) (v := ?vg1) rfl rfl (by kernel_rfl) (by kernel_rfl) (by kernel_rfl) (fun _ _ _ h => h) (Or.inl ⟨by rfl, ?yg1⟩) hHeld ?rg1
        case yg1 => (intro w hSw; (try dsimp only at hSw); go_simp; try with_reducible rfl)
        simp only [Act.put, List.setIfInBounds_toArray, List.set_cons_zero, List.set_cons_succ]
        refine take_put (i := 2) (d := 71) (oi := _) (v := ?vg2) rfl rfl (by kernel_rfl) (by kernel_rfl) (by kernel_rfl) (fun _ _ _ h => h) (Or.inl ⟨by rfl, ?yg2⟩) hHeld ?rg2
        case yg2 => (intro w hSw; (try dsimp only at hSw); go_simp; try with_reducible rfl)
        simp only [Act.put, List.setIfInBounds_toArray, List.set_cons_zero, List.set_cons_succ]
        refine take_put (i := 3) (d := 72) (oi := _) (v := ?vg3) rfl rfl (by kernel_rfl) (by kernel_rfl) (by kernel_rfl) (fun _ _ _ h => h) (Or.inl ⟨by rfl, ?yg3⟩) hHeld ?rg3
        case yg3 => (intro w hSw; (try dsimp only at hSw); go_simp; try with_reducible rfl)
        simp only [Act.put, List.setIfInBounds_toArray, List.set_cons_zero, List.set_cons_succ]
        refine take_put (i := 4) (d := 73) (oi := _) (v := ?vg4) rfl rfl (by kernel_rfl) (by kernel_rfl) (by kernel_rfl) (fun _ _ _ h => h) (Or.inl ⟨by rfl, ?yg4⟩) hHeld ?rg4
        case yg4 => (intro w hSw; (try dsimp only at hSw); go_simp; try with_reducible rfl)
        simp only [Act.put, List.setIfInBounds_toArray, List.set_cons_zero, List.set_cons_succ]
        refine take_put (i := 5) (d := 74) (oi := _) (v := ?vg5) rfl rfl (by kernel_rfl) (by kernel_rfl) (by kernel_rfl) (fun _ _ _ h => h) (Or.inl ⟨by rfl, ?yg5⟩) hHeld ?rg5
        case yg5 => (intro w hSw; (try dsimp only at hSw); go_simp; try with_reducible rfl)
        simp only [Act.put, List.setIfInBounds_toArray, List.set_cons_zero, List.set_cons_succ]
        refine take_put (i := 6) (d := 75) (oi := _) (v := ?vg6) rfl rfl (by kernel_rfl) (by kernel_rfl) (by kernel_rfl) (fun _ _ _ h => h) (Or.inl ⟨by rfl, ?yg6⟩) hHeld ?rg6
        case yg6 => (intro w hSw; (try dsimp only at hSw); go_simp; try with_reducible rfl)
        simp only [Act.put, List.setIfInBounds_toArray, List.set_cons_zero, List.set_cons_succ]
        refine take_put (i := 7) (d := 76) (oi := _) (v := ?vg7) rfl rfl (by kernel_rfl) (by kernel_rfl) (by kernel_rfl) (fun _ _ _ h => h) (Or.inl ⟨by rfl, ?yg7⟩) hHeld ?rg7
        case yg7 => (intro w hSw; (try dsimp only at hSw); go_simp; try with_reducible rfl)
        simp only [Act.put, List.setIfInBounds_toArray, List.set_cons_zero, List.set_cons_succ]
        refine take_put (i := 8) (d := 77) (oi := _) (v := ?vg8) rfl rfl (by kernel_rfl) (by kernel_rfl) (by kernel_rfl) (fun _ _ _ h => h) (Or.inl ⟨by rfl, ?yg8⟩) hHeld ?rg8
        case yg8 => (intro w hSw; (try dsimp only at hSw); go_simp; try with_reducible rfl)
        simp only [Act.put, List.setIfInBounds_toArray, List.set_cons_zero, List.set_cons_succ]
        refine wpAnyH_ready (rs := [9]) (by kernel_rfl) (by simp) (AllReadyH.cons (o := _) rfl (fun K hK => ?_) AllReadyH.nil)
        go_simp
        refine (HCM.out _ hHeld).mono ?_
        rintro e w6 ⟨rfl, b6⟩
        (try dsimp only)
        refine hK.out _ _ (bT hHeld b6) (fun hHeld => ?_)
        clear hK K
        refine take_put (i := 10) (d := 68) (oi := _) (v := ?vg10) rfl rfl (by kernel_rfl) (by kernel_rfl) (by kernel_rfl) (fun _ _ _ h => h) (Or.inl ⟨by rfl, ?yg10⟩) hHeld ?rg10
        case yg10 => (intro w hSw; (try dsimp only at hSw); go_simp; try with_reducible rfl)
        simp only [Act.put, List.setIfInBounds_toArray, List.set_cons_zero, List.set_cons_succ]
        refine take_put (i := 11) (d := 79) (oi := _) (v := ?vg11) rfl rfl (by kernel_rfl) (by kernel_rfl) (by kernel_rfl) (fun _ _ _ h => h) (Or.inl ⟨by rfl, ?yg11⟩) hHeld ?rg11
        case yg11 => (intro w hSw; (try dsimp only at hSw); go_simp; try with_reducible rfl)
        simp only [Act.put, List.setIfInBounds_toArray, List.set_cons_zero, List.set_cons_succ]
        refine take_put (i := 12) (d := 80) (oi := _) (v := ?vg12) rfl rfl (by kernel_rfl) (by kernel_rfl) (by kernel_rfl) (fun _ _ _ h => h) (Or.inl ⟨by rfl, ?yg12⟩) hHeld ?rg12
        case yg12 => (intro w hSw; (try dsimp only at hSw); go_simp; try with_reducible rfl)
        simp only [Act.put, List.setIfInBounds_toArray, List.set_cons_zero, List.set_cons_succ]
        refine take_put (i := 13) (d := 13) (oi := _) (v := ?vg13) rfl rfl (by kernel_rfl) (by kernel_rfl) (by kernel_rfl) (fun _ _ _ h => h) (Or.inl ⟨by rfl, ?yg13⟩) hHeld ?rg13
        case yg13 => (intro w hSw; (try dsimp only at hSw); go_simp; try with_reducible rfl)
        simp only [Act.put, List.setIfInBounds_toArray, List.set_cons_zero, List.set_cons_succ]
        refine wpAnyH_done (by kernel_rfl) ?_ _
        have HB6 := Lib.hid (bT HB.out hHeld)
        have HO6 := Lib.hid (HO.out.on hHeld)
        clear hHeld b6 HCM a0 a1 a2 a3 a4 a5 e0 e1 e2 e3 e4 e5 HO HB
        by_cases hcz : c = 0
        · subst hcz
          have HK : Hid (kp S (j + 1) = false) := Lib.hid (by rw [HKT.out]; simp)
          have HO9 : Hid (Own6 w4.heap.size w6 ov (pk S l2 (j + 1 + 1))) := Lib.hid (by rw [pk_succ HY1.out, if_neg (by rw [HK.out]; decide), List.append_nil]; exact HO6.out)
          clear HKT HK HO6
          go_wp2
          go_roundw
          case rel => exact ⟨j + 1 + 1, ov, rfl, by go_num, by omega, HO9, HB6⟩
          case measure => simp [intOf]; omega
        · have hce : (c != 0) = true := by rw [bne_iff_ne]; exact hcz
          have HK : Hid (kp S (j + 1) = true) := Lib.hid (by rw [HKT.out]; simp [hcz])
          obtain ⟨a0, a1, a2, a3, a4, a5⟩ := HA0.out w6 HB6.out
          simp only at a0 a1 a2 a3 a4 a5
          clear HKT
          go_wp2_with (first | (at_builtin; refine wpList_app6 rfl _ _ rfl w4.heap.size ov _ (pk S l2 (j + 1)) [⟨xk, xc, xs, xst, .slice xa xb xc2, .slice xd xe xf⟩] rfl rfl (HO6.out.on (bA1 _ _)) (Cs.lit6 _ _ HONE.out) (by have := HPL.out; simp; omega) (by have := HB6.out.size; simp; omega) ?_; intro v' w9 ho hb9) | go_in)
          have HO9 : Hid (Own6 w4.heap.size w9 v' (pk S l2 (j + 1 + 1))) := Lib.hid (by rw [pk_succ HY1.out, if_pos HK.out]; exact ho)
          have HB9 := Lib.hid ((bT HB6.out (bA1 _ _)).trans hb9)
          clear ho hb9
          go_roundw
          case rel => exact ⟨j + 1 + 1, v', rfl, by go_num, by omega, HO9, HB9⟩
          case measure => simp [intOf]; omega
      · have i0 : ¬ (0 : Int) < (i : Int) := by omega
        have HK : Hid (kp S i = true) := Lib.hid (by rw [show i = 0 by omega]; rfl)
        obtain ⟨a0, a1, a2, a3, a4, a5⟩ := HA0.out wr HB.out
        simp only at a0 a1 a2 a3 a4 a5
        go_wp2_with (first | (at_builtin; refine wpList_app6 rfl _ _ rfl w4.heap.size ov _ (pk S l2 i) [⟨xk, xc, xs, xst, .slice xa xb xc2, .slice xd xe xf⟩] rfl rfl (HO.out.on (bA1 _ _)) (Cs.lit6 _ _ HONE.out) (by have := HPL.out; simp; omega) (by have := HB.out.size; simp; omega) ?_; intro v' w9 ho hb9) | go_in)
        have HO9 : Hid (Own6 w4.heap.size w9 v' (pk S l2 (i + 1))) := Lib.hid (by rw [pk_succ HY1.out, if_pos HK.out]; exact ho)
        have HB9 := Lib.hid ((bT HB.out (bA1 _ _)).trans hb9)
        clear ho hb9
        go_roundw
        case rel => exact ⟨i + 1, v', rfl, by go_num, by omega, HO9, HB9⟩
        case measure => simp [intOf]; omega
    · obtain rfl : i = l2.length := by omega
      have HOV := Lib.hid (HO.out.vs HON.out)
      clear HO
      have i1 : ¬ (l2.length : Int) < (l2.length : Int) := by omega
      go_wp2
      go_loopw [14, 15, 16] (fun av tv iv wr => ∃ (i : Nat) (a : Int) (t : Bool), av = .int .i64 a ∧ tv = .bool t ∧ iv = .int .i64 (i : Nat) ∧ i ≤ l.length ∧ Hid ((t = true ∧ a = -1 ∧ fdF u (ts.drop i) i = (ra, rb)) ∨ (t = true ∧ 0 ≤ a ∧ ra = a ∧ rb = true) ∨ (t = false ∧ a = -1 ∧ ra = 0 ∧ rb = false)) ∧ Hid (Below w4.heap.size w4 wr) ∧ Hid (Vs wr ov (pk S l2 l2.length))) (fun _ _ iv _ => l.length - (intOf iv).toNat)
      case atStart => exact ⟨0, -1, true, rfl, rfl, rfl, by omega, Lib.hid (Or.inl ⟨rfl, rfl, HR.out⟩), HB, HOV⟩
      case round =>
        clear HB HOV
        obtain ⟨i, a, t, rfl, rfl, rfl, hi, HF, HB, HO⟩ := hrel
        rcases HF.out with ⟨rfl, rfl, hf⟩ | ⟨rfl, ha, rfl, rfl⟩ | ⟨rfl, rfl, rfl, rfl⟩
        · clear HF
          by_cases hlt : i < l.length
          · obtain ⟨y1, hy1⟩ : ∃ x, l[i]? = some x := ⟨_, List.getElem?_eq_getElem hlt⟩
            obtain ⟨t1, ht1⟩ : ∃ x, ts[i]? = some x := ⟨_, List.getElem?_eq_getElem (by have := HL.out; omega)⟩
            obtain ⟨g, o, rfl, hg, hcl⟩ := H.out (by omega)
            have hat1 : ∀ wx, Below wr.heap.size wr wx → At6 wx g (o + i * 6) y1 := fun wx h => (hcl i y1 hy1).on hg (bT HB4.out (bT HB.out h))
            obtain ⟨n, hvt⟩ := HT.out i y1 t1 hy1 ht1
            have hcm := fun wx (h : Below wr.heap.size wr wx) => HRC.out wx (bT HB4.out (bT HB.out h)) y1 t1 n hvt
            have hfd := fdF_at (u := u) ht1
            obtain ⟨c, hc0⟩ : ∃ c, (cmpR t1 u).1 = c := ⟨_, rfl⟩
            obtain ⟨b, hb0⟩ : ∃ b, (cmpR t1 u).2 = b := ⟨_, rfl⟩
            rw [hc0, hb0] at hcm hfd
            rw [hf] at hfd
            clear hcl hy1 ht1 hvt hc0 hb0 hf
            obtain ⟨k1, k2, k3, k4, k5, k6⟩ := y1
            simp only at hcm
            have HCM := Lib.hid hcm
            have HFD := Lib.hid hfd
            have hat2 := fun wx (h : Below wr.heap.size wr wx) => (HV4.out.on (bT HB.out h)).six
            clear hcm hfd
            have a0 := fun wx h => (hat1 wx h).1
            have a1 := fun wx h => (hat1 wx h).2.1
            have a2 := fun wx h => (hat1 wx h).2.2.1
            have a3 := fun wx h => (hat1 wx h).2.2.2.1
            have a4 := fun wx h => (hat1 wx h).2.2.2.2.1
            have a5 := fun wx h => (hat1 wx h).2.2.2.2.2
            try simp only at a0 a1 a2 a3 a4 a5
            have e0 := fun wx h => (hat2 wx h).1
            have e1 := fun wx h => (hat2 wx h).2.1
            have e2 := fun wx h => (hat2 wx h).2.2.1
            have e3 := fun wx h => (hat2 wx h).2.2.2.1
            have e4 := fun wx h => (hat2 wx h).2.2.2.2.1
            have e5 := fun wx h => (hat2 wx h).2.2.2.2.2
            try simp only at e0 e1 e2 e3 e4 e5
            clear hat1 hat2
            have i1 : (i : Int) < (l.length : Int) := by omega
            go_wp2
            refine wp_region_held_drew (S := Below wr.heap.size wr) (by kernel_rfl) (Below.refl wr.heap.size wr).drew (fun hHeld => ?_)
            refine take_put (i := 0) (d := 104) (oi := _) (v := ?vh0) rfl rfl (by kernel_rfl) (by kernel_rfl) (by kernel_rfl) (fun _ _ _ h => h) (Or.inl ⟨by rfl, ?yh0⟩) hHeld ?rh0
            case yh0 => (intro w hSw; (try dsimp only at hSw); go_simp; try with_reducible rfl)
            simp only [Act.put, List.setIfInBounds_toArray, List.set_cons_zero, List.set_cons_succ]
            refine take_put (i := 1) (d := 105) (oi := _) (v := ?vh1) rfl rfl (by kernel_rfl) (by kernel_rfl) (by kernel_rfl) (fun _ _ _ h => h) (Or.inl ⟨by rfl, ?yh1⟩) hHeld ?rh1
            case yh1 => (intro w hSw; (try dsimp only at hSw); go_simp; try with_reducible rfl)
            simp only [Act.put, List.setIfInBounds_toArray, List.set_cons_zero, List.set_cons_succ]
            refine take_put (i := 2) (d := 106) (oi := _) (v := ?vh2) rfl rfl (by kernel_rfl) (by kernel_rfl) (by kernel_rfl) (fun _ _ _ h => h) (Or.inl ⟨by rfl, ?yh2⟩) hHeld ?rh2
            case yh2 => (intro w hSw; (try dsimp only at hSw); go_simp; try with_reducible rfl)
            simp only [Act.put, List.setIfInBounds_toArray, List.set_cons_zero, List.set_cons_succ]
            refine take_put (i := 3) (d := 107) (oi := _) (v := ?vh3) rfl rfl (by kernel_rfl) (by kernel_rfl) (by kernel_rfl) (fun _ _ _ h => h) (Or.inl ⟨by rfl, ?yh3⟩) hHeld ?rh3
            case yh3 => (intro w hSw; (try dsimp only at hSw); go_simp; try with_reducible rfl)
            simp only [Act.put, List.setIfInBounds_toArray, List.set_cons_zero, List.set_cons_succ]
            refine take_put (i := 4) (d := 108) (oi := _) (v := ?vh4) rfl rfl (by kernel_rfl) (by kernel_rfl) (by kernel_rfl) (fun _ _ _ h => h) (Or.inl ⟨by rfl, ?yh4⟩) hHeld ?rh4
            case yh4 => (intro w hSw; (try dsimp only at hSw); go_simp; try with_reducible rfl)
            simp only [Act.put, List.setIfInBounds_toArray, List.set_cons_zero, List.set_cons_succ]
            refine wpAnyH_ready (rs := [5]) (by kernel_rfl) (by simp) (AllReadyH.cons (o := _) rfl (fun K hK => ?_) AllReadyH.nil)
            go_simp
            refine (HCM.out _ hHeld).mono ?_
            rintro e w6 ⟨rfl, b6⟩
            (try dsimp only)
            refine hK.out _ _ (bT hHeld b6) (fun hHeld => ?_)
            clear hK K
            refine take_put (i := 6) (d := 103) (oi := _) (v := ?vh6) rfl rfl (by kernel_rfl) (by kernel_rfl) (by kernel_rfl) (fun _ _ _ h => h) (Or.inl ⟨by rfl, ?yh6⟩) hHeld ?rh6
            case yh6 => (intro w hSw; (try dsimp only at hSw); go_simp; try with_reducible rfl)
            simp only [Act.put, List.setIfInBounds_toArray, List.set_cons_zero, List.set_cons_succ]
            refine take_put (i := 7) (d := 110) (oi := _) (v := ?vh7) rfl rfl (by kernel_rfl) (by kernel_rfl) (by kernel_rfl) (fun _ _ _ h => h) (Or.inl ⟨by rfl, ?yh7⟩) hHeld ?rh7
            case yh7 => (intro w hSw; (try dsimp only at hSw); go_simp; try with_reducible rfl)
            simp only [Act.put, List.setIfInBounds_toArray, List.set_cons_zero, List.set_cons_succ]
            refine take_put (i := 8) (d := 111) (oi := _) (v := ?vh8) rfl rfl (by kernel_rfl) (by kernel_rfl) (by kernel_rfl) (fun _ _ _ h => h) (Or.inl ⟨by rfl, ?yh8⟩) hHeld ?rh8
            case yh8 => (intro w hSw; (try dsimp only at hSw); go_simp; try with_reducible rfl)
            simp only [Act.put, List.setIfInBounds_toArray, List.set_cons_zero, List.set_cons_succ]
            refine take_put (i := 9) (d := 17) (oi := _) (v := ?vh9) rfl rfl (by kernel_rfl) (by kernel_rfl) (by kernel_rfl) (fun _ _ _ h => h) (Or.inl ⟨by rfl, ?yh9⟩) hHeld ?rh9
            case yh9 => (intro w hSw; (try dsimp only at hSw); go_simp; try with_reducible rfl)
            simp only [Act.put, List.setIfInBounds_toArray, List.set_cons_zero, List.set_cons_succ]
            refine take_put (i := 10) (d := 18) (oi := _) (v := ?vh10) rfl rfl (by kernel_rfl) (by kernel_rfl) (by kernel_rfl) (fun _ _ _ h => h) (Or.inl ⟨by rfl, ?yh10⟩) hHeld ?rh10
            case yh10 => (intro w hSw; (try dsimp only at hSw); go_simp; try with_reducible rfl)
            simp only [Act.put, List.setIfInBounds_toArray, List.set_cons_zero, List.set_cons_succ]
            refine wpAnyH_done (by kernel_rfl) ?_ _
            have HB6 := Lib.hid (bT HB.out hHeld)
            have HO6 := Lib.hid (HO.out.on hHeld)
            clear hHeld b6 HCM a0 a1 a2 a3 a4 a5 e0 e1 e2 e3 e4 e5 HB HO
            cases b with
            | false =>
              have hr : (ra, rb) = (0, false) := HFD.out
              have HF' : Hid (ra = 0 ∧ rb = false) := Lib.hid ⟨(Prod.mk.inj hr).1, (Prod.mk.inj hr).2⟩
              clear HFD hr
              go_wp2
              go_roundw
              case rel => exact ⟨i + 1, -1, false, rfl, rfl, by go_num, by omega, Lib.hid (Or.inr (Or.inr ⟨rfl, rfl, HF'.out⟩)), HB6, HO6⟩
              case measure => simp [intOf]; omega
            | true =>
              by_cases hcz : c = 0
              · subst hcz
                have hr : (ra, rb) = ((i : Int), true) := HFD.out
                have HF' : Hid (ra = (i : Int) ∧ rb = true) := Lib.hid ⟨(Prod.mk.inj hr).1, (Prod.mk.inj hr).2⟩
                clear HFD hr
                go_wp2
                go_roundw
                case rel => exact ⟨i + 1, (i : Int), true, rfl, rfl, by go_num, by omega, Lib.hid (Or.inr (Or.inl ⟨rfl, by omega, HF'.out⟩)), HB6, HO6⟩
                case measure => simp [intOf]; omega
              · have hce : (c == 0) = false := by rw [beq_eq_false_iff_ne]; exact hcz
                have HF' : Hid (fdF u (ts.drop (i + 1)) (i + 1) = (ra, rb)) := Lib.hid (by have h1 := HFD.out; rw [if_neg (by decide), if_neg hcz] at h1; exact h1.symm)
                clear HFD
                go_wp2
                go_roundw
                case rel => exact ⟨i + 1, -1, true, rfl, rfl, by go_num, by omega, Lib.hid (Or.inl ⟨rfl, rfl, HF'.out⟩), HB6, HO6⟩
                case measure => simp [intOf]; omega
          · have hr : ((-1 : Int), true) = (ra, rb) := by rw [← hf]; exact (fdF_end (by have := HL.out; omega)).symm
            obtain ⟨rfl, rfl⟩ := Prod.mk.inj hr
            clear hf hr
            have i1 : ¬ (i : Int) < (l.length : Int) := by omega
            have hvb := HV4.out.on HB.out
            obtain ⟨e0, e1, e2, e3, e4, e5⟩ := hvb.six
            clear hvb
            go_upto_region 28 with (go_at_call 22; refine (HFN.out _ HB.out).mono ?_; rintro e w7 ⟨rfl, b7⟩; have HB7 := Lib.hid (bT HB.out b7); have HO7 := Lib.hid (HO.out.on b7); clear b7)
            have hsu := HSU.out _ _ HB7.out HO7.out
            have HSU7 := Lib.hid hsu
            clear hsu HSU HFN HB HO HL HR e0 e1 e2 e3 e4 e5
            go_wp2_with (first | (go_at_call 16; have _ := HB8; refine (lives07_any _).mono ?_; rintro e w9 ⟨rfl, b9⟩) | (go_at_call 20; refine HSU7.out.mono ?_; rintro e w8 ⟨rfl, b8⟩; have HB8 := Lib.hid (bT HB7.out b8); clear b8))
            go_ret
            exact ⟨rfl, bT HB4.out (bT HB8.out b9)⟩
        · clear HF
          have i2 : ¬ ra < 0 := by omega
          have i3 : (ra == ra) = true := by simp
          by_cases hlt : i < l.length
          · have i1 : (i : Int) < (l.length : Int) := by omega
            have hvb := HV4.out.on HB.out
            obtain ⟨e0, e1, e2, e3, e4, e5⟩ := hvb.six
            clear hvb
            go_upto_region 28 with (go_at_call 22; refine (HFN.out _ HB.out).mono ?_; rintro e w7 ⟨rfl, b7⟩; have HB7 := Lib.hid (bT HB.out b7); have HO7 := Lib.hid (HO.out.on b7); clear b7)
            have hsu := HSU.out _ _ HB7.out HO7.out
            have HSU7 := Lib.hid hsu
            clear hsu HSU HFN HB HO HL HR e0 e1 e2 e3 e4 e5
            go_wp2_with (first | (go_at_call 16; have _ := HB8; refine (lives07_any _).mono ?_; rintro e w9 ⟨rfl, b9⟩) | (go_at_call 20; refine HSU7.out.mono ?_; rintro e w8 ⟨rfl, b8⟩; have HB8 := Lib.hid (bT HB7.out b8); clear b8))
            go_ret
            exact ⟨rfl, bT HB4.out (bT HB8.out b9)⟩
          · have i1 : ¬ (i : Int) < (l.length : Int) := by omega
            have hvb := HV4.out.on HB.out
            obtain ⟨e0, e1, e2, e3, e4, e5⟩ := hvb.six
            clear hvb
            go_upto_region 28 with (go_at_call 22; refine (HFN.out _ HB.out).mono ?_; rintro e w7 ⟨rfl, b7⟩; have HB7 := Lib.hid (bT HB.out b7); have HO7 := Lib.hid (HO.out.on b7); clear b7)
            have hsu := HSU.out _ _ HB7.out HO7.out
            have HSU7 := Lib.hid hsu
            clear hsu HSU HFN HB HO HL HR e0 e1 e2 e3 e4 e5
            go_wp2_with (first | (go_at_call 16; have _ := HB8; refine (lives07_any _).mono ?_; rintro e w9 ⟨rfl, b9⟩) | (go_at_call 20; refine HSU7.out.mono ?_; rintro e w8 ⟨rfl, b8⟩; have HB8 := Lib.hid (bT HB7.out b8); clear b8))
            go_ret
            exact ⟨rfl, bT HB4.out (bT HB8.out b9)⟩
        · clear HF
          by_cases hlt : i < l.length
          · have i1 : (i : Int) < (l.length : Int) := by omega
            have hvb := HV4.out.on HB.out
            obtain ⟨e0, e1, e2, e3, e4, e5⟩ := hvb.six
            clear hvb
            go_upto_region 28 with (go_at_call 22; refine (HFN.out _ HB.out).mono ?_; rintro e w7 ⟨rfl, b7⟩; have HB7 := Lib.hid (bT HB.out b7); have HO7 := Lib.hid (HO.out.on b7); clear b7)
            have hsu := HSU.out _ _ HB7.out HO7.out
            have HSU7 := Lib.hid hsu
            clear hsu HSU HFN HB HO HL HR e0 e1 e2 e3 e4 e5
            go_wp2_with (first | (go_at_call 16; have _ := HB8; refine (lives07_any _).mono ?_; rintro e w9 ⟨rfl, b9⟩) | (go_at_call 20; refine HSU7.out.mono ?_; rintro e w8 ⟨rfl, b8⟩; have HB8 := Lib.hid (bT HB7.out b8); clear b8))
            go_ret
            exact ⟨rfl, bT HB4.out (bT HB8.out b9)⟩
          · have i1 : ¬ (i : Int) < (l.length : Int) := by omega
            have hvb := HV4.out.on HB.out
            obtain ⟨e0, e1, e2, e3, e4, e5⟩ := hvb.six
            clear hvb
            go_upto_region 28 with (go_at_call 22; refine (HFN.out _ HB.out).mono ?_; rintro e w7 ⟨rfl, b7⟩; have HB7 := Lib.hid (bT HB.out b7); have HO7 := Lib.hid (HO.out.on b7); clear b7)
            have hsu := HSU.out _ _ HB7.out HO7.out
            have HSU7 := Lib.hid hsu
            clear hsu HSU HFN HB HO HL HR e0 e1 e2 e3 e4 e5
            go_wp2_with (first | (go_at_call 16; have _ := HB8; refine (lives07_any _).mono ?_; rintro e w9 ⟨rfl, b9⟩) | (go_at_call 20; refine HSU7.out.mono ?_; rintro e w8 ⟨rfl, b8⟩; have HB8 := Lib.hid (bT HB7.out b8); clear b8))
            go_ret
            exact ⟨rfl, bT HB4.out (bT HB8.out b9)⟩
end Od
end Go.Proofs.Ytkmfoclhhnhkdaa
