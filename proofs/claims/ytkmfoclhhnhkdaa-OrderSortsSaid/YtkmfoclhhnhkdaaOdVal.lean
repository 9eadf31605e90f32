/- order's walk through two values at one time: what it answers, and how many pairs it looks at. -/
import Derived.Test.YtkmfoclhhnhkdaaOdNum
import Derived.Test.YtkmfoclhhnhkdaaJvSx
import Derived.Test.YtkmfoclhhnhkdaaJvPut2
import Derived.Deep.DeepCutAuto
namespace Go.Proofs.Ytkmfoclhhnhkdaa
open Go.RowKit
namespace Od
open _root_.Go.Proofs.Ytkmfoclhhnhkdaa.Nm _root_.Go.Proofs.Ytkmfoclhhnhkdaa.Jv
/-- the walk's cell -/
def Wk (w : World) (k L : Nat) : Prop := w.heap[k]? = some (.cells #[.int .i64 (L : Nat)] 76 (0, 0))
section
variable {w w' : World} {k L : Nat}
theorem Wk.lt (h : Wk w k L) : k < w.heap.size := (Array.getElem?_eq_some_iff.1 h).1
theorem Wk.cell (h : Wk w k L) : w.cell? ⟨k, 0, none⟩ = some (.int .i64 (L : Nat)) := cell_of_row w k 0 _ _ _ h
theorem Wk.free (h : Wk w k L) : w.frozen? ⟨k, 0, none⟩ = false := by
  unfold Wk at h
  simp [World.frozen?, h]
theorem Wk.on (h : Wk w k L) (hb : Below w.heap.size w w') : Wk w' k L := (hb.block k h.lt).trans h
theorem Wk.set (h : Wk w k L) (M : Nat) : Wk (w.setCell ⟨k, 0, none⟩ (.int .i64 (M : Nat))) k M := by
  unfold Wk at h ⊢
  simp [World.setCell, Array.getElem?_modify, h]
end
/-- what a look at two values leaves -/
def VQ (r : Option (Int × Nat)) (w0 : World) (k : Nat) (c : Int) (b : Bool) (w' : World) : Prop :=
  Below w0.heap.size w0 w' ∧ match r with
  | none => c = 0 ∧ b = false
  | some (c', M) => c = c' ∧ b = true ∧ Wk w' k M ∧ M ≤ 4096
/-- what stood stands -/
def Ab (w0 w : World) : Prop := Below w0.heap.size w0 w
/-- what values answers of trees that read in at most n steps -/
def ValOk (n k : Nat) (w0 : World) : Prop := ∀ (x y : Six) (t u : JV) (pa oa pb ob L : Nat) (w : World), VT w0 n x t → (∃ m, VT w0 m y u) → At6 w0 pa oa x → pa < w0.heap.size → At6 w0 pb ob y → pb < w0.heap.size → Below w0.heap.size w0 w → Wk w k L → L ≤ 4096 →
    Calls Try.prog 41 #[.pointer (some ⟨k, 0, none⟩), .pointer (some ⟨pa, oa, none⟩), .pointer (some ⟨pb, ob, none⟩)] w fun e w' => ∃ c b, e = .returned (.tuple #[.int .i64 c, .bool b]) ∧ VQ (cmpV t u L) w0 k c b w'
set_option maxRecDepth 100000 in
set_option maxHeartbeats 4000000 in
theorem items_any (n k : Nat) (w0 : World) (ih : ValOk n k w0) (v v' : Value) (l l' : List Six) (ts us : List JV) (hv : Vs w0 v l) (hv' : Vs w0 v' l') (hl : l.length = ts.length) (hl' : l'.length = us.length)
    (ht : ∀ (j : Nat) (y : Six) (z : JV), l[j]? = some y → ts[j]? = some z → VT w0 n y z) (hu : ∀ (j : Nat) (y : Six) (z : JV), l'[j]? = some y → us[j]? = some z → ∃ m, VT w0 m y z) (L : Nat) (w : World) (hb : Below w0.heap.size w0 w) (hk : Wk w k L) (hL : L ≤ 4096) :
    Calls Try.prog 66 #[.pointer (some ⟨k, 0, none⟩), v, v'] w fun e w' => ∃ c b, e = .returned (.tuple #[.int .i64 c, .bool b]) ∧ VQ (cmpL ts us L) w0 k c b w' := by
  have hm1 : l.length ≤ maxLen := by obtain ⟨_, _, q1, q2, q3, _⟩ := hv; omega
  have hm2 : l'.length ≤ maxLen := by obtain ⟨_, _, q1, q2, q3, _⟩ := hv'; omega
  unfold maxLen at hm1 hm2
  obtain ⟨ao, cap, rfl, hc, h⟩ := hv.form
  obtain ⟨ao', cap', rfl, hc', h'⟩ := hv'.form
  obtain ⟨r, hr⟩ : ∃ r, cmpL ts us L = r := ⟨_, rfl⟩
  rw [hr]
  have H := Lib.hid h
  have H' := Lib.hid h'
  have HR := Lib.hid hr
  have HL := Lib.hid hl
  have HL' := Lib.hid hl'
  have HT := Lib.hid ht
  have HU := Lib.hid hu
  have IH := Lib.hid ih
  have HB0 := Lib.hid hb
  have HK0 := Lib.hid hk
  clear h h' hv hv' hr hl hl' ht hu ih hb hk
  go_enter Try.func66, Try.ntmps66
  go_upto_region 1 with (fail)
  go_cut [15, 16] (fun a i wx => ∃ mn : Nat, a = .int .i64 (mn : Nat) ∧ i = .int .i64 0 ∧ w = wx ∧ Hid (mn = min l.length l'.length))
  case first =>
    rcases Nat.lt_trichotomy l.length l'.length with h1 | h1 | h1
    · have i1 : (l.length : Int) < (l'.length : Int) := by omega
      have i2 : ¬ (l'.length : Int) < (l.length : Int) := by omega
      have i3 : min (l.length : Int) (l'.length : Int) = (l.length : Int) := by omega
      go_wp2
      go_meet
      exact ⟨l.length, rfl, rfl, rfl, Lib.hid (by omega)⟩
    · have i3 : min (l.length : Int) (l'.length : Int) = (l.length : Int) := by omega
      have i1 : ¬ (l.length : Int) < (l'.length : Int) := by omega
      have i2 : ¬ (l'.length : Int) < (l.length : Int) := by omega
      have H1 := Lib.hid h1
      clear h1
      go_wp2
      go_meet
      exact ⟨l.length, rfl, rfl, rfl, Lib.hid (by have := H1.out; omega)⟩
    · have i1 : (l'.length : Int) < (l.length : Int) := by omega
      have i2 : ¬ (l.length : Int) < (l'.length : Int) := by omega
      have i3 : min (l.length : Int) (l'.length : Int) = (l'.length : Int) := by omega
      go_wp2
      go_meet
      exact ⟨l'.length, rfl, rfl, rfl, Lib.hid (by omega)⟩
  case rest =>
  obtain ⟨mn, rfl, rfl, rfl, HM⟩ := hcut
  have hmn1 : mn ≤ l.length := by have := HM.out; omega
  have hmn2 : mn ≤ l'.length := by have := HM.out; omega
  go_wp2
  go_loopw [16] (fun i wr => ∃ j M : Nat, i = .int .i64 (j : Nat) ∧ j ≤ mn ∧ M ≤ 4096 ∧ Hid (r = cmpL (ts.drop j) (us.drop j) M) ∧ Hid (Below w0.heap.size w0 wr) ∧ Hid (Wk wr k M)) (fun i _ => mn - (intOf i).toNat)
  case atStart => exact ⟨0, L, rfl, by omega, hL, Lib.hid HR.out.symm, HB0, HK0⟩
  case round =>
    clear HR HB0 HK0
    obtain ⟨j, M, rfl, hj, hM, HR, HB, HK⟩ := hrel
    by_cases hlt : j < mn
    · as_aux_lemma =>
      obtain ⟨y1, hy1⟩ : ∃ x, l[j]? = some x := ⟨_, List.getElem?_eq_getElem (by omega)⟩
      obtain ⟨y2, hy2⟩ : ∃ x, l'[j]? = some x := ⟨_, List.getElem?_eq_getElem (by omega)⟩
      obtain ⟨t1, ht1⟩ : ∃ x, ts[j]? = some x := ⟨_, List.getElem?_eq_getElem (by have := HL.out; omega)⟩
      obtain ⟨u1, hu1⟩ : ∃ x, us[j]? = some x := ⟨_, List.getElem?_eq_getElem (by have := HL'.out; omega)⟩
      obtain ⟨g, o, rfl, hg, hcl⟩ := H.out (by omega)
      obtain ⟨g', o', rfl, hg', hcl'⟩ := H'.out (by omega)
      have hq := HR.out
      rw [cmpL_at ht1 hu1] at hq
      have hcs := IH.out y1 y2 t1 u1 g (o + j * 6) g' (o' + j * 6) M wr.drew (HT.out j y1 t1 hy1 ht1) (HU.out j y2 u1 hy2 hu1) (hcl j y1 hy1) hg (hcl' j y2 hy2) hg' HB.out.drew (HK.out.on (Below.refl _ _).drew) hM
      have i1 : (j : Int) < (l.length : Int) := by omega
      have i2 : (j : Int) < (l'.length : Int) := by omega
      have i3 : (j : Int) < (mn : Int) := by omega
      clear hcl hcl' hy1 hy2 ht1 hu1 HR
      cases hr : cmpV t1 u1 M with
      | none =>
        rw [hr] at hq hcs
        simp only at hq
        subst hq
        have HCS := Lib.hid hcs
        clear hr hcs
        go_wp2
        have HBW := HB
        refine wp_region_held_drew (S := Ab w0) (by kernel_rfl) (show Ab w0 wr.drew from HBW.out.drew) (fun hHeld => ?_)
        refine take_put (i := 0) (d := 20) (oi := _) (v := ?vn0) rfl rfl (by kernel_rfl) (by kernel_rfl) (by kernel_rfl) (fun _ _ _ h => h) (Or.inl ⟨by rfl, ?yn0⟩) hHeld ?rn0
        case yn0 => (intro w hSw; (try dsimp only at hSw); go_simp; try with_reducible rfl)
        simp only [Act.put, List.setIfInBounds_toArray, List.set_cons_zero, List.set_cons_succ]
        refine take_put (i := 1) (d := 21) (oi := _) (v := ?vn1) rfl rfl (by kernel_rfl) (by kernel_rfl) (by kernel_rfl) (fun _ _ _ h => h) (Or.inl ⟨by rfl, ?yn1⟩) hHeld ?rn1
        case yn1 => (intro w hSw; (try dsimp only at hSw); go_simp; try with_reducible rfl)
        simp only [Act.put, List.setIfInBounds_toArray, List.set_cons_zero, List.set_cons_succ]
        refine take_put (i := 2) (d := 22) (oi := _) (v := ?vn2) rfl rfl (by kernel_rfl) (by kernel_rfl) (by kernel_rfl) (fun _ _ _ h => h) (Or.inl ⟨by rfl, ?yn2⟩) hHeld ?rn2
        case yn2 => (intro w hSw; (try dsimp only at hSw); go_simp; try with_reducible rfl)
        simp only [Act.put, List.setIfInBounds_toArray, List.set_cons_zero, List.set_cons_succ]
        refine take_put (i := 3) (d := 23) (oi := _) (v := ?vn3) rfl rfl (by kernel_rfl) (by kernel_rfl) (by kernel_rfl) (fun _ _ _ h => h) (Or.inl ⟨by rfl, ?yn3⟩) hHeld ?rn3
        case yn3 => (intro w hSw; (try dsimp only at hSw); go_simp; try with_reducible rfl)
        simp only [Act.put, List.setIfInBounds_toArray, List.set_cons_zero, List.set_cons_succ]
        refine take_put (i := 4) (d := 24) (oi := _) (v := ?vn4) rfl rfl (by kernel_rfl) (by kernel_rfl) (by kernel_rfl) (fun _ _ _ h => h) (Or.inl ⟨by rfl, ?yn4⟩) hHeld ?rn4
        case yn4 => (intro w hSw; (try dsimp only at hSw); go_simp; try with_reducible rfl)
        simp only [Act.put, List.setIfInBounds_toArray, List.set_cons_zero, List.set_cons_succ]
        refine take_put (i := 5) (d := 25) (oi := _) (v := ?vn5) rfl rfl (by kernel_rfl) (by kernel_rfl) (by kernel_rfl) (fun _ _ _ h => h) (Or.inl ⟨by rfl, ?yn5⟩) hHeld ?rn5
        case yn5 => (intro w hSw; (try dsimp only at hSw); go_simp; try with_reducible rfl)
        simp only [Act.put, List.setIfInBounds_toArray, List.set_cons_zero, List.set_cons_succ]
        refine take_put (i := 6) (d := 26) (oi := _) (v := ?vn6) rfl rfl (by kernel_rfl) (by kernel_rfl) (by kernel_rfl) (fun _ _ _ h => h) (Or.inl ⟨by rfl, ?yn6⟩) hHeld ?rn6
        case yn6 => (intro w hSw; (try dsimp only at hSw); go_simp; try with_reducible rfl)
        simp only [Act.put, List.setIfInBounds_toArray, List.set_cons_zero, List.set_cons_succ]
        refine wpAnyH_ready (rs := [7]) (by kernel_rfl) (by simp) (AllReadyH.cons (o := _) rfl (fun K hK => ?_) AllReadyH.nil)
        go_simp
        refine HCS.out.mono ?_
        rintro e w6 ⟨c, b, rfl, b6, rfl, rfl⟩
        have HB6 := Lib.hid b6
        (try dsimp only)
        refine hK.out _ _ (show Ab w0 w6 from b6) (fun hHeld => ?_)
        clear hK K
        refine take_put (i := 8) (d := 19) (oi := _) (v := ?vn8) rfl rfl (by kernel_rfl) (by kernel_rfl) (by kernel_rfl) (fun _ _ _ h => h) (Or.inl ⟨by rfl, ?yn8⟩) hHeld ?rn8
        case yn8 => (intro w hSw; (try dsimp only at hSw); go_simp; try with_reducible rfl)
        simp only [Act.put, List.setIfInBounds_toArray, List.set_cons_zero, List.set_cons_succ]
        refine take_put (i := 9) (d := 28) (oi := _) (v := ?vn9) rfl rfl (by kernel_rfl) (by kernel_rfl) (by kernel_rfl) (fun _ _ _ h => h) (Or.inl ⟨by rfl, ?yn9⟩) hHeld ?rn9
        case yn9 => (intro w hSw; (try dsimp only at hSw); go_simp; try with_reducible rfl)
        simp only [Act.put, List.setIfInBounds_toArray, List.set_cons_zero, List.set_cons_succ]
        refine take_put (i := 10) (d := 29) (oi := _) (v := ?vn10) rfl rfl (by kernel_rfl) (by kernel_rfl) (by kernel_rfl) (fun _ _ _ h => h) (Or.inl ⟨by rfl, ?yn10⟩) hHeld ?rn10
        case yn10 => (intro w hSw; (try dsimp only at hSw); go_simp; try with_reducible rfl)
        simp only [Act.put, List.setIfInBounds_toArray, List.set_cons_zero, List.set_cons_succ]
        refine take_put (i := 11) (d := 9) (oi := _) (v := ?vn11) rfl rfl (by kernel_rfl) (by kernel_rfl) (by kernel_rfl) (fun _ _ _ h => h) (Or.inl ⟨by rfl, ?yn11⟩) hHeld ?rn11
        case yn11 => (intro w hSw; (try dsimp only at hSw); go_simp; try with_reducible rfl)
        simp only [Act.put, List.setIfInBounds_toArray, List.set_cons_zero, List.set_cons_succ]
        refine take_put (i := 12) (d := 10) (oi := _) (v := ?vn12) rfl rfl (by kernel_rfl) (by kernel_rfl) (by kernel_rfl) (fun _ _ _ h => h) (Or.inl ⟨by rfl, ?yn12⟩) hHeld ?rn12
        case yn12 => (intro w hSw; (try dsimp only at hSw); go_simp; try with_reducible rfl)
        simp only [Act.put, List.setIfInBounds_toArray, List.set_cons_zero, List.set_cons_succ]
        refine wpAnyH_done (by kernel_rfl) ?_ _
        clear hHeld b6 HBW
        go_wp2
        go_ret2
        exact ⟨_, _, rfl, HB6.out, rfl, rfl⟩
      | some p =>
        obtain ⟨c, M'⟩ := p
        rw [hr] at hq hcs
        simp only at hq
        have HCS := Lib.hid hcs
        clear hr hcs
        by_cases h0 : c = 0
        · subst h0
          rw [if_pos rfl] at hq
          have HR := Lib.hid hq
          clear hq
          go_wp2
          have HBW := HB
          refine wp_region_held_drew (S := Ab w0) (by kernel_rfl) (show Ab w0 wr.drew from HBW.out.drew) (fun hHeld => ?_)
          refine take_put (i := 0) (d := 20) (oi := _) (v := ?vs0) rfl rfl (by kernel_rfl) (by kernel_rfl) (by kernel_rfl) (fun _ _ _ h => h) (Or.inl ⟨by rfl, ?ys0⟩) hHeld ?rs0
          case ys0 => (intro w hSw; (try dsimp only at hSw); go_simp; try with_reducible rfl)
          simp only [Act.put, List.setIfInBounds_toArray, List.set_cons_zero, List.set_cons_succ]
          refine take_put (i := 1) (d := 21) (oi := _) (v := ?vs1) rfl rfl (by kernel_rfl) (by kernel_rfl) (by kernel_rfl) (fun _ _ _ h => h) (Or.inl ⟨by rfl, ?ys1⟩) hHeld ?rs1
          case ys1 => (intro w hSw; (try dsimp only at hSw); go_simp; try with_reducible rfl)
          simp only [Act.put, List.setIfInBounds_toArray, List.set_cons_zero, List.set_cons_succ]
          refine take_put (i := 2) (d := 22) (oi := _) (v := ?vs2) rfl rfl (by kernel_rfl) (by kernel_rfl) (by kernel_rfl) (fun _ _ _ h => h) (Or.inl ⟨by rfl, ?ys2⟩) hHeld ?rs2
          case ys2 => (intro w hSw; (try dsimp only at hSw); go_simp; try with_reducible rfl)
          simp only [Act.put, List.setIfInBounds_toArray, List.set_cons_zero, List.set_cons_succ]
          refine take_put (i := 3) (d := 23) (oi := _) (v := ?vs3) rfl rfl (by kernel_rfl) (by kernel_rfl) (by kernel_rfl) (fun _ _ _ h => h) (Or.inl ⟨by rfl, ?ys3⟩) hHeld ?rs3
          case ys3 => (intro w hSw; (try dsimp only at hSw); go_simp; try with_reducible rfl)
          simp only [Act.put, List.setIfInBounds_toArray, List.set_cons_zero, List.set_cons_succ]
          refine take_put (i := 4) (d := 24) (oi := _) (v := ?vs4) rfl rfl (by kernel_rfl) (by kernel_rfl) (by kernel_rfl) (fun _ _ _ h => h) (Or.inl ⟨by rfl, ?ys4⟩) hHeld ?rs4
          case ys4 => (intro w hSw; (try dsimp only at hSw); go_simp; try with_reducible rfl)
          simp only [Act.put, List.setIfInBounds_toArray, List.set_cons_zero, List.set_cons_succ]
          refine take_put (i := 5) (d := 25) (oi := _) (v := ?vs5) rfl rfl (by kernel_rfl) (by kernel_rfl) (by kernel_rfl) (fun _ _ _ h => h) (Or.inl ⟨by rfl, ?ys5⟩) hHeld ?rs5
          case ys5 => (intro w hSw; (try dsimp only at hSw); go_simp; try with_reducible rfl)
          simp only [Act.put, List.setIfInBounds_toArray, List.set_cons_zero, List.set_cons_succ]
          refine take_put (i := 6) (d := 26) (oi := _) (v := ?vs6) rfl rfl (by kernel_rfl) (by kernel_rfl) (by kernel_rfl) (fun _ _ _ h => h) (Or.inl ⟨by rfl, ?ys6⟩) hHeld ?rs6
          case ys6 => (intro w hSw; (try dsimp only at hSw); go_simp; try with_reducible rfl)
          simp only [Act.put, List.setIfInBounds_toArray, List.set_cons_zero, List.set_cons_succ]
          refine wpAnyH_ready (rs := [7]) (by kernel_rfl) (by simp) (AllReadyH.cons (o := _) rfl (fun K hK => ?_) AllReadyH.nil)
          go_simp
          refine HCS.out.mono ?_
          rintro e w6 ⟨c, b, rfl, b6, rfl, rfl, k6, hM6⟩
          have HB6 := Lib.hid b6
          have HK6 := Lib.hid k6
          clear k6
          (try dsimp only)
          refine hK.out _ _ (show Ab w0 w6 from b6) (fun hHeld => ?_)
          clear hK K
          refine take_put (i := 8) (d := 19) (oi := _) (v := ?vs8) rfl rfl (by kernel_rfl) (by kernel_rfl) (by kernel_rfl) (fun _ _ _ h => h) (Or.inl ⟨by rfl, ?ys8⟩) hHeld ?rs8
          case ys8 => (intro w hSw; (try dsimp only at hSw); go_simp; try with_reducible rfl)
          simp only [Act.put, List.setIfInBounds_toArray, List.set_cons_zero, List.set_cons_succ]
          refine take_put (i := 9) (d := 28) (oi := _) (v := ?vs9) rfl rfl (by kernel_rfl) (by kernel_rfl) (by kernel_rfl) (fun _ _ _ h => h) (Or.inl ⟨by rfl, ?ys9⟩) hHeld ?rs9
          case ys9 => (intro w hSw; (try dsimp only at hSw); go_simp; try with_reducible rfl)
          simp only [Act.put, List.setIfInBounds_toArray, List.set_cons_zero, List.set_cons_succ]
          refine take_put (i := 10) (d := 29) (oi := _) (v := ?vs10) rfl rfl (by kernel_rfl) (by kernel_rfl) (by kernel_rfl) (fun _ _ _ h => h) (Or.inl ⟨by rfl, ?ys10⟩) hHeld ?rs10
          case ys10 => (intro w hSw; (try dsimp only at hSw); go_simp; try with_reducible rfl)
          simp only [Act.put, List.setIfInBounds_toArray, List.set_cons_zero, List.set_cons_succ]
          refine take_put (i := 11) (d := 9) (oi := _) (v := ?vs11) rfl rfl (by kernel_rfl) (by kernel_rfl) (by kernel_rfl) (fun _ _ _ h => h) (Or.inl ⟨by rfl, ?ys11⟩) hHeld ?rs11
          case ys11 => (intro w hSw; (try dsimp only at hSw); go_simp; try with_reducible rfl)
          simp only [Act.put, List.setIfInBounds_toArray, List.set_cons_zero, List.set_cons_succ]
          refine take_put (i := 12) (d := 10) (oi := _) (v := ?vs12) rfl rfl (by kernel_rfl) (by kernel_rfl) (by kernel_rfl) (fun _ _ _ h => h) (Or.inl ⟨by rfl, ?ys12⟩) hHeld ?rs12
          case ys12 => (intro w hSw; (try dsimp only at hSw); go_simp; try with_reducible rfl)
          simp only [Act.put, List.setIfInBounds_toArray, List.set_cons_zero, List.set_cons_succ]
          refine wpAnyH_done (by kernel_rfl) ?_ _
          clear hHeld b6 HBW
          go_wp2
          go_roundw
          case rel => exact ⟨j + 1, M', by go_num, by omega, hM6, HR, HB6, HK6⟩
          case measure => simp [intOf]; omega
        · rw [if_neg h0] at hq
          subst hq
          have h0b : (c == 0) = false := by simpa using h0
          have h0c : (c != 0) = true := by simpa using h0
          go_wp2
          have HBW := HB
          refine wp_region_held_drew (S := Ab w0) (by kernel_rfl) (show Ab w0 wr.drew from HBW.out.drew) (fun hHeld => ?_)
          refine take_put (i := 0) (d := 20) (oi := _) (v := ?vt0) rfl rfl (by kernel_rfl) (by kernel_rfl) (by kernel_rfl) (fun _ _ _ h => h) (Or.inl ⟨by rfl, ?yt0⟩) hHeld ?rt0
          case yt0 => (intro w hSw; (try dsimp only at hSw); go_simp; try with_reducible rfl)
          simp only [Act.put, List.setIfInBounds_toArray, List.set_cons_zero, List.set_cons_succ]
          refine take_put (i := 1) (d := 21) (oi := _) (v := ?vt1) rfl rfl (by kernel_rfl) (by kernel_rfl) (by kernel_rfl) (fun _ _ _ h => h) (Or.inl ⟨by rfl, ?yt1⟩) hHeld ?rt1
          case yt1 => (intro w hSw; (try dsimp only at hSw); go_simp; try with_reducible rfl)
          simp only [Act.put, List.setIfInBounds_toArray, List.set_cons_zero, List.set_cons_succ]
          refine take_put (i := 2) (d := 22) (oi := _) (v := ?vt2) rfl rfl (by kernel_rfl) (by kernel_rfl) (by kernel_rfl) (fun _ _ _ h => h) (Or.inl ⟨by rfl, ?yt2⟩) hHeld ?rt2
          case yt2 => (intro w hSw; (try dsimp only at hSw); go_simp; try with_reducible rfl)
          simp only [Act.put, List.setIfInBounds_toArray, List.set_cons_zero, List.set_cons_succ]
          refine take_put (i := 3) (d := 23) (oi := _) (v := ?vt3) rfl rfl (by kernel_rfl) (by kernel_rfl) (by kernel_rfl) (fun _ _ _ h => h) (Or.inl ⟨by rfl, ?yt3⟩) hHeld ?rt3
          case yt3 => (intro w hSw; (try dsimp only at hSw); go_simp; try with_reducible rfl)
          simp only [Act.put, List.setIfInBounds_toArray, List.set_cons_zero, List.set_cons_succ]
          refine take_put (i := 4) (d := 24) (oi := _) (v := ?vt4) rfl rfl (by kernel_rfl) (by kernel_rfl) (by kernel_rfl) (fun _ _ _ h => h) (Or.inl ⟨by rfl, ?yt4⟩) hHeld ?rt4
          case yt4 => (intro w hSw; (try dsimp only at hSw); go_simp; try with_reducible rfl)
          simp only [Act.put, List.setIfInBounds_toArray, List.set_cons_zero, List.set_cons_succ]
          refine take_put (i := 5) (d := 25) (oi := _) (v := ?vt5) rfl rfl (by kernel_rfl) (by kernel_rfl) (by kernel_rfl) (fun _ _ _ h => h) (Or.inl ⟨by rfl, ?yt5⟩) hHeld ?rt5
          case yt5 => (intro w hSw; (try dsimp only at hSw); go_simp; try with_reducible rfl)
          simp only [Act.put, List.setIfInBounds_toArray, List.set_cons_zero, List.set_cons_succ]
          refine take_put (i := 6) (d := 26) (oi := _) (v := ?vt6) rfl rfl (by kernel_rfl) (by kernel_rfl) (by kernel_rfl) (fun _ _ _ h => h) (Or.inl ⟨by rfl, ?yt6⟩) hHeld ?rt6
          case yt6 => (intro w hSw; (try dsimp only at hSw); go_simp; try with_reducible rfl)
          simp only [Act.put, List.setIfInBounds_toArray, List.set_cons_zero, List.set_cons_succ]
          refine wpAnyH_ready (rs := [7]) (by kernel_rfl) (by simp) (AllReadyH.cons (o := _) rfl (fun K hK => ?_) AllReadyH.nil)
          go_simp
          refine HCS.out.mono ?_
          rintro e w6 ⟨c, b, rfl, b6, rfl, rfl, k6, hM6⟩
          have HB6 := Lib.hid b6
          have HK6 := Lib.hid k6
          clear k6
          (try dsimp only)
          refine hK.out _ _ (show Ab w0 w6 from b6) (fun hHeld => ?_)
          clear hK K
          refine take_put (i := 8) (d := 19) (oi := _) (v := ?vt8) rfl rfl (by kernel_rfl) (by kernel_rfl) (by kernel_rfl) (fun _ _ _ h => h) (Or.inl ⟨by rfl, ?yt8⟩) hHeld ?rt8
          case yt8 => (intro w hSw; (try dsimp only at hSw); go_simp; try with_reducible rfl)
          simp only [Act.put, List.setIfInBounds_toArray, List.set_cons_zero, List.set_cons_succ]
          refine take_put (i := 9) (d := 28) (oi := _) (v := ?vt9) rfl rfl (by kernel_rfl) (by kernel_rfl) (by kernel_rfl) (fun _ _ _ h => h) (Or.inl ⟨by rfl, ?yt9⟩) hHeld ?rt9
          case yt9 => (intro w hSw; (try dsimp only at hSw); go_simp; try with_reducible rfl)
          simp only [Act.put, List.setIfInBounds_toArray, List.set_cons_zero, List.set_cons_succ]
          refine take_put (i := 10) (d := 29) (oi := _) (v := ?vt10) rfl rfl (by kernel_rfl) (by kernel_rfl) (by kernel_rfl) (fun _ _ _ h => h) (Or.inl ⟨by rfl, ?yt10⟩) hHeld ?rt10
          case yt10 => (intro w hSw; (try dsimp only at hSw); go_simp; try with_reducible rfl)
          simp only [Act.put, List.setIfInBounds_toArray, List.set_cons_zero, List.set_cons_succ]
          refine take_put (i := 11) (d := 9) (oi := _) (v := ?vt11) rfl rfl (by kernel_rfl) (by kernel_rfl) (by kernel_rfl) (fun _ _ _ h => h) (Or.inl ⟨by rfl, ?yt11⟩) hHeld ?rt11
          case yt11 => (intro w hSw; (try dsimp only at hSw); go_simp; try with_reducible rfl)
          simp only [Act.put, List.setIfInBounds_toArray, List.set_cons_zero, List.set_cons_succ]
          refine take_put (i := 12) (d := 10) (oi := _) (v := ?vt12) rfl rfl (by kernel_rfl) (by kernel_rfl) (by kernel_rfl) (fun _ _ _ h => h) (Or.inl ⟨by rfl, ?yt12⟩) hHeld ?rt12
          case yt12 => (intro w hSw; (try dsimp only at hSw); go_simp; try with_reducible rfl)
          simp only [Act.put, List.setIfInBounds_toArray, List.set_cons_zero, List.set_cons_succ]
          refine wpAnyH_done (by kernel_rfl) ?_ _
          clear hHeld b6 HBW
          go_wp2
          go_ret2
          exact ⟨_, _, rfl, HB6.out, rfl, rfl, HK6.out, hM6⟩
    · have hq := HR.out
      have h1 := HL.out
      have h2 := HL'.out
      have h3 := HM.out
      rw [cmpL_end (by rw [List.length_drop, List.length_drop]; omega), List.length_drop, List.length_drop, sgn_sub (by omega) (by omega), ← h1, ← h2] at hq
      subst hq
      have i3 : ¬ (j : Int) < (mn : Int) := by omega
      clear h1 h2 h3 HR
      go_wp2_with (go_at_call 62; refine (cint_any _ _ _).mono ?_; rintro e w1 ⟨rfl, rfl⟩)
      go_ret2
      exact ⟨_, _, rfl, HB.out, rfl, rfl, HK.out, hM⟩

set_option maxRecDepth 100000 in
set_option maxHeartbeats 8000000 in
theorem values_any : ∀ (n k : Nat) (w0 : World), w0.heap.size ≤ k → ValOk n k w0 := by
  intro n
  induction n with
  | zero => intro k w0 _ x y t u pa oa pb ob L w hx; exact hx.elim
  | succ n ih =>
    intro k w0 hk0 x y t u pa oa pb ob L w hx hy hA hpa hB hpb hb hk hL
    obtain ⟨my, hy⟩ := hy
    cases my with
    | zero => exact hy.elim
    | succ my =>
    have IH := Lib.hid (ih k w0 hk0)
    obtain ⟨r, hr⟩ : ∃ r, cmpV t u L = r := ⟨_, rfl⟩
    rw [hr]
    cases L with
    | zero =>
      rw [cmpV_zero] at hr
      subst hr
      have c0 := hk.cell
      have HB0 := Lib.hid hb
      clear hk hb hx hy hA hB IH ih
      go_enter Try.func41, Try.ntmps41
      go_wp2
      go_ret2
      exact ⟨_, _, rfl, HB0.out, rfl, rfl⟩
    | succ M =>
    rw [cmpV_is] at hr
    obtain ⟨e1, e2, e3, e4, e5, hBx, l, hl, hll, hlt⟩ := hx
    obtain ⟨d1, d2, d3, d4, d5, hBy, l', hl', hll', hlt'⟩ := hy
    obtain ⟨xk, xc, xs, xst, iv, kv⟩ := x
    obtain ⟨yk, yc, ys, yst, iv', kv'⟩ := y
    simp only at e1 e2 e3 e4 d1 d2 d3 d4 e5 d5 hl hl'
    rw [← e1, ← d1, ← e2, ← e3, ← e4, ← d2, ← d3, ← d4] at hr
    have HR := Lib.hid hr
    have hM : M ≤ 4096 := by omega
    have hcell := fun wx (h : Below w0.heap.size w0 wx) => hA.on hpa h
    have hcell' := fun wx (h : Below w0.heap.size w0 wx) => hB.on hpb h
    have HC := Lib.hid hcell
    have HC' := Lib.hid hcell'
    have hkc := fun wx (h : Below w0.heap.size w0 wx) => kcmp_any kv kv' t.keys u.keys wx (e5.on h) (d5.on h)
    have HKC := Lib.hid hkc
    have hic := fun wx (h : Below w0.heap.size w0 wx) (h' : Wk wx k M) => items_any n k w0 IH.out iv iv' l l' t.items u.items hl hl' hll hll' hlt (fun j y z h1 h2 => ⟨my, hlt' j y z h1 h2⟩) M wx h h' hM
    have HIC := Lib.hid hic
    obtain ⟨ao, n1, cap, rfl⟩ := hl.form'
    obtain ⟨ao', n2, cap', rfl⟩ := hl'.form'
    obtain ⟨ko, n3, kcap, rfl⟩ := e5.form'
    obtain ⟨ko', n4, kcap', rfl⟩ := d5.form'
    have hkx : -9223372036854775808 ≤ xk ∧ xk < 9223372036854775808 := hBx.1
    have hky : -9223372036854775808 ≤ yk ∧ yk < 9223372036854775808 := hBy.1
    have HB1 := Lib.hid (hb.setCell (p := ⟨k, 0, none⟩) hk0 (.int .i64 (M : Nat)))
    have HK1 := Lib.hid (hk.set M)
    have c0 := hk.cell
    have f0 := hk.free
    have i1 : ((M : Int) + 1 - 1) = (M : Int) := by omega
    have i2 : ((M : Int) + 1 == 0) = false := by rw [beq_eq_false_iff_ne]; omega
    clear hr ih hcell hcell' hkc hic e1 e2 e3 e4 e5 d1 d2 d3 d4 d5 hBx hBy hl hl' hll hll' hlt hlt' hA hB hb hk
    go_enter Try.func41, Try.ntmps41
    go_upto_region 4 with (fail)
    obtain ⟨wr, hwr⟩ : ∃ wr, w.setCell ⟨k, 0, none⟩ (.int .i64 (M : Nat)) = wr := ⟨_, rfl⟩
    rw [hwr] at HB1 HK1 ⊢
    clear hwr c0 f0 i1 i2
    obtain ⟨x0, x1, x2, x3, x4, x5⟩ := HC.out _ HB1.out
    obtain ⟨y0, y1, y2, y3, y4, y5⟩ := HC'.out _ HB1.out
    simp only at x0 x1 x2 x3 x4 x5 y0 y1 y2 y3 y4 y5
    obtain ⟨K, hK⟩ : ∃ K, rk xk = K := ⟨_, rfl⟩
    obtain ⟨K', hK'⟩ : ∃ K, rk yk = K := ⟨_, rfl⟩
    have hrk := fun w => (orank_any xk w).mono fun _ _ h => And.intro h.1 h.2.symm
    have hrk' := fun w => (orank_any yk w).mono fun _ _ h => And.intro h.1 h.2.symm
    have hcp := fun w => (cint_any K K' w).mono fun _ _ h => And.intro h.1 h.2.symm
    rw [hK] at hrk HR
    rw [hK'] at hrk' HR
    by_cases hkk : K = K'
    case neg =>
      have h0 : ¬ sgn K K' = 0 := by unfold sgn; split; · decide
                                     split; · decide
                                     omega
      have hq := HR.out
      rw [if_neg hkk] at hq
      obtain ⟨c, hc⟩ : ∃ c, sgn K K' = c := ⟨_, rfl⟩
      rw [hc] at hq h0 hcp
      subst hq
      have h0b : (c == 0) = false := by simpa using h0
      have h0c : (c != 0) = true := by simpa using h0
      clear hc hK hK' HR HKC HIC IH HC HC'
      go_wp2_with (first | (go_at_call 62; refine (hcp _).mono ?_; rintro e w2 ⟨rfl, rfl⟩) | (go_at_call 61; refine (hrk _).mono ?_; rintro e w2 ⟨rfl, rfl⟩) | (go_at_call 61; refine (hrk' _).mono ?_; rintro e w2 ⟨rfl, rfl⟩))
      go_ret2
      exact ⟨_, _, rfl, HB1.out, rfl, rfl, HK1.out, hM⟩
    subst hkk
    rw [show sgn K K = 0 by unfold sgn; rw [if_neg (by omega), if_neg (by omega)]] at hcp
    rw [if_pos rfl] at HR
    go_upto_region 8 with (first | (go_at_call 62; refine (hcp _).mono ?_; rintro e w2 ⟨rfl, rfl⟩) | (go_at_call 61; refine (hrk _).mono ?_; rintro e w2 ⟨rfl, rfl⟩) | (go_at_call 61; refine (hrk' _).mono ?_; rintro e w2 ⟨rfl, rfl⟩))
    clear hrk hrk' hcp
    by_cases k3 : xk = 3
    · subst k3
      obtain rfl : K = 3 := by rw [← hK]; decide
      have hq := HR.out
      rw [if_pos rfl] at hq
      subst hq
      clear HR HKC HIC IH HC HC' hK hK'
      go_upto_region 10 with (fail)
      have hS3 : Sx wr.heap.size wr [(⟨pa, oa + 1, none⟩, (.int .i64 xc)), (⟨pa, oa + 2, none⟩, (.int .i64 xs)), (⟨pb, ob + 1, none⟩, (.int .i64 yc)), (⟨pb, ob + 2, none⟩, (.int .i64 ys))] (wr) := by
        refine ⟨Below.refl _ _, ?_⟩
        intro t ht
        simp only [List.mem_cons, List.not_mem_nil, or_false] at ht
        rcases ht with rfl | rfl | rfl | rfl
        · exact Sx.mk (x1)
        · exact Sx.mk (x2)
        · exact Sx.mk (y1)
        · exact Sx.mk (y2)
      obtain ⟨fx3, hfx3⟩ : ∃ fx : List (Addr × Value), [(⟨pa, oa + 1, none⟩, (.int .i64 xc)), (⟨pa, oa + 2, none⟩, (.int .i64 xs)), (⟨pb, ob + 1, none⟩, (.int .i64 yc)), (⟨pb, ob + 2, none⟩, (.int .i64 ys))] = fx := ⟨_, rfl⟩
      rw [hfx3] at hS3
      have u3_0 := Sx.get (B := wr.heap.size) (o := wr) (fx := fx3) (p := ⟨pa, oa + 1, none⟩) (v := (.int .i64 xc)) (by subst hfx3; simp)
      have u3_1 := Sx.get (B := wr.heap.size) (o := wr) (fx := fx3) (p := ⟨pa, oa + 2, none⟩) (v := (.int .i64 xs)) (by subst hfx3; simp)
      have u3_2 := Sx.get (B := wr.heap.size) (o := wr) (fx := fx3) (p := ⟨pb, ob + 1, none⟩) (v := (.int .i64 yc)) (by subst hfx3; simp)
      have u3_3 := Sx.get (B := wr.heap.size) (o := wr) (fx := fx3) (p := ⟨pb, ob + 2, none⟩) (v := (.int .i64 ys)) (by subst hfx3; simp)
      clear hfx3
      have HS3 := Lib.hid hS3
      clear hS3
      clear x0 x1 x2 x3 x4 x5 y0 y1 y2 y3 y4 y5
      go_region_held3 (Sx wr.heap.size wr fx3) (first | assumption | exact HS3.out.drew | exact Sx.call (by assumption) (by assumption) (Nat.le_refl _))
        (first
          | (go_at_call 63; refine (ncmp_any _ _ _ _ _).mono ?_; rintro e w' ⟨rfl, bk⟩)
          | (go_at_call 64; refine (counted_any _ _ _).mono ?_; rintro e w' ⟨rfl, bk⟩))
      rename_i HF
      have HF' := Lib.hid HF
      clear HF
      go_wp2
      go_ret2
      exact ⟨_, _, rfl, HB1.out.trans (HF'.out.1.mono HB1.out.size), rfl, rfl, HK1.out.on HF'.out.1, hM⟩
    by_cases k4 : xk = 4
    · subst k4
      obtain rfl : K = 4 := by rw [← hK]; decide
      have hq := HR.out
      rw [if_neg (by decide), if_pos (by decide)] at hq
      subst hq
      clear HR HKC HIC IH HC HC' hK hK'
      go_upto_region 13 with (fail)
      go_quiet ((go_at_call 65; exact Calls.quiet_of_same (scmp_any _ _ _)))
      go_wp2
      go_ret2
      exact ⟨_, _, rfl, Jv.bN HB1.out _, rfl, rfl, HK1.out.on (Jv.bN (Below.refl _ _) _), hM⟩
    by_cases k7 : xk = 7
    · subst k7
      obtain rfl : K = 7 := by rw [← hK]; decide
      have hq := HR.out
      rw [if_neg (by decide), if_pos (by decide)] at hq
      subst hq
      clear HR HKC HIC IH HC HC' hK hK'
      go_upto_region 13 with (fail)
      go_quiet ((go_at_call 65; exact Calls.quiet_of_same (scmp_any _ _ _)))
      go_wp2
      go_ret2
      exact ⟨_, _, rfl, Jv.bN HB1.out _, rfl, rfl, HK1.out.on (Jv.bN (Below.refl _ _) _), hM⟩
    by_cases k5 : xk = 5
    · subst k5
      obtain rfl : K = 5 := by rw [← hK]; decide
      have hq := HR.out
      rw [if_neg (by decide), if_neg (by decide), if_pos rfl] at hq
      subst hq
      clear HR HKC IH hK hK'
      go_upto_region 15 with (fail)
      have HIC := Lib.hid (HIC.out wr.drew HB1.out.drew (HK1.out.on (Below.refl _ _).drew))
      have HBW := HB1
      have hx4 : ∀ wx, Ab w0 wx → wx.cell? ⟨pa, oa + 4, none⟩ = some (.slice ao n1 cap) := fun wx h => (HC.out wx h).2.2.2.2.1
      have hy4 : ∀ wx, Ab w0 wx → wx.cell? ⟨pb, ob + 4, none⟩ = some (.slice ao' n2 cap') := fun wx h => (HC'.out wx h).2.2.2.2.1
      clear x0 x1 x2 x3 x4 x5 y0 y1 y2 y3 y4 y5
      refine wp_region_held_drew (S := Ab w0) (by kernel_rfl) (show Ab w0 wr.drew from HBW.out.drew) (fun hHeld => ?_)
      refine take_put (i := 0) (d := 66) (oi := _) (v := ?va0) rfl rfl (by kernel_rfl) (by kernel_rfl) (by kernel_rfl) (fun _ _ _ h => h) (Or.inl ⟨by rfl, ?ya0⟩) hHeld ?ra0
      case ya0 => (intro w hSw; (try dsimp only at hSw); go_simp; try with_reducible rfl)
      simp only [Act.put, List.setIfInBounds_toArray, List.set_cons_zero, List.set_cons_succ]
      refine take_put (i := 1) (d := 67) (oi := _) (v := ?va1) rfl rfl (by kernel_rfl) (by kernel_rfl) (by kernel_rfl) (fun _ _ _ h => h) (Or.inl ⟨by rfl, ?ya1⟩) hHeld ?ra1
      case ya1 => (intro w hSw; (try dsimp only at hSw); go_simp; try with_reducible rfl)
      simp only [Act.put, List.setIfInBounds_toArray, List.set_cons_zero, List.set_cons_succ]
      refine take_put (i := 2) (d := 68) (oi := _) (v := ?va2) rfl rfl (by kernel_rfl) (by kernel_rfl) (by kernel_rfl) (fun _ _ _ h => h) (Or.inl ⟨by rfl, ?ya2⟩) hHeld ?ra2
      case ya2 => (intro w hSw; (try dsimp only at hSw); go_simp; try with_reducible rfl)
      simp only [Act.put, List.setIfInBounds_toArray, List.set_cons_zero, List.set_cons_succ]
      refine take_put (i := 3) (d := 69) (oi := _) (v := ?va3) rfl rfl (by kernel_rfl) (by kernel_rfl) (by kernel_rfl) (fun _ _ _ h => h) (Or.inl ⟨by rfl, ?ya3⟩) hHeld ?ra3
      case ya3 => (intro w hSw; (try dsimp only at hSw); go_simp; try with_reducible rfl)
      simp only [Act.put, List.setIfInBounds_toArray, List.set_cons_zero, List.set_cons_succ]
      refine take_put (i := 4) (d := 70) (oi := _) (v := ?va4) rfl rfl (by kernel_rfl) (by kernel_rfl) (by kernel_rfl) (fun _ _ _ h => h) (Or.inl ⟨by rfl, ?ya4⟩) hHeld ?ra4
      case ya4 => (intro w hSw; (try dsimp only at hSw); go_simp; try with_reducible rfl)
      simp only [Act.put, List.setIfInBounds_toArray, List.set_cons_zero, List.set_cons_succ]
      refine take_put (i := 5) (d := 71) (oi := _) (v := ?va5) rfl rfl (by kernel_rfl) (by kernel_rfl) (by kernel_rfl) (fun _ _ _ h => h) (Or.inl ⟨by rfl, ?ya5⟩) hHeld ?ra5
      case ya5 => (intro w hSw; (try dsimp only at hSw); go_simp; try with_reducible rfl)
      simp only [Act.put, List.setIfInBounds_toArray, List.set_cons_zero, List.set_cons_succ]
      refine take_put (i := 6) (d := 72) (oi := _) (v := ?va6) rfl rfl (by kernel_rfl) (by kernel_rfl) (by kernel_rfl) (fun _ _ _ h => h) (Or.inl ⟨by rfl, ?ya6⟩) hHeld ?ra6
      case ya6 => (intro w hSw; (try dsimp only at hSw); go_simp; try with_reducible rfl)
      simp only [Act.put, List.setIfInBounds_toArray, List.set_cons_zero, List.set_cons_succ]
      refine take_put (i := 7) (d := 73) (oi := _) (v := ?va7) rfl rfl (by kernel_rfl) (by kernel_rfl) (by kernel_rfl) (fun _ _ _ h => h) (Or.inl ⟨by rfl, ?ya7⟩) hHeld ?ra7
      case ya7 => (intro w hSw; (try dsimp only at hSw); go_simp; try with_reducible rfl)
      simp only [Act.put, List.setIfInBounds_toArray, List.set_cons_zero, List.set_cons_succ]
      refine take_put (i := 8) (d := 74) (oi := _) (v := ?va8) rfl rfl (by kernel_rfl) (by kernel_rfl) (by kernel_rfl) (fun _ _ _ h => h) (Or.inl ⟨by rfl, ?ya8⟩) hHeld ?ra8
      case ya8 => (intro w hSw; (try dsimp only at hSw); go_simp; try with_reducible rfl)
      simp only [Act.put, List.setIfInBounds_toArray, List.set_cons_zero, List.set_cons_succ]
      refine wpAnyH_ready (rs := [9]) (by kernel_rfl) (by simp) (AllReadyH.cons (o := _) rfl (fun K hK => ?_) AllReadyH.nil)
      go_simp
      refine HIC.out.mono ?_
      rintro e w6 ⟨c, b, rfl, hq6⟩
      have HQ6 := Lib.hid hq6
      (try dsimp only)
      refine hK.out _ _ (show Ab w0 w6 from hq6.1) (fun hHeld => ?_)
      clear hK K
      refine take_put (i := 10) (d := 76) (oi := _) (v := ?va10) rfl rfl (by kernel_rfl) (by kernel_rfl) (by kernel_rfl) (fun _ _ _ h => h) (Or.inl ⟨by rfl, ?ya10⟩) hHeld ?ra10
      case ya10 => (intro w hSw; (try dsimp only at hSw); go_simp; try with_reducible rfl)
      simp only [Act.put, List.setIfInBounds_toArray, List.set_cons_zero, List.set_cons_succ]
      refine take_put (i := 11) (d := 77) (oi := _) (v := ?va11) rfl rfl (by kernel_rfl) (by kernel_rfl) (by kernel_rfl) (fun _ _ _ h => h) (Or.inl ⟨by rfl, ?ya11⟩) hHeld ?ra11
      case ya11 => (intro w hSw; (try dsimp only at hSw); go_simp; try with_reducible rfl)
      simp only [Act.put, List.setIfInBounds_toArray, List.set_cons_zero, List.set_cons_succ]
      refine take_put (i := 12) (d := 6) (oi := _) (v := ?va12) rfl rfl (by kernel_rfl) (by kernel_rfl) (by kernel_rfl) (fun _ _ _ h => h) (Or.inl ⟨by rfl, ?ya12⟩) hHeld ?ra12
      case ya12 => (intro w hSw; (try dsimp only at hSw); go_simp; try with_reducible rfl)
      simp only [Act.put, List.setIfInBounds_toArray, List.set_cons_zero, List.set_cons_succ]
      refine take_put (i := 13) (d := 7) (oi := _) (v := ?va13) rfl rfl (by kernel_rfl) (by kernel_rfl) (by kernel_rfl) (fun _ _ _ h => h) (Or.inl ⟨by rfl, ?ya13⟩) hHeld ?ra13
      case ya13 => (intro w hSw; (try dsimp only at hSw); go_simp; try with_reducible rfl)
      simp only [Act.put, List.setIfInBounds_toArray, List.set_cons_zero, List.set_cons_succ]
      refine wpAnyH_done (by kernel_rfl) ?_ _
      clear hHeld hq6 HBW hx4 hy4
      go_wp2
      go_ret2
      exact ⟨_, _, rfl, HQ6.out⟩
    by_cases k6 : xk = 6
    · subst k6
      obtain rfl : K = 6 := by rw [← hK]; decide
      have hq := HR.out
      rw [if_neg (by decide), if_neg (by decide), if_neg (by decide), if_pos rfl] at hq
      obtain ⟨c, hc⟩ : ∃ c, ksC t.keys u.keys = c := ⟨_, rfl⟩
      have hkc := HKC.out
      rw [hc] at hq hkc
      have HKC := Lib.hid hkc
      clear HR IH hK hK' hkc hc
      go_upto_region 17 with (fail)
      go_cut [10] (fun v wx => v = .int .i64 c ∧ Hid (Below w0.heap.size w0 wx) ∧ Hid (Wk wx k M))
      case first =>
        as_aux_lemma =>
        go_quiet ((go_at_call 67; exact Calls.quiet_of_same (HKC.out _ (Jv.bN HB1.out _))))
        go_wp2
        go_meet
        exact ⟨rfl, Lib.hid (Jv.bN HB1.out _), Lib.hid (HK1.out.on (Jv.bN (Below.refl _ _) _))⟩
      case rest =>
      clear x0 x1 x2 x3 x4 x5 y0 y1 y2 y3 y4 y5 HB1 HK1
      obtain ⟨rfl, HB1, HK1⟩ := hcut
      by_cases h0 : c = 0
      · subst h0
        rw [if_pos rfl] at hq
        subst hq
        obtain ⟨wr, hwr⟩ : ∃ wr, wc = wr := ⟨_, rfl⟩
        rw [hwr] at HB1 HK1 ⊢
        clear hwr
        obtain ⟨x0, x1, x2, x3, x4, x5⟩ := HC.out _ HB1.out
        obtain ⟨y0, y1, y2, y3, y4, y5⟩ := HC'.out _ HB1.out
        simp only at x0 x1 x2 x3 x4 x5 y0 y1 y2 y3 y4 y5
        go_upto_region 20 with (fail)
        have HIC := Lib.hid (HIC.out wr.drew HB1.out.drew (HK1.out.on (Below.refl _ _).drew))
        have HBW := HB1
        have hx4 : ∀ wx, Ab w0 wx → wx.cell? ⟨pa, oa + 4, none⟩ = some (.slice ao n1 cap) := fun wx h => (HC.out wx h).2.2.2.2.1
        have hy4 : ∀ wx, Ab w0 wx → wx.cell? ⟨pb, ob + 4, none⟩ = some (.slice ao' n2 cap') := fun wx h => (HC'.out wx h).2.2.2.2.1
        clear x0 x1 x2 x3 x4 x5 y0 y1 y2 y3 y4 y5
        refine wp_region_held_drew (S := Ab w0) (by kernel_rfl) (show Ab w0 wr.drew from HBW.out.drew) (fun hHeld => ?_)
        refine take_put (i := 0) (d := 92) (oi := _) (v := ?vo0) rfl rfl (by kernel_rfl) (by kernel_rfl) (by kernel_rfl) (fun _ _ _ h => h) (Or.inl ⟨by rfl, ?yo0⟩) hHeld ?ro0
        case yo0 => (intro w hSw; (try dsimp only at hSw); go_simp; try with_reducible rfl)
        simp only [Act.put, List.setIfInBounds_toArray, List.set_cons_zero, List.set_cons_succ]
        refine take_put (i := 1) (d := 93) (oi := _) (v := ?vo1) rfl rfl (by kernel_rfl) (by kernel_rfl) (by kernel_rfl) (fun _ _ _ h => h) (Or.inl ⟨by rfl, ?yo1⟩) hHeld ?ro1
        case yo1 => (intro w hSw; (try dsimp only at hSw); go_simp; try with_reducible rfl)
        simp only [Act.put, List.setIfInBounds_toArray, List.set_cons_zero, List.set_cons_succ]
        refine take_put (i := 2) (d := 94) (oi := _) (v := ?vo2) rfl rfl (by kernel_rfl) (by kernel_rfl) (by kernel_rfl) (fun _ _ _ h => h) (Or.inl ⟨by rfl, ?yo2⟩) hHeld ?ro2
        case yo2 => (intro w hSw; (try dsimp only at hSw); go_simp; try with_reducible rfl)
        simp only [Act.put, List.setIfInBounds_toArray, List.set_cons_zero, List.set_cons_succ]
        refine take_put (i := 3) (d := 95) (oi := _) (v := ?vo3) rfl rfl (by kernel_rfl) (by kernel_rfl) (by kernel_rfl) (fun _ _ _ h => h) (Or.inl ⟨by rfl, ?yo3⟩) hHeld ?ro3
        case yo3 => (intro w hSw; (try dsimp only at hSw); go_simp; try with_reducible rfl)
        simp only [Act.put, List.setIfInBounds_toArray, List.set_cons_zero, List.set_cons_succ]
        refine take_put (i := 4) (d := 96) (oi := _) (v := ?vo4) rfl rfl (by kernel_rfl) (by kernel_rfl) (by kernel_rfl) (fun _ _ _ h => h) (Or.inl ⟨by rfl, ?yo4⟩) hHeld ?ro4
        case yo4 => (intro w hSw; (try dsimp only at hSw); go_simp; try with_reducible rfl)
        simp only [Act.put, List.setIfInBounds_toArray, List.set_cons_zero, List.set_cons_succ]
        refine take_put (i := 5) (d := 97) (oi := _) (v := ?vo5) rfl rfl (by kernel_rfl) (by kernel_rfl) (by kernel_rfl) (fun _ _ _ h => h) (Or.inl ⟨by rfl, ?yo5⟩) hHeld ?ro5
        case yo5 => (intro w hSw; (try dsimp only at hSw); go_simp; try with_reducible rfl)
        simp only [Act.put, List.setIfInBounds_toArray, List.set_cons_zero, List.set_cons_succ]
        refine take_put (i := 6) (d := 98) (oi := _) (v := ?vo6) rfl rfl (by kernel_rfl) (by kernel_rfl) (by kernel_rfl) (fun _ _ _ h => h) (Or.inl ⟨by rfl, ?yo6⟩) hHeld ?ro6
        case yo6 => (intro w hSw; (try dsimp only at hSw); go_simp; try with_reducible rfl)
        simp only [Act.put, List.setIfInBounds_toArray, List.set_cons_zero, List.set_cons_succ]
        refine take_put (i := 7) (d := 99) (oi := _) (v := ?vo7) rfl rfl (by kernel_rfl) (by kernel_rfl) (by kernel_rfl) (fun _ _ _ h => h) (Or.inl ⟨by rfl, ?yo7⟩) hHeld ?ro7
        case yo7 => (intro w hSw; (try dsimp only at hSw); go_simp; try with_reducible rfl)
        simp only [Act.put, List.setIfInBounds_toArray, List.set_cons_zero, List.set_cons_succ]
        refine take_put (i := 8) (d := 100) (oi := _) (v := ?vo8) rfl rfl (by kernel_rfl) (by kernel_rfl) (by kernel_rfl) (fun _ _ _ h => h) (Or.inl ⟨by rfl, ?yo8⟩) hHeld ?ro8
        case yo8 => (intro w hSw; (try dsimp only at hSw); go_simp; try with_reducible rfl)
        simp only [Act.put, List.setIfInBounds_toArray, List.set_cons_zero, List.set_cons_succ]
        refine wpAnyH_ready (rs := [9]) (by kernel_rfl) (by simp) (AllReadyH.cons (o := _) rfl (fun K hK => ?_) AllReadyH.nil)
        go_simp
        refine HIC.out.mono ?_
        rintro e w6 ⟨c, b, rfl, hq6⟩
        have HQ6 := Lib.hid hq6
        (try dsimp only)
        refine hK.out _ _ (show Ab w0 w6 from hq6.1) (fun hHeld => ?_)
        clear hK K
        refine take_put (i := 10) (d := 102) (oi := _) (v := ?vo10) rfl rfl (by kernel_rfl) (by kernel_rfl) (by kernel_rfl) (fun _ _ _ h => h) (Or.inl ⟨by rfl, ?yo10⟩) hHeld ?ro10
        case yo10 => (intro w hSw; (try dsimp only at hSw); go_simp; try with_reducible rfl)
        simp only [Act.put, List.setIfInBounds_toArray, List.set_cons_zero, List.set_cons_succ]
        refine take_put (i := 11) (d := 103) (oi := _) (v := ?vo11) rfl rfl (by kernel_rfl) (by kernel_rfl) (by kernel_rfl) (fun _ _ _ h => h) (Or.inl ⟨by rfl, ?yo11⟩) hHeld ?ro11
        case yo11 => (intro w hSw; (try dsimp only at hSw); go_simp; try with_reducible rfl)
        simp only [Act.put, List.setIfInBounds_toArray, List.set_cons_zero, List.set_cons_succ]
        refine take_put (i := 12) (d := 6) (oi := _) (v := ?vo12) rfl rfl (by kernel_rfl) (by kernel_rfl) (by kernel_rfl) (fun _ _ _ h => h) (Or.inl ⟨by rfl, ?yo12⟩) hHeld ?ro12
        case yo12 => (intro w hSw; (try dsimp only at hSw); go_simp; try with_reducible rfl)
        simp only [Act.put, List.setIfInBounds_toArray, List.set_cons_zero, List.set_cons_succ]
        refine take_put (i := 13) (d := 7) (oi := _) (v := ?vo13) rfl rfl (by kernel_rfl) (by kernel_rfl) (by kernel_rfl) (fun _ _ _ h => h) (Or.inl ⟨by rfl, ?yo13⟩) hHeld ?ro13
        case yo13 => (intro w hSw; (try dsimp only at hSw); go_simp; try with_reducible rfl)
        simp only [Act.put, List.setIfInBounds_toArray, List.set_cons_zero, List.set_cons_succ]
        refine wpAnyH_done (by kernel_rfl) ?_ _
        clear hHeld hq6 HBW hx4 hy4
        go_wp2
        go_ret2
        exact ⟨_, _, rfl, HQ6.out⟩
      · rw [if_neg h0] at hq
        subst hq
        have h0b : (c == 0) = false := by simpa using h0
        have h0c : (c != 0) = true := by simpa using h0
        go_wp2
        go_ret2
        exact ⟨_, _, rfl, HB1.out, rfl, rfl, HK1.out, hM⟩
    have hq := HR.out
    rw [if_neg k3, if_neg (by omega), if_neg k5, if_neg k6] at hq
    subst hq
    have hKn : ∀ m : Int, (m = 3 ∨ m = 4 ∨ m = 5 ∨ m = 6 ∨ m = 7) → (K == m) = false := fun m hm => by
      rw [beq_eq_false_iff_ne, ← hK]
      unfold rk
      split <;> omega
    have g3 := hKn 3 (by decide)
    have g4 := hKn 4 (by decide)
    have g5 := hKn 5 (by decide)
    have g6 := hKn 6 (by decide)
    have g7 := hKn 7 (by decide)
    clear HR HKC HIC IH HC HC' hK hK' hKn
    go_wp2
    go_ret2
    exact ⟨_, _, rfl, HB1.out, rfl, rfl, HK1.out, hM⟩
end Od
end Go.Proofs.Ytkmfoclhhnhkdaa
