/- keyholelaw09.lives answers true: node.Mark of null, node.Array of one node. -/
import Derived.Test.YtelladgeehlkpaaNdRaise
import Derived.Test.YtelladgeehlkpaaPj
import Derived.Deep.RegionHeld3
namespace Go.Proofs.Ytelladgeehlkpaa
open Go.RowKit
namespace Nd
open _root_.Go.Proofs.Ytelladgeehlkpaa.Nm _root_.Go.Proofs.Ytelladgeehlkpaa.Jv
open _root_.Go.Proofs.Ytelladgeehlkpaa.Lv (Ord IsJ inI TabAt SLat sz sr sj se sbo stp sn sp LatAt bottom_any sort_any new_sort sz_le sz_pos sr_ord sr_j sort_good)
set_option maxRecDepth 100000 in
set_option maxHeartbeats 2000000 in
theorem turn_nil (f1 f2 : Value) (w : World) :
    Calls Try.prog 51 #[.slice none 0 0, f1, f2] w fun e w' => e = .returned (.slice none 0 0) ∧ w = w' := by
  go_enter Try.func51, Try.ntmps51
  go_wp2_with fail
  go_ret
  exact ⟨rfl, rfl⟩
set_option maxRecDepth 100000 in
set_option maxHeartbeats 4000000 in
theorem mark1_zero (vb lb : Nat) (low : Int) (w : World) (hv : Vb w vb #[.int .i64 0, .int .i64 0, .int .i64 0, .string ⟨#[]⟩, .slice none 0 0, .slice none 0 0]) (hl : w.cell? ⟨lb, 0, none⟩ = some (.int .i64 low)) :
    Calls Try.prog 49 #[.pointer (some ⟨vb, 0, none⟩), .slice none 0 0, .pointer (some ⟨lb, 0, none⟩)] w fun e w' => e = .returned (nV low low 0 0 0 ⟨#[]⟩ (.slice none 0 0) (.slice none 0 0)) ∧ Below w.heap.size w w' := by
  obtain ⟨z0, z1, z2, z3, z4, z5⟩ := hv.six
  have hvl := hv.lt
  have hll : lb < w.heap.size := World.block_lt_of_cell? w _ hl
  obtain ⟨w1, hw1⟩ : ∃ w1, w.alloc (Obj.cells #[.int .i64 0, .int .i64 0, .int .i64 0, .int .i64 0, .int .i64 0, .string ⟨#[]⟩, .slice none 0 0, .slice none 0 0] 27) = w1 := ⟨_, rfl⟩
  have hB1 : Below w.heap.size w w1 := by rw [← hw1]; exact bA1 _ _
  have hR1 : Wb w1 w.heap.size #[.int .i64 0, .int .i64 0, .int .i64 0, .int .i64 0, .int .i64 0, .string ⟨#[]⟩, .slice none 0 0, .slice none 0 0] := by rw [← hw1]; exact Wb.new _ _
  have u : ∀ (b o : Nat) (v : Value), b < w.heap.size → w.cell? ⟨b, o, none⟩ = some v → ∀ wx, Below w.heap.size w wx → wx.cell? ⟨b, o, none⟩ = some v := fun b o v hb h wx hx => (hx.cell (p := ⟨b, o, none⟩) hb).trans h
  have u0 := u _ _ _ hvl z0
  have u1 := u _ _ _ hvl z1
  have u2 := u _ _ _ hvl z2
  have u3 := u _ _ _ hvl z3
  have u4 := u _ _ _ hvl z4
  have u5 := u _ _ _ hvl z5
  have u6 := u _ _ _ hll hl
  clear z0 z1 z2 z3 z4 z5 u hv hl
  go_enter Try.func49, Try.ntmps49
  go_wp2_with fail
  try rw [hw1]
  clear hw1
  obtain ⟨y0, y1, y2, y3, y4, y5, y6, y7⟩ := hR1.eight
  have hf := fun i => hR1.free i
  refine wp_region_held_drew (S := fun wx => Below w.heap.size w wx) (by kernel_rfl) hB1.drew (fun hHeld => ?_)
  refine take_put (i := 0) (d := 6) (oi := _) (v := ?va0) rfl rfl (by kernel_rfl) (by kernel_rfl) (by kernel_rfl) (fun _ _ _ h => h) (Or.inl ⟨by rfl, ?ya0⟩) hHeld ?ra0
  case ya0 => (intro w hSw; (try dsimp only at hSw); go_simp; try with_reducible rfl)
  simp only [Act.put, List.setIfInBounds_toArray, List.set_cons_zero, List.set_cons_succ]
  refine take_put (i := 1) (d := 7) (oi := _) (v := ?va1) rfl rfl (by kernel_rfl) (by kernel_rfl) (by kernel_rfl) (fun _ _ _ h => h) (Or.inl ⟨by rfl, ?ya1⟩) hHeld ?ra1
  case ya1 => (intro w hSw; (try dsimp only at hSw); go_simp; try with_reducible rfl)
  simp only [Act.put, List.setIfInBounds_toArray, List.set_cons_zero, List.set_cons_succ]
  refine take_put (i := 2) (d := 8) (oi := _) (v := ?va2) rfl rfl (by kernel_rfl) (by kernel_rfl) (by kernel_rfl) (fun _ _ _ h => h) (Or.inl ⟨by rfl, ?ya2⟩) hHeld ?ra2
  case ya2 => (intro w hSw; (try dsimp only at hSw); go_simp; try with_reducible rfl)
  simp only [Act.put, List.setIfInBounds_toArray, List.set_cons_zero, List.set_cons_succ]
  refine take_put (i := 3) (d := 9) (oi := _) (v := ?va3) rfl rfl (by kernel_rfl) (by kernel_rfl) (by kernel_rfl) (fun _ _ _ h => h) (Or.inl ⟨by rfl, ?ya3⟩) hHeld ?ra3
  case ya3 => (intro w hSw; (try dsimp only at hSw); go_simp; try with_reducible rfl)
  simp only [Act.put, List.setIfInBounds_toArray, List.set_cons_zero, List.set_cons_succ]
  refine take_put (i := 4) (d := 10) (oi := _) (v := ?va4) rfl rfl (by kernel_rfl) (by kernel_rfl) (by kernel_rfl) (fun _ _ _ h => h) (Or.inl ⟨by rfl, ?ya4⟩) hHeld ?ra4
  case ya4 => (intro w hSw; (try dsimp only at hSw); go_simp; try with_reducible rfl)
  simp only [Act.put, List.setIfInBounds_toArray, List.set_cons_zero, List.set_cons_succ]
  refine take_put (i := 5) (d := 11) (oi := _) (v := ?va5) rfl rfl (by kernel_rfl) (by kernel_rfl) (by kernel_rfl) (fun _ _ _ h => h) (Or.inl ⟨by rfl, ?ya5⟩) hHeld ?ra5
  case ya5 => (intro w hSw; (try dsimp only at hSw); go_simp; try with_reducible rfl)
  simp only [Act.put, List.setIfInBounds_toArray, List.set_cons_zero, List.set_cons_succ]
  refine take_put (i := 6) (d := 12) (oi := _) (v := ?va6) rfl rfl (by kernel_rfl) (by kernel_rfl) (by kernel_rfl) (fun _ _ _ h => h) (Or.inl ⟨by rfl, ?ya6⟩) hHeld ?ra6
  case ya6 => (intro w hSw; (try dsimp only at hSw); go_simp; try with_reducible rfl)
  simp only [Act.put, List.setIfInBounds_toArray, List.set_cons_zero, List.set_cons_succ]
  refine take_put (i := 7) (d := 13) (oi := _) (v := ?va7) rfl rfl (by kernel_rfl) (by kernel_rfl) (by kernel_rfl) (fun _ _ _ h => h) (Or.inl ⟨by rfl, ?ya7⟩) hHeld ?ra7
  case ya7 => (intro w hSw; (try dsimp only at hSw); go_simp; try with_reducible rfl)
  simp only [Act.put, List.setIfInBounds_toArray, List.set_cons_zero, List.set_cons_succ]
  refine take_put (i := 8) (d := 14) (oi := _) (v := ?va8) rfl rfl (by kernel_rfl) (by kernel_rfl) (by kernel_rfl) (fun _ _ _ h => h) (Or.inl ⟨by rfl, ?ya8⟩) hHeld ?ra8
  case ya8 => (intro w hSw; (try dsimp only at hSw); go_simp; try with_reducible rfl)
  simp only [Act.put, List.setIfInBounds_toArray, List.set_cons_zero, List.set_cons_succ]
  refine take_put (i := 9) (d := 15) (oi := _) (v := ?va9) rfl rfl (by kernel_rfl) (by kernel_rfl) (by kernel_rfl) (fun _ _ _ h => h) (Or.inl ⟨by rfl, ?ya9⟩) hHeld ?ra9
  case ya9 => (intro w hSw; (try dsimp only at hSw); go_simp; try with_reducible rfl)
  simp only [Act.put, List.setIfInBounds_toArray, List.set_cons_zero, List.set_cons_succ]
  refine take_put (i := 10) (d := 16) (oi := _) (v := ?va10) rfl rfl (by kernel_rfl) (by kernel_rfl) (by kernel_rfl) (fun _ _ _ h => h) (Or.inl ⟨by rfl, ?ya10⟩) hHeld ?ra10
  case ya10 => (intro w hSw; (try dsimp only at hSw); go_simp; try with_reducible rfl)
  simp only [Act.put, List.setIfInBounds_toArray, List.set_cons_zero, List.set_cons_succ]
  refine take_put (i := 11) (d := 17) (oi := _) (v := ?va11) rfl rfl (by kernel_rfl) (by kernel_rfl) (by kernel_rfl) (fun _ _ _ h => h) (Or.inl ⟨by rfl, ?ya11⟩) hHeld ?ra11
  case ya11 => (intro w hSw; (try dsimp only at hSw); go_simp; try with_reducible rfl)
  simp only [Act.put, List.setIfInBounds_toArray, List.set_cons_zero, List.set_cons_succ]
  refine take_put (i := 12) (d := 18) (oi := _) (v := ?va12) rfl rfl (by kernel_rfl) (by kernel_rfl) (by kernel_rfl) (fun _ _ _ h => h) (Or.inl ⟨by rfl, ?ya12⟩) hHeld ?ra12
  case ya12 => (intro w hSw; (try dsimp only at hSw); go_simp; try with_reducible rfl)
  simp only [Act.put, List.setIfInBounds_toArray, List.set_cons_zero, List.set_cons_succ]
  refine take_put (i := 13) (d := 19) (oi := _) (v := ?va13) rfl rfl (by kernel_rfl) (by kernel_rfl) (by kernel_rfl) (fun _ _ _ h => h) (Or.inl ⟨by rfl, ?ya13⟩) hHeld ?ra13
  case ya13 => (intro w hSw; (try dsimp only at hSw); go_simp; try with_reducible rfl)
  simp only [Act.put, List.setIfInBounds_toArray, List.set_cons_zero, List.set_cons_succ]
  refine take_put (i := 14) (d := 20) (oi := _) (v := ?va14) rfl rfl (by kernel_rfl) (by kernel_rfl) (by kernel_rfl) (fun _ _ _ h => h) (Or.inl ⟨by rfl, ?ya14⟩) hHeld ?ra14
  case ya14 => (intro w hSw; (try dsimp only at hSw); go_simp; try with_reducible rfl)
  simp only [Act.put, List.setIfInBounds_toArray, List.set_cons_zero, List.set_cons_succ]
  refine take_put (i := 15) (d := 21) (oi := _) (v := ?va15) rfl rfl (by kernel_rfl) (by kernel_rfl) (by kernel_rfl) (fun _ _ _ h => h) (Or.inl ⟨by rfl, ?ya15⟩) hHeld ?ra15
  case ya15 => (intro w hSw; (try dsimp only at hSw); go_simp; try with_reducible rfl)
  simp only [Act.put, List.setIfInBounds_toArray, List.set_cons_zero, List.set_cons_succ]
  refine take_put (i := 16) (d := 22) (oi := _) (v := ?va16) rfl rfl (by kernel_rfl) (by kernel_rfl) (by kernel_rfl) (fun _ _ _ h => h) (Or.inl ⟨by rfl, ?ya16⟩) hHeld ?ra16
  case ya16 => (intro w hSw; (try dsimp only at hSw); go_simp; try with_reducible rfl)
  simp only [Act.put, List.setIfInBounds_toArray, List.set_cons_zero, List.set_cons_succ]
  refine take_put (i := 17) (d := 23) (oi := _) (v := ?va17) rfl rfl (by kernel_rfl) (by kernel_rfl) (by kernel_rfl) (fun _ _ _ h => h) (Or.inl ⟨by rfl, ?ya17⟩) hHeld ?ra17
  case ya17 => (intro w hSw; (try dsimp only at hSw); go_simp; try with_reducible rfl)
  simp only [Act.put, List.setIfInBounds_toArray, List.set_cons_zero, List.set_cons_succ]
  refine take_put (i := 18) (d := 24) (oi := _) (v := ?va18) rfl rfl (by kernel_rfl) (by kernel_rfl) (by kernel_rfl) (fun _ _ _ h => h) (Or.inl ⟨by rfl, ?ya18⟩) hHeld ?ra18
  case ya18 => (intro w hSw; (try dsimp only at hSw); go_simp; try with_reducible rfl)
  simp only [Act.put, List.setIfInBounds_toArray, List.set_cons_zero, List.set_cons_succ]
  refine take_put (i := 19) (d := 25) (oi := _) (v := ?va19) rfl rfl (by kernel_rfl) (by kernel_rfl) (by kernel_rfl) (fun _ _ _ h => h) (Or.inl ⟨by rfl, ?ya19⟩) hHeld ?ra19
  case ya19 => (intro w hSw; (try dsimp only at hSw); go_simp; try with_reducible rfl)
  simp only [Act.put, List.setIfInBounds_toArray, List.set_cons_zero, List.set_cons_succ]
  refine wpAnyH_ready (rs := [20]) (by kernel_rfl) (by simp) (AllReadyH.cons (o := _) rfl (fun K hK => ?_) AllReadyH.nil)
  go_simp
  (try dsimp only)
  refine hK.out _ _ (b8 hB1 (Nat.le_refl _) _ _ _ _ _ _ _ _).drew (fun hHeld => ?_)
  clear hK K
  refine wpAnyH_done (by kernel_rfl) ?_ _
  go_wp2_with fail
  have HV := hR1.put (.int .i64 low) (.int .i64 low) (.int .i64 0) (.int .i64 0) (.int .i64 0) (.string ⟨#[]⟩) (.slice none 0 0) (.slice none 0 0)
  obtain ⟨v0, v1, v2, v3, v4, v5, v6, v7⟩ := HV.eight
  clear HV y0 y1 y2 y3 y4 y5 y6 y7 hf u0 u1 u2 u3 u4 u5 u6
  unfold nV
  simp [bodyPost, results, Try.results49, go_sem, v0, v1, v2, v3, v4, v5, v6, v7]
  exact hHeld
set_option maxRecDepth 100000 in
set_option maxHeartbeats 8000000 in
theorem mark_any (g k a : Nat) (w : World) (hL : SLat w g k) (ha : a < sz k) :
    Calls Try.prog 24 #[.pointer (some ⟨g, 0, none⟩), .agg #[.int .i64 0, .int .i64 0, .int .i64 0, .string ⟨#[]⟩, .slice none 0 0, .slice none 0 0], .int .i64 (a : Nat)] w fun e w' => e = .returned (nV (a : Nat) (a : Nat) 0 0 0 ⟨#[]⟩ (.slice none 0 0) (.slice none 0 0)) ∧ Below w.heap.size w w' := by
  have HL := Lib.hid hL
  have hj : ∀ (wx : World) (b : Nat), SLat wx g k → wx.cell? ⟨b, 0, none⟩ = some (.int .i64 (a : Nat)) → wx.cell? ⟨b, 1, none⟩ = some (.int .i64 (sbo k : Nat)) → Calls Try.prog 38 #[.pointer (some ⟨g, 0, none⟩), .slice (some ⟨b, 0, none⟩) 2 2] wx fun e w' => e = .returned (.int .i64 (a : Nat)) ∧ wx = w' := fun wx b h h0 h1 => by
    have := join2 g k a (sbo k) b wx h h0 h1 ha (sbo_lt k)
    rw [j_bot (sr_ord k) (sr_j k) ha (sbo_lt k) (sbo_low k a ha)] at this
    exact this
  have HJ := Lib.hid hj
  have hbot : ∀ wx, SLat wx g k → Calls Try.prog 17 #[.pointer (some ⟨g, 0, none⟩)] wx fun e w' => e = .returned (.int .i64 (sbo k : Nat)) ∧ wx = w' := fun wx h => bottom_any _ _ _ _ _ _ _ _ _ h
  have HBT := Lib.hid hbot
  clear hj hbot hL
  generalize sbo k = low at HJ HBT
  go_enter Try.func24, Try.ntmps24
  go_upto_region 4 with (go_at_call 17; refine (HBT.out _ (HL.out.go (bT (bA1 _ _) (bA1 _ _)))).mono ?_; rintro e w' ⟨rfl, rfl⟩)
  have hV3 : Vb (((w.alloc (Obj.cells #[.int .i64 0, .int .i64 0, .int .i64 0, .string ⟨#[]⟩, .slice none 0 0, .slice none 0 0] 62)).alloc (Obj.cells #[.int .i64 0, .int .i64 0, .int .i64 0, .int .i64 0, .int .i64 0, .string ⟨#[]⟩, .slice none 0 0, .slice none 0 0] 27)).alloc (Obj.cells #[.int .i64 (low : Nat)] 3)) w.heap.size #[.int .i64 0, .int .i64 0, .int .i64 0, .string ⟨#[]⟩, .slice none 0 0, .slice none 0 0] := ((Vb.new w _).alloc _).alloc _
  have hR3 : Wb (((w.alloc (Obj.cells #[.int .i64 0, .int .i64 0, .int .i64 0, .string ⟨#[]⟩, .slice none 0 0, .slice none 0 0] 62)).alloc (Obj.cells #[.int .i64 0, .int .i64 0, .int .i64 0, .int .i64 0, .int .i64 0, .string ⟨#[]⟩, .slice none 0 0, .slice none 0 0] 27)).alloc (Obj.cells #[.int .i64 (low : Nat)] 3)) (w.heap.size + 1) #[.int .i64 0, .int .i64 0, .int .i64 0, .int .i64 0, .int .i64 0, .string ⟨#[]⟩, .slice none 0 0, .slice none 0 0] := by
    have := (Wb.new (w.alloc (Obj.cells #[.int .i64 0, .int .i64 0, .int .i64 0, .string ⟨#[]⟩, .slice none 0 0, .slice none 0 0] 62)) #[.int .i64 0, .int .i64 0, .int .i64 0, .int .i64 0, .int .i64 0, .string ⟨#[]⟩, .slice none 0 0, .slice none 0 0]).alloc (Obj.cells #[.int .i64 (low : Nat)] 3)
    simpa using this
  have hL3 : (((w.alloc (Obj.cells #[.int .i64 0, .int .i64 0, .int .i64 0, .string ⟨#[]⟩, .slice none 0 0, .slice none 0 0] 62)).alloc (Obj.cells #[.int .i64 0, .int .i64 0, .int .i64 0, .int .i64 0, .int .i64 0, .string ⟨#[]⟩, .slice none 0 0, .slice none 0 0] 27)).alloc (Obj.cells #[.int .i64 (low : Nat)] 3)).cell? ⟨w.heap.size + 1 + 1, 0, none⟩ = some (.int .i64 (low : Nat)) := by
    have := (Cb0.new ((w.alloc (Obj.cells #[.int .i64 0, .int .i64 0, .int .i64 0, .string ⟨#[]⟩, .slice none 0 0, .slice none 0 0] 62)).alloc (Obj.cells #[.int .i64 0, .int .i64 0, .int .i64 0, .int .i64 0, .int .i64 0, .string ⟨#[]⟩, .slice none 0 0, .slice none 0 0] 27)) 3 #[.int .i64 (low : Nat)]).cell 0
    simpa using this
  have hB3 : Below w.heap.size w (((w.alloc (Obj.cells #[.int .i64 0, .int .i64 0, .int .i64 0, .string ⟨#[]⟩, .slice none 0 0, .slice none 0 0] 62)).alloc (Obj.cells #[.int .i64 0, .int .i64 0, .int .i64 0, .int .i64 0, .int .i64 0, .string ⟨#[]⟩, .slice none 0 0, .slice none 0 0] 27)).alloc (Obj.cells #[.int .i64 (low : Nat)] 3)) := bT (bT (bA1 _ _) (bA1 _ _)) (bA1 _ _)
  obtain ⟨w3, hw3⟩ : ∃ w3, (((w.alloc (Obj.cells #[.int .i64 0, .int .i64 0, .int .i64 0, .string ⟨#[]⟩, .slice none 0 0, .slice none 0 0] 62)).alloc (Obj.cells #[.int .i64 0, .int .i64 0, .int .i64 0, .int .i64 0, .int .i64 0, .string ⟨#[]⟩, .slice none 0 0, .slice none 0 0] 27)).alloc (Obj.cells #[.int .i64 (low : Nat)] 3)) = w3 := ⟨_, rfl⟩
  have hs3 : w3.heap.size = w.heap.size + 3 := by rw [← hw3]; simp
  rw [hw3] at hV3 hR3 hL3 hB3 ⊢
  clear hw3
  obtain ⟨z0, z1, z2, z3, z4, z5⟩ := hV3.six
  go_upto_region 5 with (first | (go_at_call 51; refine (turn_nil _ _ _).mono ?_; rintro e w' ⟨rfl, rfl⟩) | (go_at_call 49; refine (mark1_zero _ _ _ _ hV3 hL3).mono ?_; rintro e w4 ⟨rfl, b4⟩; unfold nV))
  have hR4 : Wb (w4.alloc (Obj.cells #[.int .i64 (low : Nat), .int .i64 (low : Nat), .int .i64 0, .int .i64 0, .int .i64 0, .string ⟨#[]⟩, .slice none 0 0, .slice none 0 0] 27)) (w.heap.size + 1) #[.int .i64 0, .int .i64 0, .int .i64 0, .int .i64 0, .int .i64 0, .string ⟨#[]⟩, .slice none 0 0, .slice none 0 0] := (hR3.on b4).alloc _
  have hN4 : Wb (w4.alloc (Obj.cells #[.int .i64 (low : Nat), .int .i64 (low : Nat), .int .i64 0, .int .i64 0, .int .i64 0, .string ⟨#[]⟩, .slice none 0 0, .slice none 0 0] 27)) w4.heap.size #[.int .i64 (low : Nat), .int .i64 (low : Nat), .int .i64 0, .int .i64 0, .int .i64 0, .string ⟨#[]⟩, .slice none 0 0, .slice none 0 0] := Wb.new _ _
  have hl4 : (w4.alloc (Obj.cells #[.int .i64 (low : Nat), .int .i64 (low : Nat), .int .i64 0, .int .i64 0, .int .i64 0, .string ⟨#[]⟩, .slice none 0 0, .slice none 0 0] 27)).cell? ⟨w.heap.size + 1 + 1, 0, none⟩ = some (.int .i64 (low : Nat)) := ((bT b4 (bA1 w4 _)).cell (p := ⟨w.heap.size + 1 + 1, 0, none⟩) (by show w.heap.size + 1 + 1 < w3.heap.size; omega)).trans hL3
  have hB4 : Below w.heap.size w (w4.alloc (Obj.cells #[.int .i64 (low : Nat), .int .i64 (low : Nat), .int .i64 0, .int .i64 0, .int .i64 0, .string ⟨#[]⟩, .slice none 0 0, .slice none 0 0] 27)) := bT hB3 (bT b4 (bA1 _ _))
  have hs4 : w.heap.size + 3 ≤ w4.heap.size := by have := b4.size; omega
  obtain ⟨w5, hw5⟩ : ∃ w5, w4.alloc (Obj.cells #[.int .i64 (low : Nat), .int .i64 (low : Nat), .int .i64 0, .int .i64 0, .int .i64 0, .string ⟨#[]⟩, .slice none 0 0, .slice none 0 0] 27) = w5 := ⟨_, rfl⟩
  rw [hw5] at hR4 hN4 hl4 hB4 ⊢
  clear hw5 b4 z0 z1 z2 z3 z4 z5 hV3 hR3 hL3 hB3 hs3
  generalize w4.heap.size = nb at *
  have hNA : Wb (w5.alloc (Obj.cells #[.int .i64 (a : Nat), .int .i64 (low : Nat)] 3)) nb #[.int .i64 (low : Nat), .int .i64 (low : Nat), .int .i64 0, .int .i64 0, .int .i64 0, .string ⟨#[]⟩, .slice none 0 0, .slice none 0 0] := hN4.alloc _
  have hRA : Wb (w5.alloc (Obj.cells #[.int .i64 (a : Nat), .int .i64 (low : Nat)] 3)) (w.heap.size + 1) #[.int .i64 0, .int .i64 0, .int .i64 0, .int .i64 0, .int .i64 0, .string ⟨#[]⟩, .slice none 0 0, .slice none 0 0] := hR4.alloc _
  have hJA := Cb0.new w5 3 #[.int .i64 (a : Nat), .int .i64 (low : Nat)]
  have HJ0 := Lib.hid (HJ.out (w5.alloc (Obj.cells #[.int .i64 (a : Nat), .int .i64 (low : Nat)] 3)) w5.heap.size (HL.out.go (bT hB4 (bA1 _ _))) (hJA.cell 0) (hJA.cell 1))
  have HBA := Lib.hid (bT hB4 (bA1 w5 (Obj.cells #[.int .i64 (a : Nat), .int .i64 (low : Nat)] 3)))
  have hne : w.heap.size + 1 ≠ nb := by omega
  obtain ⟨n0, n1, n2, n3, n4, n5, n6, n7⟩ := hNA.eight
  obtain ⟨y0, y1, y2, y3, y4, y5, y6, y7⟩ := hRA.eight
  have hnf := fun i => hNA.free i
  have hrf := fun i => hRA.free i
  have HRA := Lib.hid hRA
  have HNE := Lib.hid hne
  have hnb : w.heap.size ≤ nb := by omega
  clear hJA HJ hNA hRA hN4 hR4 hB4 hne HBT HL
  go_wp2_with (go_at_call 38; refine HJ0.out.mono ?_; rintro e w' ⟨rfl, rfl⟩)
  have HV := ((HRA.out.far 0 (.int .i64 (a : Nat)) HNE.out).far 1 (.int .i64 (a : Nat)) HNE.out).put (.int .i64 (a : Nat)) (.int .i64 (a : Nat)) (.int .i64 0) (.int .i64 0) (.int .i64 0) (.string ⟨#[]⟩) (.slice none 0 0) (.slice none 0 0)
  have hS2 : Below w.heap.size w (((w5.alloc (Obj.cells #[.int .i64 (a : Nat), .int .i64 (low : Nat)] 3)).setCell ⟨nb, 0, none⟩ (.int .i64 (a : Nat))).setCell ⟨nb, 1, none⟩ (.int .i64 (a : Nat))) := (HBA.out.setCell hnb _).setCell hnb _
  have HB' := b8 hS2 (show w.heap.size ≤ w.heap.size + 1 by omega) (.int .i64 (a : Nat)) (.int .i64 (a : Nat)) (.int .i64 0) (.int .i64 0) (.int .i64 0) (.string ⟨#[]⟩) (.slice none 0 0) (.slice none 0 0)
  obtain ⟨v0, v1, v2, v3, v4, v5, v6, v7⟩ := HV.eight
  clear HV n0 n1 n2 n3 n4 n5 n6 n7 y0 y1 y2 y3 y4 y5 y6 y7 hnf hrf
  unfold nV
  simp [bodyPost, results, Try.results24, go_sem, v0, v1, v2, v3, v4, v5, v6, v7]
  exact HB'
theorem info_int : (Try.prog.info? 3).map (fun i => (i.zero, i.size, i.bytes)) = some (some (.int .i64 0), 1, 8) := by kernel_rfl
/-- a new row of one int -/
theorem wpList_makeI {w : World} {ops : Array Oper} {rest : List Oper} {o : Oper} {a : Act} {Q : Exit → Act → World → Prop} (hg : o.guard = none) (l c : Operand) (hop : o.op = Op.makeSlice 38 l c) (hl : a.eval l = .int .i64 1) (hc : a.eval c = .int .i64 1)
    (hK : ∀ w', Cb0 w' w.heap.size 3 #[.int .i64 0] → Below w.heap.size w w' → wpList Try.prog ops Q rest (a.put o.dst (.slice (some ⟨w.heap.size, 0, none⟩) 1 1)) w') :
    wpList Try.prog ops Q (o :: rest) a w := by
  obtain ⟨i0, hi, hz0, hz1, hz2⟩ := info_parts info_int
  refine wpList_make_full w hg l c _ hop w.heap.size 3 i0 (.int .i64 0) 1 Try.underlying38 hi hz0 hz1 .i64 .i64 1 1 1 hl hc rfl rfl (by rw [hz2]; omega) (by unfold maxLen; omega) (Nat.le_refl _) fun w' h1 h2 => hK w' ?_ ?_
  · rcases h1.2 with ⟨hv, _⟩ | ⟨g, cap, cur, hv, _, hh, _, _, hs, ht⟩
    · cases hv
    · cases hv
      unfold Cb0
      rw [hh]
      have e : cur = #[.int .i64 0] := by
        apply Array.toList_inj.1
        rw [← List.take_of_length_le (l := cur.toList) (i := 1 * 1) (by simp; omega), ht]
        simp [madeCells, Value.cells, Nat.mod_one]
      rw [e]
  · exact (Below.refl _ _).grown h2 (Nat.le_refl _) (fun k hk => by cases hk)
open _root_.Go.Proofs.Ytelladgeehlkpaa.Lv (wpList_append1 IntsAt ints_own)
theorem Li.ints {w : World} {v : Value} {l : List Nat} (h : IntsAt w v l) : Li w v l := by
  rcases h with ⟨rfl, rfl⟩ | ⟨g, cap, rfl, h⟩
  · exact ⟨none, 0, rfl, fun h => absurd h (by simp)⟩
  · exact ⟨_, cap, rfl, fun _ => ⟨g, 0, rfl, fun j x hj => by rw [Nat.zero_add]; exact h j x hj⟩⟩
set_option maxRecDepth 100000 in
set_option maxHeartbeats 4000000 in
theorem deep_one (g k d a b : Nat) (c0 c2 c3 c4 c5 c6 c7 : Value) (w : World) (hL : SLat w g k) (hd : d < sz k) (ha : a < sz k) (hb : Wb w b #[c0, .int .i64 (d : Nat), c2, c3, c4, c5, c6, c7]) :
    Calls Try.prog 48 #[.pointer (some ⟨g, 0, none⟩), .int .i64 (a : Nat), .slice (some ⟨b, 0, none⟩) 1 1] w fun e w' => e = .returned (.int .i64 (sj k d a : Nat)) ∧ Below w.heap.size w w' := by
  have HL := Lib.hid hL
  have HW := Lib.hid hb
  have HLA := Lib.hid ha
  have HLD := Lib.hid hd
  clear hL hb ha hd
  go_enter Try.func48, Try.ntmps48
  go_wp2_with (refine wpList_makeI rfl _ _ rfl rfl rfl ?_; intro w1 hrow hb1; have HR1 := Lib.hid hrow; have HB1 := Lib.hid hb1; clear hrow hb1)
  go_loopw [8, 14] (fun _ i wr => ∃ p : Nat, i = .int .i64 (p : Nat) ∧ p ≤ 1 ∧ Hid (Cb0 wr w.heap.size 3 #[.int .i64 ((if p = 0 then 0 else d : Nat) : Int)]) ∧ Hid (Below w.heap.size w wr)) (fun _ i _ => 1 - (intOf i).toNat)
  case atStart => exact ⟨0, rfl, by omega, HR1, HB1⟩
  case round =>
    obtain ⟨p, rfl, hp, HR, HB⟩ := hrel
    have hW := HW.out.on HB.out
    by_cases hlt : p < 1
    · obtain rfl : p = 0 := by omega
      have q1 : wr.cell? ⟨b, 1, none⟩ = some (.int .i64 (d : Nat)) := hW.cell 1
      have q0 : wr.cell? ⟨w.heap.size, 0, none⟩ = some (.int .i64 ((if (0 : Nat) = 0 then 0 else d : Nat) : Int)) := HR.out.cell 0
      have qf : wr.frozen? ⟨w.heap.size, 0, none⟩ = false := by have := HR.out; unfold Cb0 at this; simp [World.frozen?, this]
      go_wp2_with fail
      clear q0 q1 qf hW
      go_roundw
      case rel =>
        refine ⟨1, rfl, by omega, Lib.hid ?_, Lib.hid (HB.out.setCell (Nat.le_refl _) _)⟩
        have := HR.out
        unfold Cb0 at this ⊢
        simp [World.setCell, Array.getElem?_modify, this]
      case measure => simp [intOf]
    · obtain rfl : p = 1 := by omega
      have hown : wr.ownsRow w.heap.size 3 1 (.slice (some ⟨w.heap.size, 0, none⟩) 1 1) [d].length ([d].map _root_.Go.Proofs.Ytelladgeehlkpaa.Lv.intV) := ⟨rfl, .inr ⟨w.heap.size, 1, #[.int .i64 (d : Nat)], rfl, Nat.le_refl _, HR.out, Nat.le_refl _, by decide, rfl, rfl⟩⟩
      have HO := Lib.hid hown
      have hlt1 : w.heap.size ≤ wr.heap.size := HB.out.size
      clear hown hW HR
      go_wp2_with (first | (at_builtin; refine wpList_append1 rfl _ _ rfl w.heap.size (.slice (some ⟨w.heap.size, 0, none⟩) 1 1) [d] a rfl rfl HO.out (by simp) hlt1 ?_; intro v' w' hown' hgrow; have HO' := Lib.hid hown'; have HG := Lib.hid (HB.out.trans hgrow); clear hown' hgrow) | (go_at_call 38; refine (join_fold g k v' [d, a] _ (HL.out.go HG.out) (Li.ints (ints_own HO'.out)) (by simp) (fun z hz => by simp only [List.mem_cons, List.not_mem_nil, or_false] at hz; rcases hz with rfl | rfl; exact HLD.out; exact HLA.out)).mono ?_; rintro e w'' ⟨rfl, rfl⟩))
      go_ret
      refine ⟨?_, HG.out⟩
      have e : [d, a].foldl (sj k) (sbo k) = sj k d a := by
        show sj k (sj k (sbo k) d) a = _
        rw [bot_j (sr_ord k) (sr_j k) HLD.out (sbo_lt k) (sbo_low k d HLD.out)]
      show Ending.returned (.int .i64 (([d, a].foldl (sj k) (sbo k) : Nat) : Int)) = _
      rw [e]
set_option maxRecDepth 100000 in
set_option maxHeartbeats 4000000 in
theorem array_one (g k d a b : Nat) (c0 c2 c3 c4 c5 c6 c7 : Value) (w : World) (hL : SLat w g k) (hd : d < sz k) (ha : a < sz k) (hb : Wb w b #[c0, .int .i64 (d : Nat), c2, c3, c4, c5, c6, c7]) :
    Calls Try.prog 23 #[.pointer (some ⟨g, 0, none⟩), .int .i64 (a : Nat), .slice (some ⟨b, 0, none⟩) 1 1] w fun e w' => e = .returned (nV (a : Nat) (sj k d a : Nat) 5 0 0 ⟨#[]⟩ (.slice (some ⟨b, 0, none⟩) 1 1) (.slice none 0 0)) ∧ Below w.heap.size w w' := by
  have hD := fun wx (hx : Below w.heap.size w wx) => deep_one g k d a b c0 c2 c3 c4 c5 c6 c7 wx (hL.go hx) hd ha (hb.on hx)
  have HD := Lib.hid hD
  generalize sj k d a = q at HD ⊢
  clear hD hL hd ha hb
  have hR := Wb.new w #[.int .i64 0, .int .i64 0, .int .i64 0, .int .i64 0, .int .i64 0, .string ⟨#[]⟩, .slice none 0 0, .slice none 0 0]
  have HR := Lib.hid hR
  clear hR
  go_enter Try.func23, Try.ntmps23
  go_wp2_with (go_at_call 48; refine (HD.out _ (bA1 _ _)).mono ?_; rintro e w1 ⟨rfl, b1⟩; have hR1 := HR.out.on b1; obtain ⟨y0, y1, y2, y3, y4, y5, y6, y7⟩ := hR1.eight; have hf := fun i => hR1.free i; have HR1 := Lib.hid hR1; have HB1 := Lib.hid (bT (bA1 w (Obj.cells #[.int .i64 0, .int .i64 0, .int .i64 0, .int .i64 0, .int .i64 0, .string ⟨#[]⟩, .slice none 0 0, .slice none 0 0] 27)) b1); clear hR1 b1)
  have HV := HR1.out.put (.int .i64 (a : Nat)) (.int .i64 (q : Nat)) (.int .i64 5) (.int .i64 0) (.int .i64 0) (.string ⟨#[]⟩) (.slice (some ⟨b, 0, none⟩) 1 1) (.slice none 0 0)
  have HB' := b8 HB1.out (Nat.le_refl _) (.int .i64 (a : Nat)) (.int .i64 (q : Nat)) (.int .i64 5) (.int .i64 0) (.int .i64 0) (.string ⟨#[]⟩) (.slice (some ⟨b, 0, none⟩) 1 1) (.slice none 0 0)
  obtain ⟨v0, v1, v2, v3, v4, v5, v6, v7⟩ := HV.eight
  clear HV y0 y1 y2 y3 y4 y5 y6 y7 hf
  unfold nV
  simp [bodyPost, results, Try.results23, go_sem, v0, v1, v2, v3, v4, v5, v6, v7]
  exact HB'
theorem sj01 : sj 0 1 0 = 1 ∧ (0 : Nat) < sz 0 ∧ (1 : Nat) < sz 0 := by
  have h0 : (0 : Nat) < sz 0 := sz_pos 0
  have h1 : (1 : Nat) < sz 0 := by decide
  have hr : sr 0 0 1 = true := by
    rw [_root_.Go.Proofs.Ytelladgeehlkpaa.Lv.sr_is 0 0 1 (by decide) (by decide)]
    decide
  exact ⟨j_bot (sr_ord 0) (sr_j 0) h1 h0 hr, h0, h1⟩
set_option maxRecDepth 100000 in
set_option maxHeartbeats 8000000 in
theorem lives_any (w : World) :
    Calls Try.prog 7 #[] w fun e w' => e = .returned (.bool true) ∧ Below w.heap.size w w' := by
  have hsort := fun wx => sort_any 0 wx
  rw [show ((0 : Int) % 6).toNat = 0 by decide] at hsort
  have HSO := Lib.hid hsort
  have hmk : ∀ (g : Nat) (wx : World), SLat wx g 0 → Calls Try.prog 24 #[.pointer (some ⟨g, 0, none⟩), .agg #[.int .i64 0, .int .i64 0, .int .i64 0, .string ⟨#[]⟩, .slice none 0 0, .slice none 0 0], .int .i64 1] wx fun e w' => e = .returned (.agg #[.int .i64 1, .int .i64 1, .int .i64 0, .int .i64 0, .int .i64 0, .string ⟨#[]⟩, .slice none 0 0, .slice none 0 0]) ∧ Below wx.heap.size wx w' := fun g wx hL => mark_any g 0 1 wx hL sj01.2.2
  have har : ∀ (g b : Nat) (wx : World), SLat wx g 0 → Wb wx b #[.int .i64 1, .int .i64 1, .int .i64 0, .int .i64 0, .int .i64 0, .string ⟨#[]⟩, .slice none 0 0, .slice none 0 0] → Calls Try.prog 23 #[.pointer (some ⟨g, 0, none⟩), .int .i64 0, .slice (some ⟨b, 0, none⟩) 1 1] wx fun e w' => e = .returned (.agg #[.int .i64 0, .int .i64 1, .int .i64 5, .int .i64 0, .int .i64 0, .string ⟨#[]⟩, .slice (some ⟨b, 0, none⟩) 1 1, .slice none 0 0]) ∧ Below wx.heap.size wx w' := fun g b wx hL hb => by
    have := array_one g 0 1 0 b _ _ _ _ _ _ _ wx hL sj01.2.2 sj01.2.1 hb
    rw [sj01.1] at this
    exact this
  have HMK := Lib.hid hmk
  have HAR := Lib.hid har
  clear hmk har
  clear hsort
  go_enter Try.func7, Try.ntmps7
  go_upto_region 2 with (first | (go_at_call 22; refine (HSO.out _).mono ?_; rintro e w1 ⟨b1, vn, vb, rfl, hN, hP⟩; have HN := Lib.hid hN; have HP := Lib.hid hP; have HB1 := Lib.hid b1; clear hN hP b1) | (go_at_call 21; refine (new_sort 0 _ _ _ _ HN.out HP.out).mono ?_; rintro e w2 ⟨b2, g, rfl, _, hS⟩; have HS := Lib.hid hS; have HB2 := Lib.hid (bT HB1.out b2); clear hS b2))
  go_wp2_with (first | (go_at_call 24; refine (HMK.out g _ HS.out).mono ?_; rintro e w3 ⟨rfl, b3⟩; have HB3 := Lib.hid b3; clear b3) | (go_at_call 23; refine (HAR.out g _ _ (HS.out.go (bT HB3.out (bA1 _ _))) (Wb.new _ _)).mono ?_; rintro e w4 ⟨rfl, b4⟩; have HB4 := Lib.hid (bT HB2.out (bT HB3.out (bT (bA1 w3 (Obj.cells #[.int .i64 1, .int .i64 1, .int .i64 0, .int .i64 0, .int .i64 0, .string ⟨#[]⟩, .slice none 0 0, .slice none 0 0] 27)) b4))); clear b4))
  go_ret
  exact ⟨rfl, bT HB4.out (bA1 _ _)⟩
end Nd
end Go.Proofs.Ytelladgeehlkpaa
