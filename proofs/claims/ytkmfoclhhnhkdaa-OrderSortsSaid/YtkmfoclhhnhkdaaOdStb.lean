/- order.Sort of at most 12 values: they are in the order of the document, those that are alike as they stood, or two have no answer. -/
import Derived.Test.YtkmfoclhhnhkdaaOdStbM
import Derived.Lib.AppendIntMem
import Derived.Lib.SliceRun
import Derived.BigRegion
import Derived.RegionTactic
import Derived.ChangeAlike
namespace Go.Proofs.Ytkmfoclhhnhkdaa
open Go.RowKit
namespace Od
open _root_.Go.Proofs.Ytkmfoclhhnhkdaa.Nm _root_.Go.Proofs.Ytkmfoclhhnhkdaa.Jv
/-- the cell that tells whether there was an answer -/
def An (w : World) (a : Nat) (b : Bool) : Prop := w.heap[a]? = some (.cells #[.bool b] 4 (0, 0))
section
variable {w w' : World} {a : Nat} {b : Bool}
theorem An.lt (h : An w a b) : a < w.heap.size := (Array.getElem?_eq_some_iff.1 h).1
theorem An.cell (h : An w a b) : w.cell? ⟨a, 0, none⟩ = some (.bool b) := cell_of_row w a 0 _ _ _ h
theorem An.free (h : An w a b) : w.frozen? ⟨a, 0, none⟩ = false := by
  unfold An at h
  simp [World.frozen?, h]
theorem An.on (h : An w a b) (hb : Below w.heap.size w w') : An w' a b := (hb.block a h.lt).trans h
theorem An.set (h : An w a b) (c : Bool) : An (w.setCell ⟨a, 0, none⟩ (.bool c)) a c := by
  unfold An at h ⊢
  simp [World.setCell, Array.getElem?_modify, h]
end
/-- nothing but one block turns -/
structure Apart (a : Nat) (w w' : World) : Prop where
  os : w'.os = w.os
  tape : w'.tape = w.tape
  output : w'.output = w.output
  size : w.heap.size ≤ w'.heap.size
  block : ∀ k, k < w.heap.size → k ≠ a → w'.heap[k]? = w.heap[k]?
theorem Apart.of {a : Nat} {w w' : World} (h : Below w.heap.size w w') : Apart a w w' := ⟨h.os, h.tape, h.output, h.size, fun k hk _ => h.block k hk⟩
theorem Apart.set {a : Nat} {w w' : World} (h : Apart a w w') (o : Nat) (u : Value) : Apart a w (w'.setCell ⟨a, o, none⟩ u) :=
  ⟨h.os, h.tape, h.output, by simpa using h.size, fun k hk hne => (Below.heap_setCell w' ⟨a, o, none⟩ u k hne).trans (h.block k hk hne)⟩
theorem Apart.below {a : Nat} {w0 w w' : World} (h : Apart a w w') (hb : Below w0.heap.size w0 w) (ha : w0.heap.size ≤ a) : Below w0.heap.size w0 w' :=
  ⟨h.os.trans hb.os, h.tape.trans hb.tape, h.output.trans hb.output, Nat.le_trans hb.size h.size, fun k hk => (h.block k (Nat.lt_of_lt_of_le hk hb.size) (by omega)).trans (hb.block k hk)⟩
set_option maxRecDepth 100000 in
set_option maxHeartbeats 4000000 in
theorem clo_any (n m : Nat) (x y : Six) (t u : JV) (a : Nat) (ans : Bool) (w : World) (hx : VT w n x t) (hy : VT w m y u) (ha : An w a ans) :
    Calls Try.prog 37 #[x.val, y.val, .pointer (some ⟨a, 0, none⟩)] w fun e w' => e = .returned (.int .i64 (if ans = true then (cmpR t u).1 else 0)) ∧ An w' a (ans && (cmpR t u).2) ∧ Apart a w w' := by
  have hcp := fun wx (h : Below w.heap.size w wx) => compare_any n m x y t u wx (VT.on h n hx) (VT.on h m hy)
  obtain ⟨c, hc⟩ : ∃ c, (cmpR t u).1 = c := ⟨_, rfl⟩
  obtain ⟨b, hb⟩ : ∃ b, (cmpR t u).2 = b := ⟨_, rfl⟩
  rw [hc, hb] at hcp
  rw [hc, hb]
  unfold Six.val vV at hcp ⊢
  have HCP := Lib.hid hcp
  have hw := bA2 w (Obj.cells #[.int .i64 x.k, .int .i64 x.c, .int .i64 x.s, .string x.st, x.iv, x.kv] 27) (Obj.cells #[.int .i64 y.k, .int .i64 y.c, .int .i64 y.s, .string y.st, y.iv, y.kv] 27)
  have HV : Hid (Vb ((w.alloc (Obj.cells #[.int .i64 x.k, .int .i64 x.c, .int .i64 x.s, .string x.st, x.iv, x.kv] 27)).alloc (Obj.cells #[.int .i64 y.k, .int .i64 y.c, .int .i64 y.s, .string y.st, y.iv, y.kv] 27)) w.heap.size #[.int .i64 x.k, .int .i64 x.c, .int .i64 x.s, .string x.st, x.iv, x.kv] ∧ Vb ((w.alloc (Obj.cells #[.int .i64 x.k, .int .i64 x.c, .int .i64 x.s, .string x.st, x.iv, x.kv] 27)).alloc (Obj.cells #[.int .i64 y.k, .int .i64 y.c, .int .i64 y.s, .string y.st, y.iv, y.kv] 27)) (w.heap.size + 1) #[.int .i64 y.k, .int .i64 y.c, .int .i64 y.s, .string y.st, y.iv, y.kv]) := Lib.hid ⟨(Vb.new w _).alloc _, by simpa using Vb.new (w.alloc (Obj.cells #[.int .i64 x.k, .int .i64 x.c, .int .i64 x.s, .string x.st, x.iv, x.kv] 27)) #[.int .i64 y.k, .int .i64 y.c, .int .i64 y.s, .string y.st, y.iv, y.kv]⟩
  have HA := Lib.hid (ha.on hw)
  have c0 := HA.out.cell
  have HW := Lib.hid hw
  clear hcp hc hb hx hy ha hw
  go_enter Try.func37, Try.ntmps37
  cases ans with
  | false =>
    go_wp2_with fail
    go_ret
    exact ⟨rfl, HA.out, Apart.of HW.out⟩
  | true =>
    go_upto_region 3 with (fail)
    obtain ⟨x0, x1, x2, x3, x4, x5⟩ := HV.out.1.six
    obtain ⟨y0, y1, y2, y3, y4, y5⟩ := HV.out.2.six
    go_wp2_with (go_at_call 23; refine (HCP.out _ HW.out).mono ?_; rintro e w1 ⟨rfl, b1⟩; have HA1 := Lib.hid (HA.out.on b1); have HW1 := Lib.hid (bT HW.out b1); have f1 := HA1.out.free; have c1 := HA1.out.cell)
    go_ret
    exact ⟨rfl, HA1.out.set b, (Apart.of HW1.out).set _ _⟩
theorem Rw6.drew {w : World} {q : Nat} {s : List Six} (h : Rw6 w q s) : Rw6 w.drew q s := h.on rfl
theorem An.drew {w : World} {a : Nat} {b : Bool} (h : An w a b) : An w.drew a b := h
theorem An.st6 {w : World} {a q p : Nat} {y : Six} {b : Bool} (h : An w a b) (hq : q ≠ a) : An (st6 w q p y) a b := by
  unfold An Od.st6
  rw [heap_far (Ne.symm hq), heap_far (Ne.symm hq), heap_far (Ne.symm hq), heap_far (Ne.symm hq), heap_far (Ne.symm hq), heap_far (Ne.symm hq)]
  exact h
theorem below_st6 {B : Nat} {w0 w : World} {q p : Nat} {y : Six} (h : Below B w0 w) (hq : B ≤ q) : Below B w0 (st6 w q p y) := by
  unfold Od.st6
  exact ((((((h.setCell hq _).setCell hq _).setCell hq _).setCell hq _).setCell hq _).setCell hq _)
/-- how far a list is sorted -/
structure St (w0 : World) (a q : Nat) (z0 z : List (Six × JV)) (ans : Bool) (w : World) : Prop where
  perm : z.Perm z0
  row : 0 < z0.length → Rw6 w q (z.map Prod.fst)
  an : An w a ans
  bel : Below w0.heap.size w0 w
  same : Ch (z0.map Prod.snd) → z = z0 ∧ ans = true
  no : ans = false → ¬ (z0.map Prod.snd).Pairwise Ans
/-- what a row is while it is sorted -/
def Si (w0 : World) (q : Nat) (s : List Six) (w : World) : Prop := Below w0.heap.size w0 w ∧ Rw6 w q s
/-- what the sorting leaves -/
def SoP (w0 : World) (a q : Nat) (z0 : List (Six × JV)) (e : Ending) (w' : World) : Prop := ∃ z ans, e = .returned (.tuple #[]) ∧ St w0 a q z0 z ans w' ∧ (ans = true → Ch (z.map Prod.snd) ∧ z.map Prod.snd = refS (z0.map Prod.snd))
set_option maxRecDepth 100000 in
set_option maxHeartbeats 16000000 in
theorem ins_any (w0 : World) (a q : Nat) (z0 : List (Six × JV)) (ao : Option Addr) (cap : Nat) (w : World) (hq : 0 < z0.length → ao = some ⟨q, 0, none⟩) (hqa : q ≠ a) (hq0 : w0.heap.size ≤ q) (ha0 : w0.heap.size ≤ a)
    (hz : ∀ p ∈ z0, ∃ n, VT w0 n p.1 p.2) (hn : z0.length ≤ 12) (hs : St w0 a q z0 z0 true w) :
    Calls Try.prog 74 #[.slice ao z0.length cap, .int .i64 0, .int .i64 (z0.length : Nat), .func (.func 37) #[] #[.pointer (some ⟨a, 0, none⟩)]] w (SoP w0 a q z0) := by
  have HQ := Lib.hid hq
  have HZ := Lib.hid hz
  have HS0 := Lib.hid hs
  clear hq hz hs
  go_enter Try.func74, Try.ntmps74
  go_wp2
  go_loopw [8] (fun iv wr => ∃ (i : Nat) (z : List (Six × JV)) (ans : Bool), iv = .int .i64 ((i : Nat) + 1) ∧ (i + 1 ≤ z0.length ∨ i = 0) ∧ Hid (St w0 a q z0 z ans wr) ∧ Hid (ans = true → Out2 (z0.map Prod.snd) (z.map Prod.snd) (i + 1))) (fun iv _ => z0.length - (intOf iv).toNat)
  case atStart => exact ⟨0, z0, true, rfl, Or.inr rfl, HS0, Lib.hid (fun _ => ⟨Out.start, OutS.start⟩)⟩
  case round =>
    clear HS0
    obtain ⟨i, z, ans, rfl, hi, HS, HO⟩ := hrel
    by_cases hlt : i + 1 < z0.length
    · skip
      have hz0 : 0 < z0.length := by omega
      obtain rfl := HQ.out hz0
      have i1 : ((i : Int) + 1) < (z0.length : Int) := by omega
      have HO' : Hid (ans = true → In2 (z0.map Prod.snd) (z.map Prod.snd) (i + 1) (i + 1)) := Lib.hid (fun h => ⟨(HO.out h).o.into, (HO.out h).s.into (by rw [List.length_map]; exact hlt)⟩)
      clear HO
      go_wp2
      go_loopw [9] (fun jv wr => ∃ (j : Nat) (z : List (Six × JV)) (ans : Bool), jv = .int .i64 (j : Nat) ∧ j ≤ i + 1 ∧ Hid (St w0 a q z0 z ans wr) ∧ Hid (ans = true → In2 (z0.map Prod.snd) (z.map Prod.snd) (i + 1) j)) (fun jv _ => (intOf jv).toNat)
      case atStart => exact ⟨i + 1, z, ans, by go_num, by omega, HS, HO'⟩
      case round =>
        clear HS HO'
        obtain ⟨j, z, ans, rfl, hj, HS, HO⟩ := hrel
        have hzl : z.length = z0.length := HS.out.perm.length_eq
        cases j with
        | zero =>
          have HO2 : Hid (ans = true → Out2 (z0.map Prod.snd) (z.map Prod.snd) (i + 1 + 1)) := Lib.hid (fun h => ⟨(HO.out h).o.stop0, (HO.out h).s.stop0⟩)
          have hzz : decide ((0 : Int) < 0) = false := by decide
          have HZL := Lib.hid hzl
          clear HO hzl
          go_wp2
          go_quiet (fail)
          go_wp2
          go_roundw
          case rel => exact ⟨i + 1, z, ans, by go_num, Or.inl (by omega), Lib.hid ⟨HS.out.perm, fun h => (HS.out.row h).on (by obtain ⟨m, hm⟩ : ∃ m, wr.drewN nq = wr.drewN m := ⟨_, rfl⟩; exact (Jv.bN (Below.refl wr.heap.size wr) nq).block q (HS.out.row h).lt), HS.out.an.on (Jv.bN (Below.refl _ _) _), Jv.bN HS.out.bel _, HS.out.same, HS.out.no⟩, HO2⟩
          case measure => simp [intOf]; omega
        | succ j =>
          obtain ⟨p1, hp1⟩ : ∃ p, z[j + 1]? = some p := ⟨_, List.getElem?_eq_getElem (by omega)⟩
          obtain ⟨p2, hp2⟩ : ∃ p, z[j]? = some p := ⟨_, List.getElem?_eq_getElem (by omega)⟩
          obtain ⟨n1, hv1⟩ := HZ.out p1 (HS.out.perm.mem_iff.1 (List.mem_of_getElem? hp1))
          obtain ⟨n2, hv2⟩ := HZ.out p2 (HS.out.perm.mem_iff.1 (List.mem_of_getElem? hp2))
          obtain ⟨x, t⟩ := p1
          obtain ⟨y, u⟩ := p2
          simp only at hv1 hv2
          obtain ⟨⟨xa, xb, xc2, g1⟩, xd, xe, xf, g2⟩ := hv1.one
          obtain ⟨⟨ya, yb, yc2, g3⟩, yd, ye, yf, g4⟩ := hv2.one
          have s1 : (z.map Prod.fst)[j + 1]? = some x := by rw [List.getElem?_map, hp1]; rfl
          have s2 : (z.map Prod.fst)[j]? = some y := by rw [List.getElem?_map, hp2]; rfl
          have t1 : (z.map Prod.snd)[j + 1]? = some t := by rw [List.getElem?_map, hp1]; rfl
          have t2 : (z.map Prod.snd)[j]? = some u := by rw [List.getElem?_map, hp2]; rfl
          have hcl := fun wx (h : Below w0.heap.size w0 wx) (h' : An wx a ans) => clo_any n1 n2 x y t u a ans wx (VT.on h n1 hv1) (VT.on h n2 hv2) h'
          obtain ⟨c, hc⟩ : ∃ c, (if ans = true then (cmpR t u).1 else 0) = c := ⟨_, rfl⟩
          obtain ⟨b, hb⟩ : ∃ b, (ans && (cmpR t u).2) = b := ⟨_, rfl⟩
          rw [hc, hb] at hcl
          have hat1 : ∀ wx, Si w0 q (z.map Prod.fst) wx → At6 wx q ((j + 1) * 6) x := fun wx h => h.2.at6 _ _ s1
          have hat2 : ∀ wx, Si w0 q (z.map Prod.fst) wx → At6 wx q (j * 6) y := fun wx h => h.2.at6 _ _ s2
          have HSW : Hid (∀ wx, Rw6 wx q (z.map Prod.fst) → Rw6 (st6 (st6 wx q ((j + 1) * 6) y) q (j * 6) x) q (sw (z.map Prod.fst) j)) := Lib.hid (fun wx h => h.swap s1 s2)
          have HNO : Hid (b = false → ¬ (z0.map Prod.snd).Pairwise Ans) := Lib.hid (fun h hp => by
            cases ans with
            | false => exact HS.out.no rfl hp
            | true =>
              rw [Bool.true_and] at hb
              have h1 := ans_next ((ans_perm (HS.out.perm.map Prod.snd)).2 hp) (Nat.lt_succ_self j) t2 t1
              have h2 : (cmpR t u).2 = true := h1.turn
              rw [hb, h] at h2
              cases h2)
          have HNG : Hid (c < 0 → ans = true ∧ b = true ∧ G t u ∧ (cmpR t u).1 < 0) := Lib.hid (fun h => by
            cases ans with
            | false => rw [← hc] at h; simp at h
            | true =>
              rw [if_pos rfl] at hc
              rw [Bool.true_and] at hb
              cases hb' : (cmpR t u).2 with
              | false => have := cmpR_no hb'; omega
              | true => exact ⟨rfl, by rw [← hb, hb'], ⟨hb', by omega⟩, by omega⟩)
          have HPO : Hid (¬ c < 0 → b = true → ans = true ∧ G u t ∧ ¬ (cmpR t u).1 < 0) := Lib.hid (fun h h' => by
            rw [← hb, Bool.and_eq_true] at h'
            rw [if_pos h'.1] at hc
            exact ⟨h'.1, G_back h'.2 (by rw [hc]; exact h), by rw [hc]; exact h⟩)
          have HSM : Hid (Ch (z0.map Prod.snd) → ans = true → z = z0 → b = true ∧ ¬ c < 0) := Lib.hid (fun h h1 h2 => by
            have hg := G_back' (h j u t (by rw [← h2]; exact t2) (by rw [← h2]; exact t1))
            rw [← hb, ← hc, if_pos h1, h1]
            exact ⟨hg.1, hg.2⟩)
          have HT1 := Lib.hid t1
          have HT2 := Lib.hid t2
          have HCL := Lib.hid hcl
          have HZL := Lib.hid hzl
          clear hp1 hp2 hv1 hv2 s1 s2 t1 t2 hcl hc hb hzl
          obtain ⟨xk, xc, xs, xst, xi, xv⟩ := x
          obtain ⟨yk, yc, ys, yst, yi, yv⟩ := y
          simp only at g1 g2 g3 g4
          subst g1 g2 g3 g4
          unfold Six.val vV at HCL
          simp only at HCL
          have a0 := fun wx h => (hat1 wx h).1
          have a1 := fun wx h => (hat1 wx h).2.1
          have a2 := fun wx h => (hat1 wx h).2.2.1
          have a3 := fun wx h => (hat1 wx h).2.2.2.1
          have a4 := fun wx h => (hat1 wx h).2.2.2.2.1
          have a5 := fun wx h => (hat1 wx h).2.2.2.2.2
          have e0 := fun wx h => (hat2 wx h).1
          have e1 := fun wx h => (hat2 wx h).2.1
          have e2 := fun wx h => (hat2 wx h).2.2.1
          have e3 := fun wx h => (hat2 wx h).2.2.2.1
          have e4 := fun wx h => (hat2 wx h).2.2.2.2.1
          have e5 := fun wx h => (hat2 wx h).2.2.2.2.2
          simp only at a0 a1 a2 a3 a4 a5 e0 e1 e2 e3 e4 e5
          have HAT := Lib.hid (And.intro hat1 hat2)
          have j1 : ((j : Int) + 1) < (z0.length : Int) := by omega
          have j2 : (j : Int) < (z0.length : Int) := by omega
          have j3 : ((j : Int) + 1 - 1) = (j : Int) := by omega
          have j4 : (0 : Int) < (j : Int) + 1 := by omega
          have j5 : decide ((0 : Int) < (j : Int) + 1) = true := decide_eq_true (by omega)
          have j6 : ((j : Int) + 1).toNat = j + 1 := by omega
          have j9 : (0 : Int) ≤ (j : Int) + 1 := by omega
          have j10 : IntKind.i64.wrap (j : Int) = (j : Int) := IntWalk.i64_in _ (by omega)
          have j7 : j + 1 < z0.length := by omega
          have j8 : j < z0.length := by omega
          clear hat1 hat2
          by_cases hc0 : c < 0
          · skip
            have hcd : decide (c < 0) = true := decide_eq_true hc0
            go_wp2
            refine wp_region_held_drew (S := Si w0 q (z.map Prod.fst)) (by kernel_rfl) (show Si w0 q (z.map Prod.fst) wr.drew from ⟨HS.out.bel.drew, (HS.out.row hz0).on rfl⟩) (fun hHeld => ?_)
            refine take_put (i := 0) (d := 18) (oi := _) (v := ?vm0) rfl rfl (by kernel_rfl) (by kernel_rfl) (by kernel_rfl) (fun _ _ _ h => h) (Or.inl ⟨by rfl, ?ym0⟩) hHeld ?rm0
            case ym0 => (intro w hSw; (try dsimp only at hSw); go_simp; try with_reducible rfl)
            simp only [Act.put, List.setIfInBounds_toArray, List.set_cons_zero, List.set_cons_succ]
            refine take_put (i := 1) (d := 19) (oi := _) (v := ?vm1) rfl rfl (by kernel_rfl) (by kernel_rfl) (by kernel_rfl) (fun _ _ _ h => h) (Or.inl ⟨by rfl, ?ym1⟩) hHeld ?rm1
            case ym1 => (intro w hSw; (try dsimp only at hSw); go_simp; try with_reducible rfl)
            simp only [Act.put, List.setIfInBounds_toArray, List.set_cons_zero, List.set_cons_succ]
            refine take_put (i := 2) (d := 20) (oi := _) (v := ?vm2) rfl rfl (by kernel_rfl) (by kernel_rfl) (by kernel_rfl) (fun _ _ _ h => h) (Or.inl ⟨by rfl, ?ym2⟩) hHeld ?rm2
            case ym2 => (intro w hSw; (try dsimp only at hSw); go_simp; try with_reducible rfl)
            simp only [Act.put, List.setIfInBounds_toArray, List.set_cons_zero, List.set_cons_succ]
            refine take_put (i := 3) (d := 21) (oi := _) (v := ?vm3) rfl rfl (by kernel_rfl) (by kernel_rfl) (by kernel_rfl) (fun _ _ _ h => h) (Or.inl ⟨by rfl, ?ym3⟩) hHeld ?rm3
            case ym3 => (intro w hSw; (try dsimp only at hSw); go_simp; try with_reducible rfl)
            simp only [Act.put, List.setIfInBounds_toArray, List.set_cons_zero, List.set_cons_succ]
            refine take_put (i := 4) (d := 22) (oi := _) (v := ?vm4) rfl rfl (by kernel_rfl) (by kernel_rfl) (by kernel_rfl) (fun _ _ _ h => h) (Or.inl ⟨by rfl, ?ym4⟩) hHeld ?rm4
            case ym4 => (intro w hSw; (try dsimp only at hSw); go_simp; try with_reducible rfl)
            simp only [Act.put, List.setIfInBounds_toArray, List.set_cons_zero, List.set_cons_succ]
            refine take_put (i := 5) (d := 23) (oi := _) (v := ?vm5) rfl rfl (by kernel_rfl) (by kernel_rfl) (by kernel_rfl) (fun _ _ _ h => h) (Or.inl ⟨by rfl, ?ym5⟩) hHeld ?rm5
            case ym5 => (intro w hSw; (try dsimp only at hSw); go_simp; try with_reducible rfl)
            simp only [Act.put, List.setIfInBounds_toArray, List.set_cons_zero, List.set_cons_succ]
            refine take_put (i := 6) (d := 24) (oi := _) (v := ?vm6) rfl rfl (by kernel_rfl) (by kernel_rfl) (by kernel_rfl) (fun _ _ _ h => h) (Or.inl ⟨by rfl, ?ym6⟩) hHeld ?rm6
            case ym6 => (intro w hSw; (try dsimp only at hSw); go_simp; try with_reducible rfl)
            simp only [Act.put, List.setIfInBounds_toArray, List.set_cons_zero, List.set_cons_succ]
            refine take_put (i := 7) (d := 25) (oi := _) (v := ?vm7) rfl rfl (by kernel_rfl) (by kernel_rfl) (by kernel_rfl) (fun _ _ _ h => h) (Or.inl ⟨by rfl, ?ym7⟩) hHeld ?rm7
            case ym7 => (intro w hSw; (try dsimp only at hSw); go_simp; try with_reducible rfl)
            simp only [Act.put, List.setIfInBounds_toArray, List.set_cons_zero, List.set_cons_succ]
            refine take_put (i := 8) (d := 26) (oi := _) (v := ?vm8) rfl rfl (by kernel_rfl) (by kernel_rfl) (by kernel_rfl) (fun _ _ _ h => h) (Or.inl ⟨by rfl, ?ym8⟩) hHeld ?rm8
            case ym8 => (intro w hSw; (try dsimp only at hSw); go_simp; try with_reducible rfl)
            simp only [Act.put, List.setIfInBounds_toArray, List.set_cons_zero, List.set_cons_succ]
            refine take_put (i := 9) (d := 27) (oi := _) (v := ?vm9) rfl rfl (by kernel_rfl) (by kernel_rfl) (by kernel_rfl) (fun _ _ _ h => h) (Or.inl ⟨by rfl, ?ym9⟩) hHeld ?rm9
            case ym9 => (intro w hSw; (try dsimp only at hSw); go_simp; try with_reducible rfl)
            simp only [Act.put, List.setIfInBounds_toArray, List.set_cons_zero, List.set_cons_succ]
            refine take_put (i := 10) (d := 28) (oi := _) (v := ?vm10) rfl rfl (by kernel_rfl) (by kernel_rfl) (by kernel_rfl) (fun _ _ _ h => h) (Or.inl ⟨by rfl, ?ym10⟩) hHeld ?rm10
            case ym10 => (intro w hSw; (try dsimp only at hSw); go_simp; try with_reducible rfl)
            simp only [Act.put, List.setIfInBounds_toArray, List.set_cons_zero, List.set_cons_succ]
            refine take_put (i := 11) (d := 29) (oi := _) (v := ?vm11) rfl rfl (by kernel_rfl) (by kernel_rfl) (by kernel_rfl) (fun _ _ _ h => h) (Or.inl ⟨by rfl, ?ym11⟩) hHeld ?rm11
            case ym11 => (intro w hSw; (try dsimp only at hSw); go_simp; try with_reducible rfl)
            simp only [Act.put, List.setIfInBounds_toArray, List.set_cons_zero, List.set_cons_succ]
            refine take_put (i := 12) (d := 30) (oi := _) (v := ?vm12) rfl rfl (by kernel_rfl) (by kernel_rfl) (by kernel_rfl) (fun _ _ _ h => h) (Or.inl ⟨by rfl, ?ym12⟩) hHeld ?rm12
            case ym12 => (intro w hSw; (try dsimp only at hSw); go_simp; try with_reducible rfl)
            simp only [Act.put, List.setIfInBounds_toArray, List.set_cons_zero, List.set_cons_succ]
            refine take_put (i := 13) (d := 31) (oi := _) (v := ?vm13) rfl rfl (by kernel_rfl) (by kernel_rfl) (by kernel_rfl) (fun _ _ _ h => h) (Or.inl ⟨by rfl, ?ym13⟩) hHeld ?rm13
            case ym13 => (intro w hSw; (try dsimp only at hSw); go_simp; try with_reducible rfl)
            simp only [Act.put, List.setIfInBounds_toArray, List.set_cons_zero, List.set_cons_succ]
            refine wpAnyH_ready (rs := [14]) (by kernel_rfl) (by simp) (AllReadyH.cons (o := _) rfl (fun K hK => ?_) AllReadyH.nil)
            go_simp
            refine (HCL.out _ hHeld.1 (HS.out.an.on (Below.refl _ _).drew)).mono ?_
            rintro e w6 ⟨rfl, an6, ap6⟩
            have HA6 := Lib.hid an6
            have HP6 := Lib.hid ap6
            (try dsimp only)
            refine hK.out _ _ (show Si w0 q (z.map Prod.fst) w6 from ⟨ap6.below hHeld.1 ha0, hHeld.2.on (ap6.block q hHeld.2.lt hqa)⟩) (fun hHeld => ?_)
            clear hK K
            refine take_put (i := 15) (d := 33) (oi := _) (v := ?vm15) rfl rfl (by kernel_rfl) (by kernel_rfl) (by kernel_rfl) (fun _ _ _ h => h) (Or.inl ⟨by rfl, ?ym15⟩) hHeld ?rm15
            case ym15 => (intro w hSw; (try dsimp only at hSw); go_simp; try with_reducible rfl)
            simp only [Act.put, List.setIfInBounds_toArray, List.set_cons_zero, List.set_cons_succ]
            refine take_put (i := 16) (d := 34) (oi := _) (v := ?vm16) rfl rfl (by kernel_rfl) (by kernel_rfl) (by kernel_rfl) (fun _ _ _ h => h) (Or.inl ⟨by rfl, ?ym16⟩) hHeld ?rm16
            case ym16 => (intro w hSw; (try dsimp only at hSw); go_simp; try with_reducible rfl)
            simp only [Act.put, List.setIfInBounds_toArray, List.set_cons_zero, List.set_cons_succ]
            refine wpAnyH_done (by kernel_rfl) ?_ _
            have HF := Lib.hid hHeld
            clear hHeld an6 ap6
            obtain ⟨hans, hbt, hg, hgc⟩ := HNG.out hc0
            have HW6 := Lib.hid (Apart.below HP6.out HS.out.bel.drew ha0)
            have HR6 : Hid (Rw6 w6 q (z.map Prod.fst)) := Lib.hid HF.out.2
            subst hans
            have HO7 : Hid (In2 (z0.map Prod.snd) (sw (z.map Prod.snd) j) (i + 1) j) := Lib.hid ⟨(HO.out rfl).o.step (by rw [List.length_map]; have := HZL.out; omega) (by omega) HT2.out HT1.out hg, (HO.out rfl).s.step HT2.out HT1.out hgc⟩
            rw [← sw_map] at HO7
            have HA7 : Hid (An w6 a true) := Lib.hid (by rw [← hbt]; exact HA6.out)
            clear HNG HPO HCL HF hg hgc HO HA6
            go_wp2
            have A1 := HAT.out.1 w6 ⟨HW6.out, HR6.out⟩
            have A2 := HAT.out.2 w6 ⟨HW6.out, HR6.out⟩
            obtain ⟨b0, b1, b2, b3, b4, b5⟩ := A1
            obtain ⟨d0, d1, d2, d3, d4, d5⟩ := A2
            simp only at b0 b1 b2 b3 b4 b5 d0 d1 d2 d3 d4 d5
            have hf := fun o => HR6.out.free o
            clear a0 a1 a2 a3 a4 a5 e0 e1 e2 e3 e4 e5
            have hrow := HSW.out w6 HR6.out
            have hanc := An.st6 (p := j * 6) (y := ⟨xk, xc, xs, xst, .slice xa xb xc2, .slice xd xe xf⟩) (An.st6 (p := (j + 1) * 6) (y := ⟨yk, yc, ys, yst, .slice ya yb yc2, .slice yd ye yf⟩) HA7.out hqa) hqa
            have hbel := below_st6 (p := j * 6) (y := ⟨xk, xc, xs, xst, .slice xa xb xc2, .slice xd xe xf⟩) (below_st6 (p := (j + 1) * 6) (y := ⟨yk, yc, ys, yst, .slice ya yb yc2, .slice yd ye yf⟩) HW6.out hq0) hq0
            unfold Od.st6 at hrow hanc hbel
            simp only at hrow hanc hbel
            rw [← sw_map] at hrow
            have HREL : Hid (∃ (j1 : Nat) (z' : List (Six × JV)) (ans : Bool), Value.int .i64 (j : Nat) = Value.int .i64 (j1 : Nat) ∧ j1 ≤ i + 1 ∧ Hid (St w0 a q z0 z' ans ((((((((((((w6.setCell ⟨q, (j + 1) * 6, none⟩ (.int .i64 yk)).setCell ⟨q, (j + 1) * 6 + 1, none⟩ (.int .i64 yc)).setCell ⟨q, (j + 1) * 6 + 2, none⟩ (.int .i64 ys)).setCell ⟨q, (j + 1) * 6 + 3, none⟩ (.string yst)).setCell ⟨q, (j + 1) * 6 + 4, none⟩ (.slice ya yb yc2)).setCell ⟨q, (j + 1) * 6 + 5, none⟩ (.slice yd ye yf)).setCell ⟨q, j * 6, none⟩ (.int .i64 xk)).setCell ⟨q, j * 6 + 1, none⟩ (.int .i64 xc)).setCell ⟨q, j * 6 + 2, none⟩ (.int .i64 xs)).setCell ⟨q, j * 6 + 3, none⟩ (.string xst)).setCell ⟨q, j * 6 + 4, none⟩ (.slice xa xb xc2)).setCell ⟨q, j * 6 + 5, none⟩ (.slice xd xe xf)).drew) ∧ Hid (ans = true → In2 (z0.map Prod.snd) (z'.map Prod.snd) (i + 1) j1)) :=
              Lib.hid ⟨j, sw z j, true, rfl, by omega, Lib.hid ⟨(sw_perm z j).trans HS.out.perm, fun _ => Rw6.drew hrow, An.drew hanc, hbel.drew, fun h => by have h1 := (HSM.out h (by trivial) (HS.out.same h).1).2; omega, fun h => by cases h⟩, Lib.hid (fun _ => HO7.out)⟩
            clear hrow hanc hbel HSM HSW HS HAT HO7 HA7 HW6 HR6 HNO hc0 hcd
            refine wp_region_held_drew (S := fun _ => True) (by kernel_rfl) trivial (fun hHeld => ?_)
            refine take_put (i := 0) (d := 37) (oi := _) (v := ?vw0) rfl rfl (by kernel_rfl) (by kernel_rfl) (by kernel_rfl) (fun _ _ _ h => h) (Or.inl ⟨by rfl, ?yw0⟩) hHeld ?rw0
            case yw0 => (intro w hSw; (try dsimp only at hSw); go_simp; try with_reducible rfl)
            simp only [Act.put, List.setIfInBounds_toArray, List.set_cons_zero, List.set_cons_succ]
            refine take_put (i := 1) (d := 38) (oi := _) (v := ?vw1) rfl rfl (by kernel_rfl) (by kernel_rfl) (by kernel_rfl) (fun _ _ _ h => h) (Or.inl ⟨by rfl, ?yw1⟩) hHeld ?rw1
            case yw1 => (intro w hSw; (try dsimp only at hSw); go_simp; try with_reducible rfl)
            simp only [Act.put, List.setIfInBounds_toArray, List.set_cons_zero, List.set_cons_succ]
            refine take_put (i := 2) (d := 39) (oi := _) (v := ?vw2) rfl rfl (by kernel_rfl) (by kernel_rfl) (by kernel_rfl) (fun _ _ _ h => h) (Or.inl ⟨by rfl, ?yw2⟩) hHeld ?rw2
            case yw2 => (intro w hSw; (try dsimp only at hSw); go_simp; try with_reducible rfl)
            simp only [Act.put, List.setIfInBounds_toArray, List.set_cons_zero, List.set_cons_succ]
            refine take_put (i := 3) (d := 40) (oi := _) (v := ?vw3) rfl rfl (by kernel_rfl) (by kernel_rfl) (by kernel_rfl) (fun _ _ _ h => h) (Or.inl ⟨by rfl, ?yw3⟩) hHeld ?rw3
            case yw3 => (intro w hSw; (try dsimp only at hSw); go_simp; try with_reducible rfl)
            simp only [Act.put, List.setIfInBounds_toArray, List.set_cons_zero, List.set_cons_succ]
            refine take_put (i := 4) (d := 41) (oi := _) (v := ?vw4) rfl rfl (by kernel_rfl) (by kernel_rfl) (by kernel_rfl) (fun _ _ _ h => h) (Or.inl ⟨by rfl, ?yw4⟩) hHeld ?rw4
            case yw4 => (intro w hSw; (try dsimp only at hSw); go_simp; try with_reducible rfl)
            simp only [Act.put, List.setIfInBounds_toArray, List.set_cons_zero, List.set_cons_succ]
            refine take_put (i := 5) (d := 42) (oi := _) (v := ?vw5) rfl rfl (by kernel_rfl) (by kernel_rfl) (by kernel_rfl) (fun _ _ _ h => h) (Or.inl ⟨by rfl, ?yw5⟩) hHeld ?rw5
            case yw5 => (intro w hSw; (try dsimp only at hSw); go_simp; try with_reducible rfl)
            simp only [Act.put, List.setIfInBounds_toArray, List.set_cons_zero, List.set_cons_succ]
            refine take_put (i := 6) (d := 43) (oi := _) (v := ?vw6) rfl rfl (by kernel_rfl) (by kernel_rfl) (by kernel_rfl) (fun _ _ _ h => h) (Or.inl ⟨by rfl, ?yw6⟩) hHeld ?rw6
            case yw6 => (intro w hSw; (try dsimp only at hSw); go_simp; try with_reducible rfl)
            simp only [Act.put, List.setIfInBounds_toArray, List.set_cons_zero, List.set_cons_succ]
            refine take_put (i := 7) (d := 44) (oi := _) (v := ?vw7) rfl rfl (by kernel_rfl) (by kernel_rfl) (by kernel_rfl) (fun _ _ _ h => h) (Or.inl ⟨by rfl, ?yw7⟩) hHeld ?rw7
            case yw7 => (intro w hSw; (try dsimp only at hSw); go_simp; try with_reducible rfl)
            simp only [Act.put, List.setIfInBounds_toArray, List.set_cons_zero, List.set_cons_succ]
            refine take_put (i := 8) (d := 45) (oi := _) (v := ?vw8) rfl rfl (by kernel_rfl) (by kernel_rfl) (by kernel_rfl) (fun _ _ _ h => h) (Or.inl ⟨by rfl, ?yw8⟩) hHeld ?rw8
            case yw8 => (intro w hSw; (try dsimp only at hSw); go_simp; try with_reducible rfl)
            simp only [Act.put, List.setIfInBounds_toArray, List.set_cons_zero, List.set_cons_succ]
            refine take_put (i := 10) (d := 47) (oi := _) (v := ?vw10) rfl rfl (by kernel_rfl) (by kernel_rfl) (by kernel_rfl) (fun _ _ _ h => h) (Or.inl ⟨by rfl, ?yw10⟩) hHeld ?rw10
            case yw10 => (intro w hSw; (try dsimp only at hSw); go_simp; try with_reducible rfl)
            simp only [Act.put, List.setIfInBounds_toArray, List.set_cons_zero, List.set_cons_succ]
            refine take_put (i := 11) (d := 48) (oi := _) (v := ?vw11) rfl rfl (by kernel_rfl) (by kernel_rfl) (by kernel_rfl) (fun _ _ _ h => h) (Or.inl ⟨by rfl, ?yw11⟩) hHeld ?rw11
            case yw11 => (intro w hSw; (try dsimp only at hSw); go_simp; try with_reducible rfl)
            simp only [Act.put, List.setIfInBounds_toArray, List.set_cons_zero, List.set_cons_succ]
            refine take_put (i := 12) (d := 49) (oi := _) (v := ?vw12) rfl rfl (by kernel_rfl) (by kernel_rfl) (by kernel_rfl) (fun _ _ _ h => h) (Or.inl ⟨by rfl, ?yw12⟩) hHeld ?rw12
            case yw12 => (intro w hSw; (try dsimp only at hSw); go_simp; try with_reducible rfl)
            simp only [Act.put, List.setIfInBounds_toArray, List.set_cons_zero, List.set_cons_succ]
            refine wpAnyH_ready (rs := [9, 13]) (by kernel_rfl) (by simp) (AllReadyH.cons (o := _) rfl (fun K hK => ?_) (AllReadyH.cons (o := _) rfl (fun K hK => ?_) (AllReadyH.nil)))
            · go_simp
              (try dsimp only)
              refine hK.out _ _ trivial (fun hHeld => ?_)
              clear hK K
              refine wpAnyH_ready (rs := [13]) (by kernel_rfl) (by simp) (AllReadyH.cons (o := _) rfl (fun K hK => ?_) (AllReadyH.nil))
              go_simp
              (try dsimp only)
              refine hK.out _ _ trivial (fun hHeld => ?_)
              clear hK K
              refine take_put (i := 14) (d := 51) (oi := _) (v := ?vwl1314) rfl rfl (by kernel_rfl) (by kernel_rfl) (by kernel_rfl) (fun _ _ _ h => h) (Or.inl ⟨by rfl, ?ywl1314⟩) hHeld ?rwl1314
              case ywl1314 => (intro w hSw; (try dsimp only at hSw); go_simp; try with_reducible rfl)
              simp only [Act.put, List.setIfInBounds_toArray, List.set_cons_zero, List.set_cons_succ]
              refine wpAnyH_ready (rs := [15]) (by kernel_rfl) (by simp) (AllReadyH.cons (o := _) rfl (fun K hK => ?_) (AllReadyH.nil))
              go_simp
              (try dsimp only)
              refine hK.out _ _ trivial (fun hHeld => ?_)
              clear hK K
              refine take_put (i := 16) (d := 52) (oi := _) (v := ?vwl1316) rfl rfl (by kernel_rfl) (by kernel_rfl) (by kernel_rfl) (fun _ _ _ h => h) (Or.inl ⟨by rfl, ?ywl1316⟩) hHeld ?rwl1316
              case ywl1316 => (intro w hSw; (try dsimp only at hSw); go_simp; try with_reducible rfl)
              simp only [Act.put, List.setIfInBounds_toArray, List.set_cons_zero, List.set_cons_succ]
              refine wpAnyH_ready (rs := [17]) (by kernel_rfl) (by simp) (AllReadyH.cons (o := _) rfl (fun K hK => ?_) (AllReadyH.nil))
              go_simp
              (try dsimp only)
              refine hK.out _ _ trivial (fun hHeld => ?_)
              clear hK K
              refine wpAnyH_done (by kernel_rfl) ?_ _
              clear hHeld b0 b1 b2 b3 b4 b5 d0 d1 d2 d3 d4 d5 hf
              go_wp2
              go_roundw
              case rel => exact HREL.out
              case measure => (simp [intOf] <;> omega)
            · go_simp
              (try dsimp only)
              refine hK.out _ _ trivial (fun hHeld => ?_)
              clear hK K
              refine wpAnyH_ready (rs := [9]) (by kernel_rfl) (by simp) (AllReadyH.cons (o := _) rfl (fun K hK => ?_) (AllReadyH.nil))
              go_simp
              (try dsimp only)
              refine hK.out _ _ trivial (fun hHeld => ?_)
              clear hK K
              refine take_put (i := 14) (d := 51) (oi := _) (v := ?vwl914) rfl rfl (by kernel_rfl) (by kernel_rfl) (by kernel_rfl) (fun _ _ _ h => h) (Or.inl ⟨by rfl, ?ywl914⟩) hHeld ?rwl914
              case ywl914 => (intro w hSw; (try dsimp only at hSw); go_simp; try with_reducible rfl)
              simp only [Act.put, List.setIfInBounds_toArray, List.set_cons_zero, List.set_cons_succ]
              refine wpAnyH_ready (rs := [15]) (by kernel_rfl) (by simp) (AllReadyH.cons (o := _) rfl (fun K hK => ?_) (AllReadyH.nil))
              go_simp
              (try dsimp only)
              refine hK.out _ _ trivial (fun hHeld => ?_)
              clear hK K
              refine take_put (i := 16) (d := 52) (oi := _) (v := ?vwl916) rfl rfl (by kernel_rfl) (by kernel_rfl) (by kernel_rfl) (fun _ _ _ h => h) (Or.inl ⟨by rfl, ?ywl916⟩) hHeld ?rwl916
              case ywl916 => (intro w hSw; (try dsimp only at hSw); go_simp; try with_reducible rfl)
              simp only [Act.put, List.setIfInBounds_toArray, List.set_cons_zero, List.set_cons_succ]
              refine wpAnyH_ready (rs := [17]) (by kernel_rfl) (by simp) (AllReadyH.cons (o := _) rfl (fun K hK => ?_) (AllReadyH.nil))
              go_simp
              (try dsimp only)
              refine hK.out _ _ trivial (fun hHeld => ?_)
              clear hK K
              refine wpAnyH_done (by kernel_rfl) ?_ _
              clear hHeld b0 b1 b2 b3 b4 b5 d0 d1 d2 d3 d4 d5 hf
              go_wp2
              go_roundw
              case rel => exact HREL.out
              case measure => (simp [intOf] <;> omega)
          · skip
            have hcd : decide (c < 0) = false := decide_eq_false hc0
            go_wp2
            refine wp_region_held_drew (S := Si w0 q (z.map Prod.fst)) (by kernel_rfl) (show Si w0 q (z.map Prod.fst) wr.drew from ⟨HS.out.bel.drew, (HS.out.row hz0).on rfl⟩) (fun hHeld => ?_)
            refine take_put (i := 0) (d := 18) (oi := _) (v := ?vk0) rfl rfl (by kernel_rfl) (by kernel_rfl) (by kernel_rfl) (fun _ _ _ h => h) (Or.inl ⟨by rfl, ?yk0⟩) hHeld ?rk0
            case yk0 => (intro w hSw; (try dsimp only at hSw); go_simp; try with_reducible rfl)
            simp only [Act.put, List.setIfInBounds_toArray, List.set_cons_zero, List.set_cons_succ]
            refine take_put (i := 1) (d := 19) (oi := _) (v := ?vk1) rfl rfl (by kernel_rfl) (by kernel_rfl) (by kernel_rfl) (fun _ _ _ h => h) (Or.inl ⟨by rfl, ?yk1⟩) hHeld ?rk1
            case yk1 => (intro w hSw; (try dsimp only at hSw); go_simp; try with_reducible rfl)
            simp only [Act.put, List.setIfInBounds_toArray, List.set_cons_zero, List.set_cons_succ]
            refine take_put (i := 2) (d := 20) (oi := _) (v := ?vk2) rfl rfl (by kernel_rfl) (by kernel_rfl) (by kernel_rfl) (fun _ _ _ h => h) (Or.inl ⟨by rfl, ?yk2⟩) hHeld ?rk2
            case yk2 => (intro w hSw; (try dsimp only at hSw); go_simp; try with_reducible rfl)
            simp only [Act.put, List.setIfInBounds_toArray, List.set_cons_zero, List.set_cons_succ]
            refine take_put (i := 3) (d := 21) (oi := _) (v := ?vk3) rfl rfl (by kernel_rfl) (by kernel_rfl) (by kernel_rfl) (fun _ _ _ h => h) (Or.inl ⟨by rfl, ?yk3⟩) hHeld ?rk3
            case yk3 => (intro w hSw; (try dsimp only at hSw); go_simp; try with_reducible rfl)
            simp only [Act.put, List.setIfInBounds_toArray, List.set_cons_zero, List.set_cons_succ]
            refine take_put (i := 4) (d := 22) (oi := _) (v := ?vk4) rfl rfl (by kernel_rfl) (by kernel_rfl) (by kernel_rfl) (fun _ _ _ h => h) (Or.inl ⟨by rfl, ?yk4⟩) hHeld ?rk4
            case yk4 => (intro w hSw; (try dsimp only at hSw); go_simp; try with_reducible rfl)
            simp only [Act.put, List.setIfInBounds_toArray, List.set_cons_zero, List.set_cons_succ]
            refine take_put (i := 5) (d := 23) (oi := _) (v := ?vk5) rfl rfl (by kernel_rfl) (by kernel_rfl) (by kernel_rfl) (fun _ _ _ h => h) (Or.inl ⟨by rfl, ?yk5⟩) hHeld ?rk5
            case yk5 => (intro w hSw; (try dsimp only at hSw); go_simp; try with_reducible rfl)
            simp only [Act.put, List.setIfInBounds_toArray, List.set_cons_zero, List.set_cons_succ]
            refine take_put (i := 6) (d := 24) (oi := _) (v := ?vk6) rfl rfl (by kernel_rfl) (by kernel_rfl) (by kernel_rfl) (fun _ _ _ h => h) (Or.inl ⟨by rfl, ?yk6⟩) hHeld ?rk6
            case yk6 => (intro w hSw; (try dsimp only at hSw); go_simp; try with_reducible rfl)
            simp only [Act.put, List.setIfInBounds_toArray, List.set_cons_zero, List.set_cons_succ]
            refine take_put (i := 7) (d := 25) (oi := _) (v := ?vk7) rfl rfl (by kernel_rfl) (by kernel_rfl) (by kernel_rfl) (fun _ _ _ h => h) (Or.inl ⟨by rfl, ?yk7⟩) hHeld ?rk7
            case yk7 => (intro w hSw; (try dsimp only at hSw); go_simp; try with_reducible rfl)
            simp only [Act.put, List.setIfInBounds_toArray, List.set_cons_zero, List.set_cons_succ]
            refine take_put (i := 8) (d := 26) (oi := _) (v := ?vk8) rfl rfl (by kernel_rfl) (by kernel_rfl) (by kernel_rfl) (fun _ _ _ h => h) (Or.inl ⟨by rfl, ?yk8⟩) hHeld ?rk8
            case yk8 => (intro w hSw; (try dsimp only at hSw); go_simp; try with_reducible rfl)
            simp only [Act.put, List.setIfInBounds_toArray, List.set_cons_zero, List.set_cons_succ]
            refine take_put (i := 9) (d := 27) (oi := _) (v := ?vk9) rfl rfl (by kernel_rfl) (by kernel_rfl) (by kernel_rfl) (fun _ _ _ h => h) (Or.inl ⟨by rfl, ?yk9⟩) hHeld ?rk9
            case yk9 => (intro w hSw; (try dsimp only at hSw); go_simp; try with_reducible rfl)
            simp only [Act.put, List.setIfInBounds_toArray, List.set_cons_zero, List.set_cons_succ]
            refine take_put (i := 10) (d := 28) (oi := _) (v := ?vk10) rfl rfl (by kernel_rfl) (by kernel_rfl) (by kernel_rfl) (fun _ _ _ h => h) (Or.inl ⟨by rfl, ?yk10⟩) hHeld ?rk10
            case yk10 => (intro w hSw; (try dsimp only at hSw); go_simp; try with_reducible rfl)
            simp only [Act.put, List.setIfInBounds_toArray, List.set_cons_zero, List.set_cons_succ]
            refine take_put (i := 11) (d := 29) (oi := _) (v := ?vk11) rfl rfl (by kernel_rfl) (by kernel_rfl) (by kernel_rfl) (fun _ _ _ h => h) (Or.inl ⟨by rfl, ?yk11⟩) hHeld ?rk11
            case yk11 => (intro w hSw; (try dsimp only at hSw); go_simp; try with_reducible rfl)
            simp only [Act.put, List.setIfInBounds_toArray, List.set_cons_zero, List.set_cons_succ]
            refine take_put (i := 12) (d := 30) (oi := _) (v := ?vk12) rfl rfl (by kernel_rfl) (by kernel_rfl) (by kernel_rfl) (fun _ _ _ h => h) (Or.inl ⟨by rfl, ?yk12⟩) hHeld ?rk12
            case yk12 => (intro w hSw; (try dsimp only at hSw); go_simp; try with_reducible rfl)
            simp only [Act.put, List.setIfInBounds_toArray, List.set_cons_zero, List.set_cons_succ]
            refine take_put (i := 13) (d := 31) (oi := _) (v := ?vk13) rfl rfl (by kernel_rfl) (by kernel_rfl) (by kernel_rfl) (fun _ _ _ h => h) (Or.inl ⟨by rfl, ?yk13⟩) hHeld ?rk13
            case yk13 => (intro w hSw; (try dsimp only at hSw); go_simp; try with_reducible rfl)
            simp only [Act.put, List.setIfInBounds_toArray, List.set_cons_zero, List.set_cons_succ]
            refine wpAnyH_ready (rs := [14]) (by kernel_rfl) (by simp) (AllReadyH.cons (o := _) rfl (fun K hK => ?_) AllReadyH.nil)
            go_simp
            refine (HCL.out _ hHeld.1 (HS.out.an.on (Below.refl _ _).drew)).mono ?_
            rintro e w6 ⟨rfl, an6, ap6⟩
            have HA6 := Lib.hid an6
            have HP6 := Lib.hid ap6
            (try dsimp only)
            refine hK.out _ _ (show Si w0 q (z.map Prod.fst) w6 from ⟨ap6.below hHeld.1 ha0, hHeld.2.on (ap6.block q hHeld.2.lt hqa)⟩) (fun hHeld => ?_)
            clear hK K
            refine take_put (i := 15) (d := 33) (oi := _) (v := ?vk15) rfl rfl (by kernel_rfl) (by kernel_rfl) (by kernel_rfl) (fun _ _ _ h => h) (Or.inl ⟨by rfl, ?yk15⟩) hHeld ?rk15
            case yk15 => (intro w hSw; (try dsimp only at hSw); go_simp; try with_reducible rfl)
            simp only [Act.put, List.setIfInBounds_toArray, List.set_cons_zero, List.set_cons_succ]
            refine take_put (i := 16) (d := 34) (oi := _) (v := ?vk16) rfl rfl (by kernel_rfl) (by kernel_rfl) (by kernel_rfl) (fun _ _ _ h => h) (Or.inl ⟨by rfl, ?yk16⟩) hHeld ?rk16
            case yk16 => (intro w hSw; (try dsimp only at hSw); go_simp; try with_reducible rfl)
            simp only [Act.put, List.setIfInBounds_toArray, List.set_cons_zero, List.set_cons_succ]
            refine wpAnyH_done (by kernel_rfl) ?_ _
            have HF := Lib.hid hHeld
            clear hHeld an6 ap6
            have HW6 := Lib.hid (Apart.below HP6.out HS.out.bel.drew ha0)
            have HSN : Hid (St w0 a q z0 z b w6) := Lib.hid ⟨HS.out.perm, fun _ => HF.out.2, HA6.out, HW6.out, fun h => ⟨(HS.out.same h).1, (HSM.out h (HS.out.same h).2 (HS.out.same h).1).1⟩, HNO.out⟩
            have HON : Hid (b = true → Out2 (z0.map Prod.snd) (z.map Prod.snd) (i + 1 + 1)) := Lib.hid (fun h => by
              obtain ⟨h1, h2, h3⟩ := HPO.out hc0 h
              exact ⟨(HO.out h1).o.stop HT2.out HT1.out h2, (HO.out h1).s.stop HT2.out HT1.out (by omega)⟩)
            clear HNG HPO HCL HF HO HAT a0 a1 a2 a3 a4 a5 e0 e1 e2 e3 e4 e5
            go_wp2
            go_roundw
            case rel => exact ⟨i + 1, z, b, by go_num, Or.inl (by omega), HSN, HON⟩
            case measure => simp [intOf]; omega
    · have i1 : ¬ ((i : Int) + 1) < (z0.length : Int) := by omega
      have HF : Hid (ans = true → Ch (z.map Prod.snd) ∧ z.map Prod.snd = refS (z0.map Prod.snd)) := Lib.hid (fun h => by
        have h1 := HO.out h
        have h2 : z.length = z0.length := HS.out.perm.length_eq
        refine ⟨Out.done (fun p a b hp ha hb => h1.o p a b ?_ ha hb), h1.s.all (by rw [List.length_map]; omega)⟩
        rw [List.length_map] at hp
        omega)
      clear HO
      go_wp2
      go_end0
      exact ⟨z, ans, rfl, HS.out, HF.out⟩
set_option maxRecDepth 100000 in
set_option maxHeartbeats 2000000 in
theorem stable_any (w0 : World) (a q : Nat) (z0 : List (Six × JV)) (ao : Option Addr) (cap : Nat) (w : World) (hq : 0 < z0.length → ao = some ⟨q, 0, none⟩) (hqa : q ≠ a) (hq0 : w0.heap.size ≤ q) (ha0 : w0.heap.size ≤ a)
    (hz : ∀ p ∈ z0, ∃ n, VT w0 n p.1 p.2) (hn : z0.length ≤ 12) (hs : St w0 a q z0 z0 true w) :
    Calls Try.prog 54 #[.slice ao z0.length cap, .int .i64 (z0.length : Nat), .func (.func 37) #[] #[.pointer (some ⟨a, 0, none⟩)]] w (SoP w0 a q z0) := by
  have hi := ins_any w0 a q z0 ao cap w hq hqa hq0 ha0 hz hn hs
  have HI := Lib.hid hi
  clear hi hs hz hq
  have i1 : ¬ (20 : Int) ≤ (z0.length : Int) := by omega
  have i2 : ¬ (20 : Int) < (z0.length : Int) := by omega
  go_enter Try.func54, Try.ntmps54
  go_wp2
  go_loopw [7, 8] (fun x y wr => x = .int .i64 0 ∧ y = .int .i64 20 ∧ wr = w) (fun _ _ _ => 0)
  case atStart => exact ⟨rfl, rfl, rfl⟩
  case round =>
    obtain ⟨rfl, rfl, rfl⟩ := hrel
    go_wp2_with (go_at_call 74; refine HI.out.mono ?_; rintro e w1 ⟨z, ans, rfl, hst, hch⟩; have HST := Lib.hid hst; have HCH := Lib.hid hch; clear hst hch)
    go_loopw [6] (fun x wr => x = .int .i64 20 ∧ wr = w1) (fun _ _ => 0)
    case atStart => exact ⟨rfl, rfl⟩
    case round =>
      obtain ⟨rfl, rfl⟩ := hrel
      go_wp2
      go_end0
      exact ⟨z, ans, rfl, HST.out, HCH.out⟩
set_option maxRecDepth 100000 in
set_option maxHeartbeats 2000000 in
theorem ssf_any (w0 : World) (a q : Nat) (z0 : List (Six × JV)) (ao : Option Addr) (cap : Nat) (w : World) (hq : 0 < z0.length → ao = some ⟨q, 0, none⟩) (hqa : q ≠ a) (hq0 : w0.heap.size ≤ q) (ha0 : w0.heap.size ≤ a)
    (hz : ∀ p ∈ z0, ∃ n, VT w0 n p.1 p.2) (hn : z0.length ≤ 12) (hs : St w0 a q z0 z0 true w) :
    Calls Try.prog 36 #[.slice ao z0.length cap, .func (.func 37) #[] #[.pointer (some ⟨a, 0, none⟩)]] w (SoP w0 a q z0) := by
  have hi := stable_any w0 a q z0 ao cap w hq hqa hq0 ha0 hz hn hs
  have HI := Lib.hid hi
  clear hi hs hz hq
  go_enter Try.func36, Try.ntmps36
  go_wp2_with (go_at_call 54; refine HI.out.mono ?_; rintro e w1 ⟨z, ans, rfl, hst, hch⟩; have HST := Lib.hid hst; have HCH := Lib.hid hch; clear hst hch)
  go_end0
  exact ⟨z, ans, rfl, HST.out, HCH.out⟩
/-- what Clone answers -/
def CnP (w : World) (l : List Six) (e : Ending) (w' : World) : Prop := ∃ ao cap, e = .returned (.slice ao l.length cap) ∧ l.length ≤ cap ∧ cap ≤ maxLen ∧ (ao = none → cap = 0) ∧ (0 < l.length → ∃ g, ao = some ⟨g, 0, none⟩ ∧ w.heap.size ≤ g ∧ Rw6 w' g l) ∧ Below w.heap.size w w'
theorem row_of {w : World} {B : Nat} {v : Value} {l : List Six} (h : w.ownsRow B 27 6 v l.length (l.flatMap Six.cells)) : ∃ ao cap, v = .slice ao l.length cap ∧ l.length ≤ cap ∧ cap ≤ maxLen ∧ (ao = none → cap = 0) ∧ (0 < l.length → ∃ g, ao = some ⟨g, 0, none⟩ ∧ B ≤ g ∧ Rw6 w g l) := by
  have hc := h
  rcases h.2 with ⟨rfl, hl⟩ | ⟨g, cap, cur, rfl, hb, hg, hn, hm, hs, ht⟩
  · exact ⟨none, 0, by rw [hl], by omega, by decide, fun _ => rfl, fun h => by omega⟩
  · refine ⟨some ⟨g, 0, none⟩, cap, rfl, hn, hm, (fun h => by cases h), fun _ => ⟨g, rfl, hb, ⟨cur, hg⟩, fun i y hy => ?_⟩⟩
    have hil := (List.getElem?_eq_some_iff.1 hy).1
    have e : ∀ c u, y.cells[c]? = some u → w.cell? ⟨g, i * 6 + c, none⟩ = some u := fun c u hu => by
      have hc6 : c < 6 := by have := (List.getElem?_eq_some_iff.1 hu).1; simpa [Six.cells] using this
      rw [hc.cellAt (i * 6 + c) (by omega)]
      have h1 := flat_drop l i
      have h2 : (l.flatMap Six.cells)[i * 6 + c]? = ((l.flatMap Six.cells).drop (i * 6))[c]? := by rw [List.getElem?_drop]
      rw [h2, h1, List.drop_eq_getElem_cons hil, List.flatMap_cons, List.getElem?_append_left (by rw [Six.cells_len]; exact hc6)]
      rw [← (List.getElem?_eq_some_iff.1 hy).2] at hu
      exact hu
    exact ⟨e 0 _ rfl, e 1 _ rfl, e 2 _ rfl, e 3 _ rfl, e 4 _ rfl, e 5 _ rfl⟩
set_option maxRecDepth 100000 in
set_option maxHeartbeats 4000000 in
theorem clone_any (v : Value) (l : List Six) (w : World) (hv : Vs w v l) (h1 : ∀ y ∈ l, y.one) (hn : l.length ≤ 12) : Calls Try.prog 35 #[v] w (CnP w l) := by
  obtain ⟨i0, hi, hz0, hz1, hz2⟩ := info_parts infoV
  have hcs := hv.cs h1
  have hnil : ∀ (a : Option Addr) (n c : Nat) (w : World), (binOp .eql 24 (.slice a n c) (.slice none 0 0)).run Try.prog w = .ok (.bool a.isNone) w := fun a n c w => Lib.run_eql_slice_nil w _ _ a n c 0 0 Try.underlying24
  obtain ⟨ao, cap, rfl, hlc, hcm, hno, hh⟩ := hv
  cases ao with
  | none =>
    obtain rfl := hno rfl
    have hl0 : l.length = 0 := by omega
    have HL := Lib.hid hl0
    obtain rfl : l = [] := List.length_eq_zero_iff.1 hl0
    clear hcs hh hno hl0 hi hz0 hz1 hz2
    go_enter Try.func35, Try.ntmps35
    go_wp2
    go_ret
    exact ⟨none, 0, rfl, by decide, by decide, fun _ => rfl, (fun h => by simp at h), Below.refl _ _⟩
  | some ad =>
    have HC := Lib.hid hcs
    have hat := Lib.hid (Cs.at (Cs.on hcs (bA1 w (Obj.cells #[] 27))))
    have hown : (w.alloc (Obj.cells #[] 27)).ownsRow w.heap.size 27 6 (.slice (some ⟨w.heap.size, 0, none⟩) 0 0) 0 [] := World.ownsRow_lit w #[] 0 (Nat.le_refl _) (by decide) (by decide)
    have HO := Lib.hid hown
    have hbs : w.heap.size ≤ (w.alloc (Obj.cells #[] 27)).heap.size := by simp
    unfold maxLen at hcm
    clear hcs hh hno hown
    go_enter Try.func35, Try.ntmps35
    go_wp2_with (at_builtin; refine wpList_append_own _ rfl _ _ 24 rfl w.heap.size 27 i0 _ 6 88 Try.underlying24 hi hz0 hz1 hz2 rfl (by decide) _ _ _ rfl HO.out ad l.length _ (l.flatMap Six.cells) rfl HC.out.1 hat.out HC.out.2.1 ?d01 ?d02 hbs ?d03)
    case d01 => unfold maxLen; omega
    case d02 => omega
    case d03 =>
      intro v' w2 hown' hgrow _
      have HW' := Lib.hid (own_bel (bA1 w (Obj.cells #[] 27)) HO.out (Nat.le_refl _) hgrow)
      have hrw := row_of (l := l) (B := w.heap.size) (w := w2) (v := v') (by simpa using hown')
      obtain ⟨ao, cap', rfl, k1, k2, k3, k4⟩ := hrw
      have H4 := Lib.hid k4
      have H3 := Lib.hid k3
      clear hown' hgrow k3 k4
      go_wp2
      go_ret
      exact ⟨ao, cap', rfl, k1, k2, H3.out, H4.out, HW'.out⟩
/-- what Sort answers -/
def SrP (w : World) (ts : List JV) (v' : Value) (ok : Bool) (w' : World) : Prop := Below w.heap.size w w' ∧ (ok = false → v' = .slice none 0 0 ∧ ¬ ts.Pairwise Ans) ∧
  (ok = true → Ch (refS ts) ∧ (refS ts).Perm ts ∧ ∃ ao cap l', v' = .slice ao ts.length cap ∧ ts.length ≤ cap ∧ cap ≤ maxLen ∧ (0 < ts.length → ∃ q, ao = some ⟨q, 0, none⟩ ∧ w.heap.size ≤ q ∧ Rw6 w' q l') ∧ Vs w' v' l' ∧ l'.length = ts.length ∧ (∀ (j : Nat) (y : Six) (z : JV), l'[j]? = some y → (refS ts)[j]? = some z → ∃ n, VT w n y z))
/-- what Sort answers, as an ending -/
def SrE (w : World) (ts : List JV) (e : Ending) (w' : World) : Prop := ∃ ao n cap ok, e = .returned (.tuple #[.slice ao n cap, .bool ok]) ∧ SrP w ts (.slice ao n cap) ok w'
set_option maxRecDepth 100000 in
set_option maxHeartbeats 4000000 in
theorem sort_any (v : Value) (l : List Six) (ts : List JV) (w : World) (hv : Vs w v l) (hl : l.length = ts.length) (ht : ∀ (j : Nat) (y : Six) (z : JV), l[j]? = some y → ts[j]? = some z → ∃ n, VT w n y z) (hn : l.length ≤ 12) :
    Calls Try.prog 17 #[v] w (SrE w ts) := by
  have hone : ∀ y ∈ l, y.one := fun y hy => by
    obtain ⟨j, hj⟩ := List.getElem?_of_mem hy
    have hjl := (List.getElem?_eq_some_iff.1 hj).1
    obtain ⟨n, h⟩ := ht j y _ hj (List.getElem?_eq_getElem (by omega))
    exact h.one
  have hcn := clone_any v l w hv hone hn
  obtain ⟨z0, hz0⟩ : ∃ z0, l.zip ts = z0 := ⟨_, rfl⟩
  have hm1 : z0.map Prod.fst = l := by rw [← hz0]; exact List.map_fst_zip (by omega)
  have hm2 : z0.map Prod.snd = ts := by rw [← hz0]; exact List.map_snd_zip (by omega)
  have hzl : z0.length = l.length := by rw [← hm1, List.length_map]
  have hzv : ∀ p ∈ z0, ∃ n, VT w n p.1 p.2 := fun p hp => by
    rw [← hz0] at hp
    obtain ⟨j, hj⟩ := List.getElem?_of_mem hp
    obtain ⟨g1, g2⟩ := List.getElem?_zip_eq_some.1 hj
    exact ht j p.1 p.2 g1 g2
  have hfin : ∀ (q a : Nat) (z : List (Six × JV)) (ans : Bool) (w' : World) (ao : Option Addr) (cap : Nat), l.length ≤ cap → cap ≤ maxLen → (ao = none → cap = 0) → (0 < l.length → ao = some ⟨q, 0, none⟩) → w.heap.size ≤ q → St w a q z0 z ans w' → (ans = true → Ch (z.map Prod.snd) ∧ z.map Prod.snd = refS (z0.map Prod.snd)) → ans = true → SrP w ts (.slice ao l.length cap) true w' := by
    intro q a z ans w' ao cap k1 k2 k3 k4 k5 hst hch ha
    have hzz : z.length = l.length := by rw [hst.perm.length_eq, hzl]
    obtain ⟨c1, c2⟩ := hch ha
    rw [hm2] at c2
    refine ⟨hst.bel, (fun h => by cases h), fun _ => ⟨by rw [← c2]; exact c1, by rw [← c2, ← hm2]; exact hst.perm.map _, ao, cap, z.map Prod.fst, by rw [hl], by rw [← hl]; exact k1, k2, fun h0 => ⟨q, k4 (by omega), k5, hst.row (by omega)⟩, ?_, by rw [List.length_map, hzz, hl], fun j y u hy hu => ?_⟩⟩
    · refine ⟨ao, cap, by rw [List.length_map, hzz], by rw [List.length_map, hzz]; exact k1, k2, k3, fun h0 => ?_⟩
      rw [List.length_map, hzz] at h0
      have hr := hst.row (by omega)
      exact ⟨q, 0, k4 h0, hr.lt, fun j y hj => by rw [Nat.zero_add]; exact hr.at6 j y hj⟩
    · rw [← c2] at hu
      rw [List.getElem?_map] at hy hu
      obtain ⟨p, hp, rfl⟩ := Option.map_eq_some_iff.1 hy
      rw [hp] at hu
      obtain rfl := Option.some.inj hu
      exact hzv p (hst.perm.mem_iff.1 (List.mem_of_getElem? hp))
  have hssf := fun (a q : Nat) (ao : Option Addr) (cap : Nat) (w2 : World) (hq : 0 < l.length → ao = some ⟨q, 0, none⟩) (hqa : q ≠ a) (hq0 : w.heap.size ≤ q) (ha0 : w.heap.size ≤ a) (hr : 0 < l.length → Rw6 w2 q l) (ha : An w2 a true) (hb : Below w.heap.size w w2) =>
    ssf_any w a q z0 ao cap w2 (by rw [hzl]; exact hq) hqa hq0 ha0 hzv (by omega) ⟨.refl _, fun h => by rw [hm1]; exact hr (by omega), ha, hb, fun _ => ⟨rfl, rfl⟩, fun h => by cases h⟩
  rw [hzl] at hssf
  have HCN := Lib.hid hcn
  have HFIN := Lib.hid hfin
  have HSF := Lib.hid hssf
  have HSAME : Hid (∀ (a q : Nat) (z : List (Six × JV)) (ans : Bool) (w' : World), St w a q z0 z ans w' → ans = false → ¬ ts.Pairwise Ans) := Lib.hid (fun a q z ans w' hst h => by rw [← hm2]; exact hst.no h)
  have hmf : ∀ (fn : Fn) (first cap : Array Value) (w : World), (Instr.makeFunc fn first cap).run Try.prog w = .ok (.func fn first cap) w := fun _ _ _ _ => rfl
  clear hcn hfin hssf hz0 hm1 hm2 hzl hzv hone hv hl ht
  go_enter Try.func17, Try.ntmps17
  go_upto_region 2 with (go_at_call 35; refine HCN.out.mono ?_; rintro e w1 ⟨ao, cap, rfl, k1, k2, k3, k4, b1⟩; have K3 := Lib.hid k3; have K4 := Lib.hid k4; have HB1 := Lib.hid b1; clear k3 k4 b1)
  have hq : ∃ q, (0 < l.length → ao = some ⟨q, 0, none⟩) ∧ (0 < l.length → Rw6 w1 q l) ∧ w.heap.size ≤ q ∧ q ≠ w1.heap.size := by
    by_cases h0 : 0 < l.length
    · obtain ⟨g, h1, h2, h3⟩ := K4.out h0
      exact ⟨g, fun _ => h1, fun _ => h3, h2, Nat.ne_of_lt h3.lt⟩
    · exact ⟨w1.heap.size + 1, fun h => absurd h h0, fun h => absurd h h0, by have := HB1.out.size; omega, by omega⟩
  obtain ⟨q, q1, q2, q3, q4⟩ := hq
  have ha : An (w1.alloc (Obj.cells #[.bool true] 4)) w1.heap.size true := heap_alloc_new w1 _
  have hsf := HSF.out w1.heap.size q ao cap (w1.alloc (Obj.cells #[.bool true] 4)) q1 q4 q3 HB1.out.size (fun h => (q2 h).on ((bA1 w1 _).block q (q2 h).lt)) ha (bT HB1.out (bA1 _ _))
  have HSFI := Lib.hid hsf
  have Q1 := Lib.hid q1
  have Q3 := Lib.hid q3
  clear hsf ha q1 q2 K4 HSF HCN
  go_wp2_with (go_at_call 36; refine HSFI.out.mono ?_; rintro e w3 ⟨z, ans, rfl, hst, hch⟩; have HST := Lib.hid hst; have HCH := Lib.hid hch; clear hst hch; have c0 := HST.out.an.cell; cases ans)
  all_goals go_ret2
  · exact ⟨none, 0, 0, false, rfl, HST.out.bel, fun _ => ⟨rfl, HSAME.out _ _ _ _ _ HST.out rfl⟩, fun h => by cases h⟩
  · exact ⟨ao, l.length, cap, true, rfl, HFIN.out q _ z true w3 ao cap k1 k2 K3.out Q1.out Q3.out HST.out (fun _ => HCH.out (by trivial)) rfl⟩
end Od
end Go.Proofs.Ytkmfoclhhnhkdaa
