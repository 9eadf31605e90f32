/- order.Sort of at most 12 values: they are in order, each as often as it was, or two that were compared have no answer. -/
import Derived.Test.YtkmfoclhhnhkdaaOdCmp
import Derived.Test.YtkmfoclhhnhkdaaOdSortM
import Derived.BigRegion
import Derived.RegionTactic
import Derived.ChangeAlike
namespace Go.Proofs.Ytkmfoclhhnhkdaa
open Go.RowKit
namespace Od
open _root_.Go.Proofs.Ytkmfoclhhnhkdaa.Nm _root_.Go.Proofs.Ytkmfoclhhnhkdaa.Jv
theorem cmpR_neg (t u : JV) : cmpR u t = (-(cmpR t u).1, (cmpR t u).2) := by
  unfold cmpR
  rw [cmpV_neg t u]
  cases cmpV t u 4096 with
  | none => rfl
  | some p => rfl
theorem cmpR_no {t u : JV} (h : (cmpR t u).2 = false) : (cmpR t u).1 = 0 := by
  unfold cmpR at h ⊢
  cases hq : cmpV t u 4096 with
  | none => rfl
  | some p => rw [hq] at h; cases h
/-- one isn't behind the other, and there is an answer -/
def G (t u : JV) : Prop := (cmpR t u).2 = true ∧ (cmpR t u).1 ≤ 0
theorem G_back {t u : JV} (h : (cmpR u t).2 = true) (h' : ¬ (cmpR u t).1 < 0) : G t u := by
  have := cmpR_neg u t
  unfold G
  rw [this]
  exact ⟨h, by show -(cmpR u t).1 ≤ 0; omega⟩
theorem G_back' {t u : JV} (h : G t u) : (cmpR u t).2 = true ∧ ¬ (cmpR u t).1 < 0 := by
  have := cmpR_neg t u
  rw [this]
  exact ⟨h.1, by show ¬ -(cmpR t u).1 < 0; have := h.2; omega⟩
/-- neighbours rise -/
def Ch (z : List JV) : Prop := ∀ (i : Nat) (a b : JV), z[i]? = some a → z[i + 1]? = some b → G a b
/-- what holds of a list while one is put into its place: i are in order, and one is on its way down from i, at j -/
structure In (z : List JV) (i j : Nat) : Prop where
  lo : ∀ (p : Nat) (a b : JV), p + 1 < j → z[p]? = some a → z[p + 1]? = some b → G a b
  hi : ∀ (p : Nat) (a b : JV), j < p → p + 1 ≤ i → z[p]? = some a → z[p + 1]? = some b → G a b
  mid : ∀ (a b : JV), 0 < j → j + 1 ≤ i → z[j - 1]? = some a → z[j + 1]? = some b → G a b
  nxt : ∀ (a b : JV), j + 1 ≤ i → z[j]? = some a → z[j + 1]? = some b → G a b
/-- the first i are in order -/
def Out (z : List JV) (i : Nat) : Prop := ∀ (p : Nat) (a b : JV), p + 1 < i → z[p]? = some a → z[p + 1]? = some b → G a b
theorem Out.start {z : List JV} : Out z 1 := fun p a b h => by omega
theorem Out.into {z : List JV} {i : Nat} (h : Out z i) : In z i i := ⟨h, fun p a b h1 h2 => by omega, fun a b h1 h2 => by omega, fun a b h1 => by omega⟩
theorem Out.done {z : List JV} (h : Out z z.length) : Ch z := fun i a b ha hb => h i a b (List.getElem?_eq_some_iff.1 hb).1 ha hb
theorem In.stop0 {z : List JV} {i : Nat} (h : In z i 0) : Out z (i + 1) := fun p a b hp ha hb => by
  cases p with
  | zero => exact h.nxt a b (by omega) ha hb
  | succ p => exact h.hi (p + 1) a b (by omega) (by omega) ha hb
theorem In.stop {z : List JV} {i j : Nat} {x y : JV} (h : In z i (j + 1)) (hy : z[j]? = some y) (hx : z[j + 1]? = some x) (hg : G y x) : Out z (i + 1) := fun p a b hp ha hb => by
  rcases Nat.lt_trichotomy p j with h1 | h1 | h1
  · exact h.lo p a b (by omega) ha hb
  · subst h1
    rw [hy] at ha
    rw [hx] at hb
    obtain rfl := Option.some.inj ha
    obtain rfl := Option.some.inj hb
    exact hg
  · by_cases h2 : p = j + 1
    · subst h2; exact h.nxt a b (by omega) ha hb
    · exact h.hi p a b (by omega) (by omega) ha hb
theorem In.step {z : List JV} {i j : Nat} {x y : JV} (h : In z i (j + 1)) (hi : i < z.length) (hji : j + 1 ≤ i) (hy : z[j]? = some y) (hx : z[j + 1]? = some x) (hg : G x y) : In (sw z j) i j := by
  have hj : j + 1 < z.length := by omega
  have g := sw_get z j hj
  refine ⟨fun p a b hp ha hb => ?_, fun p a b h1 h2 ha hb => ?_, fun a b h1 h2 ha hb => ?_, fun a b h1 ha hb => ?_⟩
  · rw [g, if_neg (by omega), if_neg (by omega)] at ha hb
    exact h.lo p a b (by omega) ha hb
  · by_cases hp : p = j + 1
    · subst hp
      rw [g, if_neg (by omega), if_pos rfl] at ha
      rw [g, if_neg (by omega), if_neg (by omega)] at hb
      exact h.mid a b (by omega) (by omega) (by rw [Nat.add_sub_cancel]; exact ha) hb
    · rw [g, if_neg (by omega), if_neg (by omega)] at ha hb
      exact h.hi p a b (by omega) (by omega) ha hb
  · rw [g, if_neg (by omega), if_neg (by omega)] at ha
    rw [g, if_neg (by omega), if_pos rfl] at hb
    have := h.lo (j - 1) a b (by omega) ha (by rw [show j - 1 + 1 = j by omega]; exact hb)
    exact this
  · rw [g, if_pos rfl] at ha
    rw [g, if_neg (by omega), if_pos rfl] at hb
    rw [hx] at ha
    rw [hy] at hb
    obtain rfl := Option.some.inj ha
    obtain rfl := Option.some.inj hb
    exact hg
/-- the cell that tells whether there was an answer -/
def An (w : World) (a : Nat) (b : Bool) : Prop := w.heap[a]? = some (.cells #[.bool b] 4 (0, 0))
section
variable {w w' : World} {a : Nat} {b : Bool}
theorem An.lt (h : An w a b) : a < w.heap.size := (Array.getElem?_eq_some_iff.1 h).1
theorem An.cell (h : An w a b) : w.cell? ⟨a, 0, none⟩ = some (.bool b) := cell_of_row w a 0 _ _ _ h
theorem An.free (h : An w a b) : w.frozen? ⟨a, 0, none⟩ = false := by
  unfold An at h
  simp [World.frozen?, h]
theorem An.on (h : An w a b) (hb : Below w.heap.size w w') : An w' a b := (hb.block a h.lt).trans h
theorem An.set (h : An w a b) (c : Bool) : An (w.setCell ⟨a, 0, none⟩ (.bool c)) a c := by
  unfold An at h ⊢
  simp [World.setCell, Array.getElem?_modify, h]
end
/-- nothing but one block turns -/
structure Apart (a : Nat) (w w' : World) : Prop where
  os : w'.os = w.os
  tape : w'.tape = w.tape
  output : w'.output = w.output
  size : w.heap.size ≤ w'.heap.size
  block : ∀ k, k < w.heap.size → k ≠ a → w'.heap[k]? = w.heap[k]?
theorem Apart.of {a : Nat} {w w' : World} (h : Below w.heap.size w w') : Apart a w w' := ⟨h.os, h.tape, h.output, h.size, fun k hk _ => h.block k hk⟩
theorem Apart.set {a : Nat} {w w' : World} (h : Apart a w w') (o : Nat) (u : Value) : Apart a w (w'.setCell ⟨a, o, none⟩ u) :=
  ⟨h.os, h.tape, h.output, by simpa using h.size, fun k hk hne => (Below.heap_setCell w' ⟨a, o, none⟩ u k hne).trans (h.block k hk hne)⟩
theorem Apart.below {a : Nat} {w0 w w' : World} (h : Apart a w w') (hb : Below w0.heap.size w0 w) (ha : w0.heap.size ≤ a) : Below w0.heap.size w0 w' :=
  ⟨h.os.trans hb.os, h.tape.trans hb.tape, h.output.trans hb.output, Nat.le_trans hb.size h.size, fun k hk => (h.block k (Nat.lt_of_lt_of_le hk hb.size) (by omega)).trans (hb.block k hk)⟩
set_option maxRecDepth 100000 in
set_option maxHeartbeats 4000000 in
theorem clo_any (n m : Nat) (x y : Six) (t u : JV) (a : Nat) (ans : Bool) (w : World) (hx : VT w n x t) (hy : VT w m y u) (ha : An w a ans) :
    Calls Try.prog 37 #[x.val, y.val, .pointer (some ⟨a, 0, none⟩)] w fun e w' => e = .returned (.int .i64 (if ans = true then (cmpR t u).1 else 0)) ∧ An w' a (ans && (cmpR t u).2) ∧ Apart a w w' := by
  have hcp := fun wx (h : Below w.heap.size w wx) => compare_any n m x y t u wx (VT.on h n hx) (VT.on h m hy)
  obtain ⟨c, hc⟩ : ∃ c, (cmpR t u).1 = c := ⟨_, rfl⟩
  obtain ⟨b, hb⟩ : ∃ b, (cmpR t u).2 = b := ⟨_, rfl⟩
  rw [hc, hb] at hcp
  rw [hc, hb]
  unfold Six.val vV at hcp ⊢
  have HCP := Lib.hid hcp
  have hw := bA2 w (Obj.cells #[.int .i64 x.k, .int .i64 x.c, .int .i64 x.s, .string x.st, x.iv, x.kv] 27) (Obj.cells #[.int .i64 y.k, .int .i64 y.c, .int .i64 y.s, .string y.st, y.iv, y.kv] 27)
  have HV : Hid (Vb ((w.alloc (Obj.cells #[.int .i64 x.k, .int .i64 x.c, .int .i64 x.s, .string x.st, x.iv, x.kv] 27)).alloc (Obj.cells #[.int .i64 y.k, .int .i64 y.c, .int .i64 y.s, .string y.st, y.iv, y.kv] 27)) w.heap.size #[.int .i64 x.k, .int .i64 x.c, .int .i64 x.s, .string x.st, x.iv, x.kv] ∧ Vb ((w.alloc (Obj.cells #[.int .i64 x.k, .int .i64 x.c, .int .i64 x.s, .string x.st, x.iv, x.kv] 27)).alloc (Obj.cells #[.int .i64 y.k, .int .i64 y.c, .int .i64 y.s, .string y.st, y.iv, y.kv] 27)) (w.heap.size + 1) #[.int .i64 y.k, .int .i64 y.c, .int .i64 y.s, .string y.st, y.iv, y.kv]) := Lib.hid ⟨(Vb.new w _).alloc _, by simpa using Vb.new (w.alloc (Obj.cells #[.int .i64 x.k, .int .i64 x.c, .int .i64 x.s, .string x.st, x.iv, x.kv] 27)) #[.int .i64 y.k, .int .i64 y.c, .int .i64 y.s, .string y.st, y.iv, y.kv]⟩
  have HA := Lib.hid (ha.on hw)
  have c0 := HA.out.cell
  have HW := Lib.hid hw
  clear hcp hc hb hx hy ha hw
  go_enter Try.func37, Try.ntmps37
  cases ans with
  | false =>
    go_wp2_with fail
    go_ret
    exact ⟨rfl, HA.out, Apart.of HW.out⟩
  | true =>
    go_upto_region 3 with (fail)
    obtain ⟨x0, x1, x2, x3, x4, x5⟩ := HV.out.1.six
    obtain ⟨y0, y1, y2, y3, y4, y5⟩ := HV.out.2.six
    go_wp2_with (go_at_call 23; refine (HCP.out _ HW.out).mono ?_; rintro e w1 ⟨rfl, b1⟩; have HA1 := Lib.hid (HA.out.on b1); have HW1 := Lib.hid (bT HW.out b1); have f1 := HA1.out.free; have c1 := HA1.out.cell)
    go_ret
    exact ⟨rfl, HA1.out.set b, (Apart.of HW1.out).set _ _⟩
theorem Rw6.drew {w : World} {q : Nat} {s : List Six} (h : Rw6 w q s) : Rw6 w.drew q s := h.on rfl
theorem An.drew {w : World} {a : Nat} {b : Bool} (h : An w a b) : An w.drew a b := h
theorem An.st6 {w : World} {a q p : Nat} {y : Six} {b : Bool} (h : An w a b) (hq : q ≠ a) : An (st6 w q p y) a b := by
  unfold An Od.st6
  rw [heap_far (Ne.symm hq), heap_far (Ne.symm hq), heap_far (Ne.symm hq), heap_far (Ne.symm hq), heap_far (Ne.symm hq), heap_far (Ne.symm hq)]
  exact h
theorem below_st6 {B : Nat} {w0 w : World} {q p : Nat} {y : Six} (h : Below B w0 w) (hq : B ≤ q) : Below B w0 (st6 w q p y) := by
  unfold Od.st6
  exact ((((((h.setCell hq _).setCell hq _).setCell hq _).setCell hq _).setCell hq _).setCell hq _)
/-- how far a list is sorted -/
structure St (w0 : World) (a q : Nat) (z0 z : List (Six × JV)) (ans : Bool) (w : World) : Prop where
  perm : z.Perm z0
  row : 0 < z0.length → Rw6 w q (z.map Prod.fst)
  an : An w a ans
  bel : Below w0.heap.size w0 w
  same : Ch (z0.map Prod.snd) → z = z0 ∧ ans = true
/-- what a row is while it is sorted -/
def Si (w0 : World) (q : Nat) (s : List Six) (w : World) : Prop := Below w0.heap.size w0 w ∧ Rw6 w q s
/-- what the sorting leaves -/
def SoP (w0 : World) (a q : Nat) (z0 : List (Six × JV)) (e : Ending) (w' : World) : Prop := ∃ z ans, e = .returned (.tuple #[]) ∧ St w0 a q z0 z ans w' ∧ (ans = true → Ch (z.map Prod.snd))
set_option maxRecDepth 100000 in
set_option maxHeartbeats 16000000 in
theorem ins_any (w0 : World) (a q : Nat) (z0 : List (Six × JV)) (ao : Option Addr) (cap : Nat) (w : World) (hq : 0 < z0.length → ao = some ⟨q, 0, none⟩) (hqa : q ≠ a) (hq0 : w0.heap.size ≤ q) (ha0 : w0.heap.size ≤ a)
    (hz : ∀ p ∈ z0, ∃ n, VT w0 n p.1 p.2) (hn : z0.length ≤ 12) (hs : St w0 a q z0 z0 true w) :
    Calls Try.prog 74 #[.slice ao z0.length cap, .int .i64 0, .int .i64 (z0.length : Nat), .func (.func 37) #[] #[.pointer (some ⟨a, 0, none⟩)]] w (SoP w0 a q z0) := by
  have HQ := Lib.hid hq
  have HZ := Lib.hid hz
  have HS0 := Lib.hid hs
  clear hq hz hs
  go_enter Try.func74, Try.ntmps74
  go_wp2
  go_loopw [8] (fun iv wr => ∃ (i : Nat) (z : List (Six × JV)) (ans : Bool), iv = .int .i64 ((i : Nat) + 1) ∧ (i + 1 ≤ z0.length ∨ i = 0) ∧ Hid (St w0 a q z0 z ans wr) ∧ Hid (ans = true → Out (z.map Prod.snd) (i + 1))) (fun iv _ => z0.length - (intOf iv).toNat)
  case atStart => exact ⟨0, z0, true, rfl, Or.inr rfl, HS0, Lib.hid (fun _ => Out.start)⟩
  case round =>
    clear HS0
    obtain ⟨i, z, ans, rfl, hi, HS, HO⟩ := hrel
    by_cases hlt : i + 1 < z0.length
    · skip
      have hz0 : 0 < z0.length := by omega
      obtain rfl := HQ.out hz0
      have i1 : ((i : Int) + 1) < (z0.length : Int) := by omega
      have HO' : Hid (ans = true → In (z.map Prod.snd) (i + 1) (i + 1)) := Lib.hid (fun h => (HO.out h).into)
      clear HO
      go_wp2
      go_loopw [9] (fun jv wr => ∃ (j : Nat) (z : List (Six × JV)) (ans : Bool), jv = .int .i64 (j : Nat) ∧ j ≤ i + 1 ∧ Hid (St w0 a q z0 z ans wr) ∧ Hid (ans = true → In (z.map Prod.snd) (i + 1) j)) (fun jv _ => (intOf jv).toNat)
      case atStart => exact ⟨i + 1, z, ans, by go_num, by omega, HS, HO'⟩
      case round =>
        clear HS HO'
        obtain ⟨j, z, ans, rfl, hj, HS, HO⟩ := hrel
        have hzl : z.length = z0.length := HS.out.perm.length_eq
        cases j with
        | zero =>
          have HO2 : Hid (ans = true → Out (z.map Prod.snd) (i + 1 + 1)) := Lib.hid (fun h => (HO.out h).stop0)
          have hzz : decide ((0 : Int) < 0) = false := by decide
          have HZL := Lib.hid hzl
          clear HO hzl
          go_wp2
          go_quiet (fail)
          go_wp2
          go_roundw
          case rel => exact ⟨i + 1, z, ans, by go_num, Or.inl (by omega), Lib.hid ⟨HS.out.perm, fun h => (HS.out.row h).on (by obtain ⟨m, hm⟩ : ∃ m, wr.drewN nq = wr.drewN m := ⟨_, rfl⟩; exact (Jv.bN (Below.refl wr.heap.size wr) nq).block q (HS.out.row h).lt), HS.out.an.on (Jv.bN (Below.refl _ _) _), Jv.bN HS.out.bel _, HS.out.same⟩, HO2⟩
          case measure => simp [intOf]; omega
        | succ j =>
          obtain ⟨p1, hp1⟩ : ∃ p, z[j + 1]? = some p := ⟨_, List.getElem?_eq_getElem (by omega)⟩
          obtain ⟨p2, hp2⟩ : ∃ p, z[j]? = some p := ⟨_, List.getElem?_eq_getElem (by omega)⟩
          obtain ⟨n1, hv1⟩ := HZ.out p1 (HS.out.perm.mem_iff.1 (List.mem_of_getElem? hp1))
          obtain ⟨n2, hv2⟩ := HZ.out p2 (HS.out.perm.mem_iff.1 (List.mem_of_getElem? hp2))
          obtain ⟨x, t⟩ := p1
          obtain ⟨y, u⟩ := p2
          simp only at hv1 hv2
          obtain ⟨⟨xa, xb, xc2, g1⟩, xd, xe, xf, g2⟩ := hv1.one
          obtain ⟨⟨ya, yb, yc2, g3⟩, yd, ye, yf, g4⟩ := hv2.one
          have s1 : (z.map Prod.fst)[j + 1]? = some x := by rw [List.getElem?_map, hp1]; rfl
          have s2 : (z.map Prod.fst)[j]? = some y := by rw [List.getElem?_map, hp2]; rfl
          have t1 : (z.map Prod.snd)[j + 1]? = some t := by rw [List.getElem?_map, hp1]; rfl
          have t2 : (z.map Prod.snd)[j]? = some u := by rw [List.getElem?_map, hp2]; rfl
          have hcl := fun wx (h : Below w0.heap.size w0 wx) (h' : An wx a ans) => clo_any n1 n2 x y t u a ans wx (VT.on h n1 hv1) (VT.on h n2 hv2) h'
          obtain ⟨c, hc⟩ : ∃ c, (if ans = true then (cmpR t u).1 else 0) = c := ⟨_, rfl⟩
          obtain ⟨b, hb⟩ : ∃ b, (ans && (cmpR t u).2) = b := ⟨_, rfl⟩
          rw [hc, hb] at hcl
          have hat1 : ∀ wx, Si w0 q (z.map Prod.fst) wx → At6 wx q ((j + 1) * 6) x := fun wx h => h.2.at6 _ _ s1
          have hat2 : ∀ wx, Si w0 q (z.map Prod.fst) wx → At6 wx q (j * 6) y := fun wx h => h.2.at6 _ _ s2
          have HSW : Hid (∀ wx, Rw6 wx q (z.map Prod.fst) → Rw6 (st6 (st6 wx q ((j + 1) * 6) y) q (j * 6) x) q (sw (z.map Prod.fst) j)) := Lib.hid (fun wx h => h.swap s1 s2)
          have HNG : Hid (c < 0 → ans = true ∧ b = true ∧ G t u) := Lib.hid (fun h => by
            cases ans with
            | false => rw [← hc] at h; simp at h
            | true =>
              rw [if_pos rfl] at hc
              rw [Bool.true_and] at hb
              cases hb' : (cmpR t u).2 with
              | false => have := cmpR_no hb'; omega
              | true => exact ⟨rfl, by rw [← hb, hb'], hb', by omega⟩)
          have HPO : Hid (¬ c < 0 → b = true → ans = true ∧ G u t) := Lib.hid (fun h h' => by
            rw [← hb, Bool.and_eq_true] at h'
            rw [if_pos h'.1] at hc
            exact ⟨h'.1, G_back h'.2 (by rw [hc]; exact h)⟩)
          have HSM : Hid (Ch (z0.map Prod.snd) → ans = true → z = z0 → b = true ∧ ¬ c < 0) := Lib.hid (fun h h1 h2 => by
            have hg := G_back' (h j u t (by rw [← h2]; exact t2) (by rw [← h2]; exact t1))
            rw [← hb, ← hc, if_pos h1, h1]
            exact ⟨hg.1, hg.2⟩)
          have HT1 := Lib.hid t1
          have HT2 := Lib.hid t2
          have HCL := Lib.hid hcl
          have HZL := Lib.hid hzl
          clear hp1 hp2 hv1 hv2 s1 s2 t1 t2 hcl hc hb hzl
          obtain ⟨xk, xc, xs, xst, xi, xv⟩ := x
          obtain ⟨yk, yc, ys, yst, yi, yv⟩ := y
          simp only at g1 g2 g3 g4
          subst g1 g2 g3 g4
          unfold Six.val vV at HCL
          simp only at HCL
          have a0 := fun wx h => (hat1 wx h).1
          have a1 := fun wx h => (hat1 wx h).2.1
          have a2 := fun wx h => (hat1 wx h).2.2.1
          have a3 := fun wx h => (hat1 wx h).2.2.2.1
          have a4 := fun wx h => (hat1 wx h).2.2.2.2.1
          have a5 := fun wx h => (hat1 wx h).2.2.2.2.2
          have e0 := fun wx h => (hat2 wx h).1
          have e1 := fun wx h => (hat2 wx h).2.1
          have e2 := fun wx h => (hat2 wx h).2.2.1
          have e3 := fun wx h => (hat2 wx h).2.2.2.1
          have e4 := fun wx h => (hat2 wx h).2.2.2.2.1
          have e5 := fun wx h => (hat2 wx h).2.2.2.2.2
          simp only at a0 a1 a2 a3 a4 a5 e0 e1 e2 e3 e4 e5
          have HAT := Lib.hid (And.intro hat1 hat2)
          have j1 : ((j : Int) + 1) < (z0.length : Int) := by omega
          have j2 : (j : Int) < (z0.length : Int) := by omega
          have j3 : ((j : Int) + 1 - 1) = (j : Int) := by omega
          have j4 : (0 : Int) < (j : Int) + 1 := by omega
          have j5 : decide ((0 : Int) < (j : Int) + 1) = true := decide_eq_true (by omega)
          have j6 : ((j : Int) + 1).toNat = j + 1 := by omega
          have j9 : (0 : Int) ≤ (j : Int) + 1 := by omega
          have j10 : IntKind.i64.wrap (j : Int) = (j : Int) := IntWalk.i64_in _ (by omega)
          have j7 : j + 1 < z0.length := by omega
          have j8 : j < z0.length := by omega
          clear hat1 hat2
          by_cases hc0 : c < 0
          · skip
            have hcd : decide (c < 0) = true := decide_eq_true hc0
            go_wp2
            refine wp_region_held_drew (S := Si w0 q (z.map Prod.fst)) (by kernel_rfl) (show Si w0 q (z.map Prod.fst) wr.drew from ⟨HS.out.bel.drew, (HS.out.row hz0).on rfl⟩) (fun hHeld => ?_)
            refine take_put (i := 0) (d := 18) (oi := _) (v := ?vm0) rfl rfl (by kernel_rfl) (by kernel_rfl) (by kernel_rfl) (fun _ _ _ h => h) (Or.inl ⟨by rfl, ?ym0⟩) hHeld ?rm0
            case ym0 => (intro w hSw; (try dsimp only at hSw); go_simp; try with_reducible rfl)
            simp only [Act.put, List.setIfInBounds_toArray, List.set_cons_zero, List.set_cons_succ]
            refine take_put (i := 1) (d := 19) (oi := _) (v := ?vm1) rfl rfl (by kernel_rfl) (by kernel_rfl) (by kernel_rfl) (fun _ _ _ h => h) (Or.inl ⟨by rfl, ?ym1⟩) hHeld ?rm1
            case ym1 => (intro w hSw; (try dsimp only at hSw); go_simp; try with_reducible rfl)
            simp only [Act.put, List.setIfInBounds_toArray, List.set_cons_zero, List.set_cons_succ]
            refine take_put (i := 2) (d := 20) (oi := _) (v := ?vm2) rfl rfl (by kernel_rfl) (by kernel_rfl) (by kernel_rfl) (fun _ _ _ h => h) (Or.inl ⟨by rfl, ?ym2⟩) hHeld ?rm2
            case ym2 => (intro w hSw; (try dsimp only at hSw); go_simp; try with_reducible rfl)
            simp only [Act.put, List.setIfInBounds_toArray, List.set_cons_zero, List.set_cons_succ]
            refine take_put (i := 3) (d := 21) (oi := _) (v := ?vm3) rfl rfl (by kernel_rfl) (by kernel_rfl) (by kernel_rfl) (fun _ _ _ h => h) (Or.inl ⟨by rfl, ?ym3⟩) hHeld ?rm3
            case ym3 => (intro w hSw; (try dsimp only at hSw); go_simp; try with_reducible rfl)
            simp only [Act.put, List.setIfInBounds_toArray, List.set_cons_zero, List.set_cons_succ]
            refine take_put (i := 4) (d := 22) (oi := _) (v := ?vm4) rfl rfl (by kernel_rfl) (by kernel_rfl) (by kernel_rfl) (fun _ _ _ h => h) (Or.inl ⟨by rfl, ?ym4⟩) hHeld ?rm4
            case ym4 => (intro w hSw; (try dsimp only at hSw); go_simp; try with_reducible rfl)
            simp only [Act.put, List.setIfInBounds_toArray, List.set_cons_zero, List.set_cons_succ]
            refine take_put (i := 5) (d := 23) (oi := _) (v := ?vm5) rfl rfl (by kernel_rfl) (by kernel_rfl) (by kernel_rfl) (fun _ _ _ h => h) (Or.inl ⟨by rfl, ?ym5⟩) hHeld ?rm5
            case ym5 => (intro w hSw; (try dsimp only at hSw); go_simp; try with_reducible rfl)
            simp only [Act.put, List.setIfInBounds_toArray, List.set_cons_zero, List.set_cons_succ]
            refine take_put (i := 6) (d := 24) (oi := _) (v := ?vm6) rfl rfl (by kernel_rfl) (by kernel_rfl) (by kernel_rfl) (fun _ _ _ h => h) (Or.inl ⟨by rfl, ?ym6⟩) hHeld ?rm6
            case ym6 => (intro w hSw; (try dsimp only at hSw); go_simp; try with_reducible rfl)
            simp only [Act.put, List.setIfInBounds_toArray, List.set_cons_zero, List.set_cons_succ]
            refine take_put (i := 7) (d := 25) (oi := _) (v := ?vm7) rfl rfl (by kernel_rfl) (by kernel_rfl) (by kernel_rfl) (fun _ _ _ h => h) (Or.inl ⟨by rfl, ?ym7⟩) hHeld ?rm7
            case ym7 => (intro w hSw; (try dsimp only at hSw); go_simp; try with_reducible rfl)
            simp only [Act.put, List.setIfInBounds_toArray, List.set_cons_zero, List.set_cons_succ]
            refine take_put (i := 8) (d := 26) (oi := _) (v := ?vm8) rfl rfl (by kernel_rfl) (by kernel_rfl) (by kernel_rfl) (fun _ _ _ h => h) (Or.inl ⟨by rfl, ?ym8⟩) hHeld ?rm8
            case ym8 => (intro w hSw; (try dsimp only at hSw); go_simp; try with_reducible rfl)
            simp only [Act.put, List.setIfInBounds_toArray, List.set_cons_zero, List.set_cons_succ]
            refine take_put (i := 9) (d := 27) (oi := _) (v := ?vm9) rfl rfl (by kernel_rfl) (by kernel_rfl) (by kernel_rfl) (fun _ _ _ h => h) (Or.inl ⟨by rfl, ?ym9⟩) hHeld ?rm9
            case ym9 => (intro w hSw; (try dsimp only at hSw); go_simp; try with_reducible rfl)
            simp only [Act.put, List.setIfInBounds_toArray, List.set_cons_zero, List.set_cons_succ]
            refine take_put (i := 10) (d := 28) (oi := _) (v := ?vm10) rfl rfl (by kernel_rfl) (by kernel_rfl) (by kernel_rfl) (fun _ _ _ h => h) (Or.inl ⟨by rfl, ?ym10⟩) hHeld ?rm10
            case ym10 => (intro w hSw; (try dsimp only at hSw); go_simp; try with_reducible rfl)
            simp only [Act.put, List.setIfInBounds_toArray, List.set_cons_zero, List.set_cons_succ]
            refine take_put (i := 11) (d := 29) (oi := _) (v := ?vm11) rfl rfl (by kernel_rfl) (by kernel_rfl) (by kernel_rfl) (fun _ _ _ h => h) (Or.inl ⟨by rfl, ?ym11⟩) hHeld ?rm11
            case ym11 => (intro w hSw; (try dsimp only at hSw); go_simp; try with_reducible rfl)
            simp only [Act.put, List.setIfInBounds_toArray, List.set_cons_zero, List.set_cons_succ]
            refine take_put (i := 12) (d := 30) (oi := _) (v := ?vm12) rfl rfl (by kernel_rfl) (by kernel_rfl) (by kernel_rfl) (fun _ _ _ h => h) (Or.inl ⟨by rfl, ?ym12⟩) hHeld ?rm12
            case ym12 => (intro w hSw; (try dsimp only at hSw); go_simp; try with_reducible rfl)
            simp only [Act.put, List.setIfInBounds_toArray, List.set_cons_zero, List.set_cons_succ]
            refine take_put (i := 13) (d := 31) (oi := _) (v := ?vm13) rfl rfl (by kernel_rfl) (by kernel_rfl) (by kernel_rfl) (fun _ _ _ h => h) (Or.inl ⟨by rfl, ?ym13⟩) hHeld ?rm13
            case ym13 => (intro w hSw; (try dsimp only at hSw); go_simp; try with_reducible rfl)
            simp only [Act.put, List.setIfInBounds_toArray, List.set_cons_zero, List.set_cons_succ]
            refine wpAnyH_ready (rs := [14]) (by kernel_rfl) (by simp) (AllReadyH.cons (o := _) rfl (fun K hK => ?_) AllReadyH.nil)
            go_simp
            refine (HCL.out _ hHeld.1 (HS.out.an.on (Below.refl _ _).drew)).mono ?_
            rintro e w6 ⟨rfl, an6, ap6⟩
            have HA6 := Lib.hid an6
            have HP6 := Lib.hid ap6
            (try dsimp only)
            refine hK.out _ _ (show Si w0 q (z.map Prod.fst) w6 from ⟨ap6.below hHeld.1 ha0, hHeld.2.on (ap6.block q hHeld.2.lt hqa)⟩) (fun hHeld => ?_)
            clear hK K
            refine take_put (i := 15) (d := 33) (oi := _) (v := ?vm15) rfl rfl (by kernel_rfl) (by kernel_rfl) (by kernel_rfl) (fun _ _ _ h => h) (Or.inl ⟨by rfl, ?ym15⟩) hHeld ?rm15
            case ym15 => (intro w hSw; (try dsimp only at hSw); go_simp; try with_reducible rfl)
            simp only [Act.put, List.setIfInBounds_toArray, List.set_cons_zero, List.set_cons_succ]
            refine take_put (i := 16) (d := 34) (oi := _) (v := ?vm16) rfl rfl (by kernel_rfl) (by kernel_rfl) (by kernel_rfl) (fun _ _ _ h => h) (Or.inl ⟨by rfl, ?ym16⟩) hHeld ?rm16
            case ym16 => (intro w hSw; (try dsimp only at hSw); go_simp; try with_reducible rfl)
            simp only [Act.put, List.setIfInBounds_toArray, List.set_cons_zero, List.set_cons_succ]
            refine wpAnyH_done (by kernel_rfl) ?_ _
            have HF := Lib.hid hHeld
            clear hHeld an6 ap6
            obtain ⟨hans, hbt, hg⟩ := HNG.out hc0
            have HW6 := Lib.hid (Apart.below HP6.out HS.out.bel.drew ha0)
            have HR6 : Hid (Rw6 w6 q (z.map Prod.fst)) := Lib.hid HF.out.2
            subst hans
            have HO7 : Hid (In (sw (z.map Prod.snd) j) (i + 1) j) := Lib.hid ((HO.out rfl).step (by rw [List.length_map]; have := HZL.out; omega) (by omega) HT2.out HT1.out hg)
            rw [← sw_map] at HO7
            have HA7 : Hid (An w6 a true) := Lib.hid (by rw [← hbt]; exact HA6.out)
            clear HNG HPO HCL HF hg HO HA6
            go_wp2
            have A1 := HAT.out.1 w6 ⟨HW6.out, HR6.out⟩
            have A2 := HAT.out.2 w6 ⟨HW6.out, HR6.out⟩
            obtain ⟨b0, b1, b2, b3, b4, b5⟩ := A1
            obtain ⟨d0, d1, d2, d3, d4, d5⟩ := A2
            simp only at b0 b1 b2 b3 b4 b5 d0 d1 d2 d3 d4 d5
            have hf := fun o => HR6.out.free o
            clear a0 a1 a2 a3 a4 a5 e0 e1 e2 e3 e4 e5
            have hrow := HSW.out w6 HR6.out
            have hanc := An.st6 (p := j * 6) (y := ⟨xk, xc, xs, xst, .slice xa xb xc2, .slice xd xe xf⟩) (An.st6 (p := (j + 1) * 6) (y := ⟨yk, yc, ys, yst, .slice ya yb yc2, .slice yd ye yf⟩) HA7.out hqa) hqa
            have hbel := below_st6 (p := j * 6) (y := ⟨xk, xc, xs, xst, .slice xa xb xc2, .slice xd xe xf⟩) (below_st6 (p := (j + 1) * 6) (y := ⟨yk, yc, ys, yst, .slice ya yb yc2, .slice yd ye yf⟩) HW6.out hq0) hq0
            unfold Od.st6 at hrow hanc hbel
            simp only at hrow hanc hbel
            rw [← sw_map] at hrow
            have HREL : Hid (∃ (j1 : Nat) (z' : List (Six × JV)) (ans : Bool), Value.int .i64 (j : Nat) = Value.int .i64 (j1 : Nat) ∧ j1 ≤ i + 1 ∧ Hid (St w0 a q z0 z' ans ((((((((((((w6.setCell ⟨q, (j + 1) * 6, none⟩ (.int .i64 yk)).setCell ⟨q, (j + 1) * 6 + 1, none⟩ (.int .i64 yc)).setCell ⟨q, (j + 1) * 6 + 2, none⟩ (.int .i64 ys)).setCell ⟨q, (j + 1) * 6 + 3, none⟩ (.string yst)).setCell ⟨q, (j + 1) * 6 + 4, none⟩ (.slice ya yb yc2)).setCell ⟨q, (j + 1) * 6 + 5, none⟩ (.slice yd ye yf)).setCell ⟨q, j * 6, none⟩ (.int .i64 xk)).setCell ⟨q, j * 6 + 1, none⟩ (.int .i64 xc)).setCell ⟨q, j * 6 + 2, none⟩ (.int .i64 xs)).setCell ⟨q, j * 6 + 3, none⟩ (.string xst)).setCell ⟨q, j * 6 + 4, none⟩ (.slice xa xb xc2)).setCell ⟨q, j * 6 + 5, none⟩ (.slice xd xe xf)).drew) ∧ Hid (ans = true → In (z'.map Prod.snd) (i + 1) j1)) :=
              Lib.hid ⟨j, sw z j, true, rfl, by omega, Lib.hid ⟨(sw_perm z j).trans HS.out.perm, fun _ => Rw6.drew hrow, An.drew hanc, hbel.drew, fun h => by have h1 := (HSM.out h (by trivial) (HS.out.same h).1).2; omega⟩, Lib.hid (fun _ => HO7.out)⟩
            clear hrow hanc hbel HSM HSW HS HAT HO7 HA7 HW6 HR6 hc0 hcd
            refine wp_region_held_drew (S := fun _ => True) (by kernel_rfl) trivial (fun hHeld => ?_)
            refine take_put (i := 0) (d := 37) (oi := _) (v := ?vw0) rfl rfl (by kernel_rfl) (by kernel_rfl) (by kernel_rfl) (fun _ _ _ h => h) (Or.inl ⟨by rfl, ?yw0⟩) hHeld ?rw0
            case yw0 => (intro w hSw; (try dsimp only at hSw); go_simp; try with_reducible rfl)
            simp only [Act.put, List.setIfInBounds_toArray, List.set_cons_zero, List.set_cons_succ]
            refine take_put (i := 1) (d := 38) (oi := _) (v := ?vw1) rfl rfl (by kernel_rfl) (by kernel_rfl) (by kernel_rfl) (fun _ _ _ h => h) (Or.inl ⟨by rfl, ?yw1⟩) hHeld ?rw1
            case yw1 => (intro w hSw; (try dsimp only at hSw); go_simp; try with_reducible rfl)
            simp only [Act.put, List.setIfInBounds_toArray, List.set_cons_zero, List.set_cons_succ]
            refine take_put (i := 2) (d := 39) (oi := _) (v := ?vw2) rfl rfl (by kernel_rfl) (by kernel_rfl) (by kernel_rfl) (fun _ _ _ h => h) (Or.inl ⟨by rfl, ?yw2⟩) hHeld ?rw2
            case yw2 => (intro w hSw; (try dsimp only at hSw); go_simp; try with_reducible rfl)
            simp only [Act.put, List.setIfInBounds_toArray, List.set_cons_zero, List.set_cons_succ]
            refine take_put (i := 3) (d := 40) (oi := _) (v := ?vw3) rfl rfl (by kernel_rfl) (by kernel_rfl) (by kernel_rfl) (fun _ _ _ h => h) (Or.inl ⟨by rfl, ?yw3⟩) hHeld ?rw3
            case yw3 => (intro w hSw; (try dsimp only at hSw); go_simp; try with_reducible rfl)
            simp only [Act.put, List.setIfInBounds_toArray, List.set_cons_zero, List.set_cons_succ]
            refine take_put (i := 4) (d := 41) (oi := _) (v := ?vw4) rfl rfl (by kernel_rfl) (by kernel_rfl) (by kernel_rfl) (fun _ _ _ h => h) (Or.inl ⟨by rfl, ?yw4⟩) hHeld ?rw4
            case yw4 => (intro w hSw; (try dsimp only at hSw); go_simp; try with_reducible rfl)
            simp only [Act.put, List.setIfInBounds_toArray, List.set_cons_zero, List.set_cons_succ]
            refine take_put (i := 5) (d := 42) (oi := _) (v := ?vw5) rfl rfl (by kernel_rfl) (by kernel_rfl) (by kernel_rfl) (fun _ _ _ h => h) (Or.inl ⟨by rfl, ?yw5⟩) hHeld ?rw5
            case yw5 => (intro w hSw; (try dsimp only at hSw); go_simp; try with_reducible rfl)
            simp only [Act.put, List.setIfInBounds_toArray, List.set_cons_zero, List.set_cons_succ]
            refine take_put (i := 6) (d := 43) (oi := _) (v := ?vw6) rfl rfl (by kernel_rfl) (by kernel_rfl) (by kernel_rfl) (fun _ _ _ h => h) (Or.inl ⟨by rfl, ?yw6⟩) hHeld ?rw6
            case yw6 => (intro w hSw; (try dsimp only at hSw); go_simp; try with_reducible rfl)
            simp only [Act.put, List.setIfInBounds_toArray, List.set_cons_zero, List.set_cons_succ]
            refine take_put (i := 7) (d := 44) (oi := _) (v := ?vw7) rfl rfl (by kernel_rfl) (by kernel_rfl) (by kernel_rfl) (fun _ _ _ h => h) (Or.inl ⟨by rfl, ?yw7⟩) hHeld ?rw7
            case yw7 => (intro w hSw; (try dsimp only at hSw); go_simp; try with_reducible rfl)
            simp only [Act.put, List.setIfInBounds_toArray, List.set_cons_zero, List.set_cons_succ]
            refine take_put (i := 8) (d := 45) (oi := _) (v := ?vw8) rfl rfl (by kernel_rfl) (by kernel_rfl) (by kernel_rfl) (fun _ _ _ h => h) (Or.inl ⟨by rfl, ?yw8⟩) hHeld ?rw8
            case yw8 => (intro w hSw; (try dsimp only at hSw); go_simp; try with_reducible rfl)
            simp only [Act.put, List.setIfInBounds_toArray, List.set_cons_zero, List.set_cons_succ]
            refine take_put (i := 10) (d := 47) (oi := _) (v := ?vw10) rfl rfl (by kernel_rfl) (by kernel_rfl) (by kernel_rfl) (fun _ _ _ h => h) (Or.inl ⟨by rfl, ?yw10⟩) hHeld ?rw10
            case yw10 => (intro w hSw; (try dsimp only at hSw); go_simp; try with_reducible rfl)
            simp only [Act.put, List.setIfInBounds_toArray, List.set_cons_zero, List.set_cons_succ]
            refine take_put (i := 11) (d := 48) (oi := _) (v := ?vw11) rfl rfl (by kernel_rfl) (by kernel_rfl) (by kernel_rfl) (fun _ _ _ h => h) (Or.inl ⟨by rfl, ?yw11⟩) hHeld ?rw11
            case yw11 => (intro w hSw; (try dsimp only at hSw); go_simp; try with_reducible rfl)
            simp only [Act.put, List.setIfInBounds_toArray, List.set_cons_zero, List.set_cons_succ]
            refine take_put (i := 12) (d := 49) (oi := _) (v := ?vw12) rfl rfl (by kernel_rfl) (by kernel_rfl) (by kernel_rfl) (fun _ _ _ h => h) (Or.inl ⟨by rfl, ?yw12⟩) hHeld ?rw12
            case yw12 => (intro w hSw; (try dsimp only at hSw); go_simp; try with_reducible rfl)
            simp only [Act.put, List.setIfInBounds_toArray, List.set_cons_zero, List.set_cons_succ]
            refine wpAnyH_ready (rs := [9, 13]) (by kernel_rfl) (by simp) (AllReadyH.cons (o := _) rfl (fun K hK => ?_) (AllReadyH.cons (o := _) rfl (fun K hK => ?_) (AllReadyH.nil)))
            · go_simp
              (try dsimp only)
              refine hK.out _ _ trivial (fun hHeld => ?_)
              clear hK K
              refine wpAnyH_ready (rs := [13]) (by kernel_rfl) (by simp) (AllReadyH.cons (o := _) rfl (fun K hK => ?_) (AllReadyH.nil))
              go_simp
              (try dsimp only)
              refine hK.out _ _ trivial (fun hHeld => ?_)
              clear hK K
              refine take_put (i := 14) (d := 51) (oi := _) (v := ?vwl1314) rfl rfl (by kernel_rfl) (by kernel_rfl) (by kernel_rfl) (fun _ _ _ h => h) (Or.inl ⟨by rfl, ?ywl1314⟩) hHeld ?rwl1314
              case ywl1314 => (intro w hSw; (try dsimp only at hSw); go_simp; try with_reducible rfl)
              simp only [Act.put, List.setIfInBounds_toArray, List.set_cons_zero, List.set_cons_succ]
              refine wpAnyH_ready (rs := [15]) (by kernel_rfl) (by simp) (AllReadyH.cons (o := _) rfl (fun K hK => ?_) (AllReadyH.nil))
              go_simp
              (try dsimp only)
              refine hK.out _ _ trivial (fun hHeld => ?_)
              clear hK K
              refine take_put (i := 16) (d := 52) (oi := _) (v := ?vwl1316) rfl rfl (by kernel_rfl) (by kernel_rfl) (by kernel_rfl) (fun _ _ _ h => h) (Or.inl ⟨by rfl, ?ywl1316⟩) hHeld ?rwl1316
              case ywl1316 => (intro w hSw; (try dsimp only at hSw); go_simp; try with_reducible rfl)
              simp only [Act.put, List.setIfInBounds_toArray, List.set_cons_zero, List.set_cons_succ]
              refine wpAnyH_ready (rs := [17]) (by kernel_rfl) (by simp) (AllReadyH.cons (o := _) rfl (fun K hK => ?_) (AllReadyH.nil))
              go_simp
              (try dsimp only)
              refine hK.out _ _ trivial (fun hHeld => ?_)
              clear hK K
              refine wpAnyH_done (by kernel_rfl) ?_ _
              clear hHeld b0 b1 b2 b3 b4 b5 d0 d1 d2 d3 d4 d5 hf
              go_wp2
              go_roundw
              case rel => exact HREL.out
              case measure => (simp [intOf] <;> omega)
            · go_simp
              (try dsimp only)
              refine hK.out _ _ trivial (fun hHeld => ?_)
              clear hK K
              refine wpAnyH_ready (rs := [9]) (by kernel_rfl) (by simp) (AllReadyH.cons (o := _) rfl (fun K hK => ?_) (AllReadyH.nil))
              go_simp
              (try dsimp only)
              refine hK.out _ _ trivial (fun hHeld => ?_)
              clear hK K
              refine take_put (i := 14) (d := 51) (oi := _) (v := ?vwl914) rfl rfl (by kernel_rfl) (by kernel_rfl) (by kernel_rfl) (fun _ _ _ h => h) (Or.inl ⟨by rfl, ?ywl914⟩) hHeld ?rwl914
              case ywl914 => (intro w hSw; (try dsimp only at hSw); go_simp; try with_reducible rfl)
              simp only [Act.put, List.setIfInBounds_toArray, List.set_cons_zero, List.set_cons_succ]
              refine wpAnyH_ready (rs := [15]) (by kernel_rfl) (by simp) (AllReadyH.cons (o := _) rfl (fun K hK => ?_) (AllReadyH.nil))
              go_simp
              (try dsimp only)
              refine hK.out _ _ trivial (fun hHeld => ?_)
              clear hK K
              refine take_put (i := 16) (d := 52) (oi := _) (v := ?vwl916) rfl rfl (by kernel_rfl) (by kernel_rfl) (by kernel_rfl) (fun _ _ _ h => h) (Or.inl ⟨by rfl, ?ywl916⟩) hHeld ?rwl916
              case ywl916 => (intro w hSw; (try dsimp only at hSw); go_simp; try with_reducible rfl)
              simp only [Act.put, List.setIfInBounds_toArray, List.set_cons_zero, List.set_cons_succ]
              refine wpAnyH_ready (rs := [17]) (by kernel_rfl) (by simp) (AllReadyH.cons (o := _) rfl (fun K hK => ?_) (AllReadyH.nil))
              go_simp
              (try dsimp only)
              refine hK.out _ _ trivial (fun hHeld => ?_)
              clear hK K
              refine wpAnyH_done (by kernel_rfl) ?_ _
              clear hHeld b0 b1 b2 b3 b4 b5 d0 d1 d2 d3 d4 d5 hf
              go_wp2
              go_roundw
              case rel => exact HREL.out
              case measure => (simp [intOf] <;> omega)
          · skip
            have hcd : decide (c < 0) = false := decide_eq_false hc0
            go_wp2
            refine wp_region_held_drew (S := Si w0 q (z.map Prod.fst)) (by kernel_rfl) (show Si w0 q (z.map Prod.fst) wr.drew from ⟨HS.out.bel.drew, (HS.out.row hz0).on rfl⟩) (fun hHeld => ?_)
            refine take_put (i := 0) (d := 18) (oi := _) (v := ?vk0) rfl rfl (by kernel_rfl) (by kernel_rfl) (by kernel_rfl) (fun _ _ _ h => h) (Or.inl ⟨by rfl, ?yk0⟩) hHeld ?rk0
            case yk0 => (intro w hSw; (try dsimp only at hSw); go_simp; try with_reducible rfl)
            simp only [Act.put, List.setIfInBounds_toArray, List.set_cons_zero, List.set_cons_succ]
            refine take_put (i := 1) (d := 19) (oi := _) (v := ?vk1) rfl rfl (by kernel_rfl) (by kernel_rfl) (by kernel_rfl) (fun _ _ _ h => h) (Or.inl ⟨by rfl, ?yk1⟩) hHeld ?rk1
            case yk1 => (intro w hSw; (try dsimp only at hSw); go_simp; try with_reducible rfl)
            simp only [Act.put, List.setIfInBounds_toArray, List.set_cons_zero, List.set_cons_succ]
            refine take_put (i := 2) (d := 20) (oi := _) (v := ?vk2) rfl rfl (by kernel_rfl) (by kernel_rfl) (by kernel_rfl) (fun _ _ _ h => h) (Or.inl ⟨by rfl, ?yk2⟩) hHeld ?rk2
            case yk2 => (intro w hSw; (try dsimp only at hSw); go_simp; try with_reducible rfl)
            simp only [Act.put, List.setIfInBounds_toArray, List.set_cons_zero, List.set_cons_succ]
            refine take_put (i := 3) (d := 21) (oi := _) (v := ?vk3) rfl rfl (by kernel_rfl) (by kernel_rfl) (by kernel_rfl) (fun _ _ _ h => h) (Or.inl ⟨by rfl, ?yk3⟩) hHeld ?rk3
            case yk3 => (intro w hSw; (try dsimp only at hSw); go_simp; try with_reducible rfl)
            simp only [Act.put, List.setIfInBounds_toArray, List.set_cons_zero, List.set_cons_succ]
            refine take_put (i := 4) (d := 22) (oi := _) (v := ?vk4) rfl rfl (by kernel_rfl) (by kernel_rfl) (by kernel_rfl) (fun _ _ _ h => h) (Or.inl ⟨by rfl, ?yk4⟩) hHeld ?rk4
            case yk4 => (intro w hSw; (try dsimp only at hSw); go_simp; try with_reducible rfl)
            simp only [Act.put, List.setIfInBounds_toArray, List.set_cons_zero, List.set_cons_succ]
            refine take_put (i := 5) (d := 23) (oi := _) (v := ?vk5) rfl rfl (by kernel_rfl) (by kernel_rfl) (by kernel_rfl) (fun _ _ _ h => h) (Or.inl ⟨by rfl, ?yk5⟩) hHeld ?rk5
            case yk5 => (intro w hSw; (try dsimp only at hSw); go_simp; try with_reducible rfl)
            simp only [Act.put, List.setIfInBounds_toArray, List.set_cons_zero, List.set_cons_succ]
            refine take_put (i := 6) (d := 24) (oi := _) (v := ?vk6) rfl rfl (by kernel_rfl) (by kernel_rfl) (by kernel_rfl) (fun _ _ _ h => h) (Or.inl ⟨by rfl, ?yk6⟩) hHeld ?rk6
            case yk6 => (intro w hSw; (try dsimp only at hSw); go_simp; try with_reducible rfl)
            simp only [Act.put, List.setIfInBounds_toArray, List.set_cons_zero, List.set_cons_succ]
            refine take_put (i := 7) (d := 25) (oi := _) (v := ?vk7) rfl rfl (by kernel_rfl) (by kernel_rfl) (by kernel_rfl) (fun _ _ _ h => h) (Or.inl ⟨by rfl, ?yk7⟩) hHeld ?rk7
            case yk7 => (intro w hSw; (try dsimp only at hSw); go_simp; try with_reducible rfl)
            simp only [Act.put, List.setIfInBounds_toArray, List.set_cons_zero, List.set_cons_succ]
            refine take_put (i := 8) (d := 26) (oi := _) (v := ?vk8) rfl rfl (by kernel_rfl) (by kernel_rfl) (by kernel_rfl) (fun _ _ _ h => h) (Or.inl ⟨by rfl, ?yk8⟩) hHeld ?rk8
            case yk8 => (intro w hSw; (try dsimp only at hSw); go_simp; try with_reducible rfl)
            simp only [Act.put, List.setIfInBounds_toArray, List.set_cons_zero, List.set_cons_succ]
            refine take_put (i := 9) (d := 27) (oi := _) (v := ?vk9) rfl rfl (by kernel_rfl) (by kernel_rfl) (by kernel_rfl) (fun _ _ _ h => h) (Or.inl ⟨by rfl, ?yk9⟩) hHeld ?rk9
            case yk9 => (intro w hSw; (try dsimp only at hSw); go_simp; try with_reducible rfl)
            simp only [Act.put, List.setIfInBounds_toArray, List.set_cons_zero, List.set_cons_succ]
            refine take_put (i := 10) (d := 28) (oi := _) (v := ?vk10) rfl rfl (by kernel_rfl) (by kernel_rfl) (by kernel_rfl) (fun _ _ _ h => h) (Or.inl ⟨by rfl, ?yk10⟩) hHeld ?rk10
            case yk10 => (intro w hSw; (try dsimp only at hSw); go_simp; try with_reducible rfl)
            simp only [Act.put, List.setIfInBounds_toArray, List.set_cons_zero, List.set_cons_succ]
            refine take_put (i := 11) (d := 29) (oi := _) (v := ?vk11) rfl rfl (by kernel_rfl) (by kernel_rfl) (by kernel_rfl) (fun _ _ _ h => h) (Or.inl ⟨by rfl, ?yk11⟩) hHeld ?rk11
            case yk11 => (intro w hSw; (try dsimp only at hSw); go_simp; try with_reducible rfl)
            simp only [Act.put, List.setIfInBounds_toArray, List.set_cons_zero, List.set_cons_succ]
            refine take_put (i := 12) (d := 30) (oi := _) (v := ?vk12) rfl rfl (by kernel_rfl) (by kernel_rfl) (by kernel_rfl) (fun _ _ _ h => h) (Or.inl ⟨by rfl, ?yk12⟩) hHeld ?rk12
            case yk12 => (intro w hSw; (try dsimp only at hSw); go_simp; try with_reducible rfl)
            simp only [Act.put, List.setIfInBounds_toArray, List.set_cons_zero, List.set_cons_succ]
            refine take_put (i := 13) (d := 31) (oi := _) (v := ?vk13) rfl rfl (by kernel_rfl) (by kernel_rfl) (by kernel_rfl) (fun _ _ _ h => h) (Or.inl ⟨by rfl, ?yk13⟩) hHeld ?rk13
            case yk13 => (intro w hSw; (try dsimp only at hSw); go_simp; try with_reducible rfl)
            simp only [Act.put, List.setIfInBounds_toArray, List.set_cons_zero, List.set_cons_succ]
            refine wpAnyH_ready (rs := [14]) (by kernel_rfl) (by simp) (AllReadyH.cons (o := _) rfl (fun K hK => ?_) AllReadyH.nil)
            go_simp
            refine (HCL.out _ hHeld.1 (HS.out.an.on (Below.refl _ _).drew)).mono ?_
            rintro e w6 ⟨rfl, an6, ap6⟩
            have HA6 := Lib.hid an6
            have HP6 := Lib.hid ap6
            (try dsimp only)
            refine hK.out _ _ (show Si w0 q (z.map Prod.fst) w6 from ⟨ap6.below hHeld.1 ha0, hHeld.2.on (ap6.block q hHeld.2.lt hqa)⟩) (fun hHeld => ?_)
            clear hK K
            refine take_put (i := 15) (d := 33) (oi := _) (v := ?vk15) rfl rfl (by kernel_rfl) (by kernel_rfl) (by kernel_rfl) (fun _ _ _ h => h) (Or.inl ⟨by rfl, ?yk15⟩) hHeld ?rk15
            case yk15 => (intro w hSw; (try dsimp only at hSw); go_simp; try with_reducible rfl)
            simp only [Act.put, List.setIfInBounds_toArray, List.set_cons_zero, List.set_cons_succ]
            refine take_put (i := 16) (d := 34) (oi := _) (v := ?vk16) rfl rfl (by kernel_rfl) (by kernel_rfl) (by kernel_rfl) (fun _ _ _ h => h) (Or.inl ⟨by rfl, ?yk16⟩) hHeld ?rk16
            case yk16 => (intro w hSw; (try dsimp only at hSw); go_simp; try with_reducible rfl)
            simp only [Act.put, List.setIfInBounds_toArray, List.set_cons_zero, List.set_cons_succ]
            refine wpAnyH_done (by kernel_rfl) ?_ _
            have HF := Lib.hid hHeld
            clear hHeld an6 ap6
            have HW6 := Lib.hid (Apart.below HP6.out HS.out.bel.drew ha0)
            have HSN : Hid (St w0 a q z0 z b w6) := Lib.hid ⟨HS.out.perm, fun _ => HF.out.2, HA6.out, HW6.out, fun h => ⟨(HS.out.same h).1, (HSM.out h (HS.out.same h).2 (HS.out.same h).1).1⟩⟩
            have HON : Hid (b = true → Out (z.map Prod.snd) (i + 1 + 1)) := Lib.hid (fun h => by
              obtain ⟨h1, h2⟩ := HPO.out hc0 h
              exact (HO.out h1).stop HT2.out HT1.out h2)
            clear HNG HPO HCL HF HO HAT a0 a1 a2 a3 a4 a5 e0 e1 e2 e3 e4 e5
            go_wp2
            go_roundw
            case rel => exact ⟨i + 1, z, b, by go_num, Or.inl (by omega), HSN, HON⟩
            case measure => simp [intOf]; omega
    · have i1 : ¬ ((i : Int) + 1) < (z0.length : Int) := by omega
      have HF : Hid (ans = true → Ch (z.map Prod.snd)) := Lib.hid (fun h => by
        have h1 := HO.out h
        refine Out.done (fun p a b hp ha hb => h1 p a b ?_ ha hb)
        have h2 : z.length = z0.length := HS.out.perm.length_eq
        rw [List.length_map] at hp
        omega)
      clear HO
      go_wp2
      go_end0
      exact ⟨z, ans, rfl, HS.out, HF.out⟩
end Od
end Go.Proofs.Ytkmfoclhhnhkdaa
