/- keyholelaw09.of; node.join, node.Raise, of levels. -/
import Derived.Test.YtelladgeehlkpaaPi
import Derived.Deep.DeepCutAuto
import Derived.Deep.RegionWith
namespace Go.Proofs.Ytelladgeehlkpaa
open Go.RowKit
namespace Nd
open _root_.Go.Proofs.Ytelladgeehlkpaa.Nm _root_.Go.Proofs.Ytelladgeehlkpaa.Jv
open _root_.Go.Proofs.Ytelladgeehlkpaa.Lv (Ord IsJ inI TabAt SLat sz sr sj se sbo stp sn sp LatAt joinV join_any bottom_any sort_any new_sort table_any sz_le sz_pos sr_ord sr_j sr_m sort_good PolPost bt bkeep)
/-- a block of cells of a type -/
def Cb0 (w : World) (k : Nat) (t : TypeId) (cs : Array Value) : Prop := w.heap[k]? = some (.cells cs t (0, 0))
theorem Cb0.lt {w : World} {k : Nat} {t : TypeId} {cs : Array Value} (h : Cb0 w k t cs) : k < w.heap.size := (Array.getElem?_eq_some_iff.1 h).1
theorem Cb0.new (w : World) (t : TypeId) (cs : Array Value) : Cb0 (w.alloc (.cells cs t)) w.heap.size t cs := heap_alloc_new w _
theorem Cb0.on {a b : World} {k : Nat} {t : TypeId} {cs : Array Value} (h : Cb0 a k t cs) (hb : Below a.heap.size a b) : Cb0 b k t cs := (hb.block k h.lt).trans h
theorem Cb0.cell {w : World} {k : Nat} {t : TypeId} {cs : Array Value} (h : Cb0 w k t cs) (i : Nat) : w.cell? ⟨k, i, none⟩ = cs[i]? := cell_of_row w k i cs _ _ h
theorem Wb.far {a : World} {k q : Nat} {cs : Array Value} (h : Wb a k cs) (i : Nat) (u : Value) (hne : k ≠ q) : Wb (a.setCell ⟨q, i, none⟩ u) k cs := by
  unfold Wb at h ⊢
  simp [World.setCell, Array.getElem?_modify, h]
  intro e; exact absurd e.symm hne
theorem Wb.put {w : World} {k : Nat} {x0 x1 x2 x3 x4 x5 x6 x7 : Value} (h : Wb w k #[x0, x1, x2, x3, x4, x5, x6, x7]) (u0 u1 u2 u3 u4 u5 u6 u7 : Value) : Wb ((((((((w.setCell ⟨k, 0, none⟩ u0).setCell ⟨k, 1, none⟩ u1).setCell ⟨k, 2, none⟩ u2).setCell ⟨k, 3, none⟩ u3).setCell ⟨k, 4, none⟩ u4).setCell ⟨k, 5, none⟩ u5).setCell ⟨k, 6, none⟩ u6).setCell ⟨k, 7, none⟩ u7) k #[u0, u1, u2, u3, u4, u5, u6, u7] := by
  have h0 : Wb (w.setCell ⟨k, 0, none⟩ u0) k #[u0, x1, x2, x3, x4, x5, x6, x7] := by simpa using h.set 0 u0
  have h1 : Wb ((w.setCell ⟨k, 0, none⟩ u0).setCell ⟨k, 1, none⟩ u1) k #[u0, u1, x2, x3, x4, x5, x6, x7] := by simpa using h0.set 1 u1
  have h2 : Wb (((w.setCell ⟨k, 0, none⟩ u0).setCell ⟨k, 1, none⟩ u1).setCell ⟨k, 2, none⟩ u2) k #[u0, u1, u2, x3, x4, x5, x6, x7] := by simpa using h1.set 2 u2
  have h3 : Wb ((((w.setCell ⟨k, 0, none⟩ u0).setCell ⟨k, 1, none⟩ u1).setCell ⟨k, 2, none⟩ u2).setCell ⟨k, 3, none⟩ u3) k #[u0, u1, u2, u3, x4, x5, x6, x7] := by simpa using h2.set 3 u3
  have h4 : Wb (((((w.setCell ⟨k, 0, none⟩ u0).setCell ⟨k, 1, none⟩ u1).setCell ⟨k, 2, none⟩ u2).setCell ⟨k, 3, none⟩ u3).setCell ⟨k, 4, none⟩ u4) k #[u0, u1, u2, u3, u4, x5, x6, x7] := by simpa using h3.set 4 u4
  have h5 : Wb ((((((w.setCell ⟨k, 0, none⟩ u0).setCell ⟨k, 1, none⟩ u1).setCell ⟨k, 2, none⟩ u2).setCell ⟨k, 3, none⟩ u3).setCell ⟨k, 4, none⟩ u4).setCell ⟨k, 5, none⟩ u5) k #[u0, u1, u2, u3, u4, u5, x6, x7] := by simpa using h4.set 5 u5
  have h6 : Wb (((((((w.setCell ⟨k, 0, none⟩ u0).setCell ⟨k, 1, none⟩ u1).setCell ⟨k, 2, none⟩ u2).setCell ⟨k, 3, none⟩ u3).setCell ⟨k, 4, none⟩ u4).setCell ⟨k, 5, none⟩ u5).setCell ⟨k, 6, none⟩ u6) k #[u0, u1, u2, u3, u4, u5, u6, x7] := by simpa using h5.set 6 u6
  have h7 : Wb ((((((((w.setCell ⟨k, 0, none⟩ u0).setCell ⟨k, 1, none⟩ u1).setCell ⟨k, 2, none⟩ u2).setCell ⟨k, 3, none⟩ u3).setCell ⟨k, 4, none⟩ u4).setCell ⟨k, 5, none⟩ u5).setCell ⟨k, 6, none⟩ u6).setCell ⟨k, 7, none⟩ u7) k #[u0, u1, u2, u3, u4, u5, u6, u7] := by simpa using h6.set 7 u7
  exact h7
theorem b8 {w a : World} {k : Nat} (h : Below w.heap.size w a) (hk : w.heap.size ≤ k) (u0 u1 u2 u3 u4 u5 u6 u7 : Value) : Below w.heap.size w ((((((((a.setCell ⟨k, 0, none⟩ u0).setCell ⟨k, 1, none⟩ u1).setCell ⟨k, 2, none⟩ u2).setCell ⟨k, 3, none⟩ u3).setCell ⟨k, 4, none⟩ u4).setCell ⟨k, 5, none⟩ u5).setCell ⟨k, 6, none⟩ u6).setCell ⟨k, 7, none⟩ u7) :=
  ((((((((h.setCell hk u0).setCell hk u1).setCell hk u2).setCell hk u3).setCell hk u4).setCell hk u5).setCell hk u6).setCell hk u7)
theorem Wb.new2 (w : World) (o : Obj) (cs : Array Value) : Wb ((w.alloc o).alloc (.cells cs 27)) (w.heap.size + 1) cs := by
  have := Wb.new (w.alloc o) cs
  simpa using this
/-- what keyholelaw09.of answers -/
def OfPost (k : Nat) (w : World) (e : Ending) (w' : World) : Prop := Below w.heap.size w w' ∧ ∃ g v, e = .returned (.tuple #[.pointer (some ⟨g, 0, none⟩), v]) ∧ SLat w' g k ∧ TabAt w' v (sz k) (sr k)
set_option maxRecDepth 100000 in
set_option maxHeartbeats 2000000 in
theorem of_any (n : Int) (w : World) : Calls Try.prog 8 #[.int .i64 n] w (OfPost (n % 6).toNat w) := by
  go_enter Try.func8, Try.ntmps8
  go_wp2_with (first | (go_at_call 22; refine (sort_any n _).mono ?_; rintro e w1 ⟨b1, vn, vb, rfl, hN, hP⟩; have HN := Lib.hid hN; have HP := Lib.hid hP; obtain ⟨an, cn, rfl, _, _⟩ := hN.form; obtain ⟨ab, cb, rfl, _⟩ := hP.form; clear hN hP; have HB1 := Lib.hid (bT b1 (bA1 w1 (Obj.cells #[.slice an (sn (n % 6).toNat).length cn, .slice ab (sp (n % 6).toNat).length cb, .slice none 0 0] 56))); have HNA := Lib.hid (HN.out.go (bA1 w1 (Obj.cells #[.slice an (sn (n % 6).toNat).length cn, .slice ab (sp (n % 6).toNat).length cb, .slice none 0 0] 56))); have HPA := Lib.hid (HP.out.go (bA1 w1 (Obj.cells #[.slice an (sn (n % 6).toNat).length cn, .slice ab (sp (n % 6).toNat).length cb, .slice none 0 0] 56))); have hPB := Cb0.new w1 56 #[.slice an (sn (n % 6).toNat).length cn, .slice ab (sp (n % 6).toNat).length cb, .slice none 0 0]) | (go_at_call 21; refine (new_sort _ _ _ _ _ HNA.out HPA.out).mono ?_; rintro e w2 ⟨b2, g, rfl, _, hS⟩; have HS2 := Lib.hid hS; clear hS; have hPB2 := hPB.on b2; have q0 := hPB2.cell 0; have q1 := hPB2.cell 1; have q2 := hPB2.cell 2; have HB2 := Lib.hid (bT HB1.out b2); have HNB := Lib.hid (HNA.out.go b2); have HPB := Lib.hid (HPA.out.go b2)) | (go_at_call 25; refine (table_any _ _ _ _ _ _ HNB.out HPB.out (sort_good _).names.1 (sort_good _).names.2.1 (sort_good _).pairs).mono ?_; rintro e w3 ⟨b3, v, rfl, ht⟩))
  go_ret2
  exact ⟨bT HB2.out b3, g, v, rfl, HS2.out.go b3, ht⟩
/-- a slice of levels in memory -/
def Li (w : World) (v : Value) (l : List Nat) : Prop := ∃ ao cap, v = .slice ao l.length cap ∧ (0 < l.length → ∃ k o, ao = some ⟨k, o, none⟩ ∧ ∀ (j : Nat) (x : Nat), l[j]? = some x → w.cell? ⟨k, o + j, none⟩ = some (.int .i64 (x : Nat)))
set_option maxRecDepth 100000 in
set_option maxHeartbeats 2000000 in
theorem join_fold (g k : Nat) (v : Value) (l : List Nat) (w : World) (hL : SLat w g k) (hv : Li w v l) (hl : l.length ≤ 1000) (hlt : ∀ x ∈ l, x < sz k) :
    Calls Try.prog 38 #[.pointer (some ⟨g, 0, none⟩), v] w fun e w' => e = .returned (.int .i64 ((l.foldl (sj k) (sbo k) : Nat) : Int)) ∧ w = w' := by
  obtain ⟨ao, cap, rfl, h⟩ := hv
  have H := Lib.hid h
  have HL := Lib.hid hL
  have HT := Lib.hid hlt
  have hb := sbo_lt k
  have HJ := Lib.hid (fun (a b : Nat) (ha : a < sz k) (hb : b < sz k) => show Calls Try.prog 16 #[.pointer (some ⟨g, 0, none⟩), .int .i64 (a : Nat), .int .i64 (b : Nat)] w fun e w' => e = .returned (.int .i64 (sj k a b : Nat)) ∧ w = w' by
    have := join_any w g _ _ _ _ _ _ _ (a : Int) (b : Int) hL (sz_le k)
    unfold joinV at this
    have h1 : (inI (a : Int) (sz k) && inI (b : Int) (sz k)) = true := by simp [inI]; omega
    rw [if_pos h1] at this
    exact this)
  obtain ⟨r, hr⟩ : ∃ r, l.foldl (sj k) (sbo k) = r := ⟨_, rfl⟩
  rw [hr]
  have HR := Lib.hid hr
  clear h hL hlt hr
  go_enter Try.func38, Try.ntmps38
  go_wp2_with (go_at_call 17; refine (bottom_any _ _ _ _ _ _ _ _ _ HL.out).mono ?_; rintro e w' ⟨rfl, rfl⟩)
  go_loop [5, 12] (fun d i => ∃ j a : Nat, i = .int .i64 (j : Nat) ∧ d = .int .i64 (a : Nat) ∧ j ≤ l.length ∧ a < sz k ∧ Hid (a = (l.take j).foldl (sj k) (sbo k))) (fun _ i => l.length - (intOf i).toNat)
  case atStart => exact ⟨0, sbo k, rfl, rfl, by omega, hb, Lib.hid (by simp)⟩
  case round =>
    obtain ⟨j, a, rfl, rfl, hj, ha, HA⟩ := hrel
    by_cases hlt : j < l.length
    · obtain ⟨x, hx⟩ : ∃ y, l[j]? = some y := ⟨_, List.getElem?_eq_getElem hlt⟩
      obtain ⟨b, o, rfl, hc⟩ := H.out (by omega)
      have c0 := hc j x hx
      have hxl := HT.out x (List.mem_of_getElem? hx)
      have HA' : Hid (sj k a x = (l.take (j + 1)).foldl (sj k) (sbo k)) := Lib.hid (by rw [List.take_add_one, hx, Option.toList_some, List.foldl_append, ← HA.out]; rfl)
      have HC := Lib.hid (HJ.out a x ha hxl)
      have HXL := Lib.hid ((sr_j k).lt a x ha hxl)
      generalize sj k a x = q at HA' HC HXL
      clear hc hx H HA
      go_wp2_with (go_at_call 16; refine HC.out.mono ?_; rintro e w' ⟨rfl, rfl⟩)
      go_round
      case rel => exact ⟨j + 1, q, by go_num, rfl, by omega, HXL.out, HA'⟩
      case measure => simp [intOf]; omega
    · have HQ : Hid (a = r) := Lib.hid (by rw [HA.out, ← HR.out, List.take_of_length_le (by omega)])
      go_wp2_with fail
      go_ret
      exact ⟨by rw [HQ.out]; rfl, rfl⟩
/-- two levels, joined -/
theorem join2 (g k x y b : Nat) (w : World) (hL : SLat w g k) (h0 : w.cell? ⟨b, 0, none⟩ = some (.int .i64 (x : Nat))) (h1 : w.cell? ⟨b, 1, none⟩ = some (.int .i64 (y : Nat))) (hx : x < sz k) (hy : y < sz k) :
    Calls Try.prog 38 #[.pointer (some ⟨g, 0, none⟩), .slice (some ⟨b, 0, none⟩) 2 2] w fun e w' => e = .returned (.int .i64 (sj k x y : Nat)) ∧ w = w' := by
  have h := join_fold g k (.slice (some ⟨b, 0, none⟩) 2 2) [x, y] w hL ⟨_, 2, rfl, fun _ => ⟨b, 0, rfl, fun j z hj => by
    match j, hj with
    | 0, hj => cases hj; exact h0
    | 1, hj => cases hj; exact h1⟩⟩ (by simp) (fun z hz => by
    simp only [List.mem_cons, List.not_mem_nil, or_false] at hz
    rcases hz with rfl | rfl <;> assumption)
  have e : [x, y].foldl (sj k) (sbo k) = sj k x y := by
    show sj k (sj k (sbo k) x) y = _
    rw [bot_j (sr_ord k) (sr_j k) hx (sbo_lt k) (sbo_low k x hx)]
  rw [e] at h
  exact h
set_option maxRecDepth 100000 in
set_option maxHeartbeats 4000000 in
theorem raise_any (g n : Nat) (la de a : Nat) (k c s : Int) (st : ByteArray) (io ko : Option Addr) (il ic kl kc : Nat) (w : World) (hL : SLat w g n) (hla : la < sz n) (hde : de < sz n) (ha : a < sz n) :
    Calls Try.prog 15 #[.pointer (some ⟨g, 0, none⟩), nV (la : Nat) (de : Nat) k c s st (.slice io il ic) (.slice ko kl kc), .int .i64 (a : Nat)] w fun e w' => e = .returned (nV (sj n la a : Nat) (sj n de a : Nat) k c s st (.slice io il ic) (.slice ko kl kc)) ∧ Below w.heap.size w w' := by
  unfold nV
  go_enter Try.func15, Try.ntmps15
  have HJ1 := Lib.hid (fun (wx : World) (b : Nat) (hb : Below w.heap.size w wx) h0 h1 => join2 g n la a b wx (hL.go hb) h0 h1 hla ha)
  have HJ2 := Lib.hid (fun (wx : World) (b : Nat) (hb : Below w.heap.size w wx) h0 h1 => join2 g n de a b wx (hL.go hb) h0 h1 hde ha)
  generalize sj n la a = x1 at HJ1 ⊢
  generalize sj n de a = x2 at HJ2 ⊢
  go_wp2_with fail
  go_cut [12] (fun _ wx => Hid (Wb wx w.heap.size #[.int .i64 (x1 : Nat), .int .i64 (x2 : Nat), .int .i64 k, .int .i64 c, .int .i64 s, .string st, .slice io il ic, .slice ko kl kc]) ∧ Hid (Wb wx (w.heap.size + 1) #[.int .i64 0, .int .i64 0, .int .i64 0, .int .i64 0, .int .i64 0, .string ⟨#[]⟩, .slice none 0 0, .slice none 0 0]) ∧ Hid (Below w.heap.size w wx))
  case first =>
    go_region_with (go_at_call 38; first | (refine (HJ1.out _ _ ?b ?c ?d).mono ?_; (case b => (repeat (first | with_reducible exact Below.refl _ _ | with_reducible refine Below.drew ?_ | with_reducible refine bT ?_ (bA1 _ _)))); (case c => (go_simp; done)); (case d => (go_simp; done)); rintro e w' ⟨rfl, rfl⟩) | (refine (HJ2.out _ _ ?b ?c ?d).mono ?_; (case b => (repeat (first | with_reducible exact Below.refl _ _ | with_reducible refine Below.drew ?_ | with_reducible refine bT ?_ (bA1 _ _)))); (case c => (go_simp; done)); (case d => (go_simp; done)); rintro e w' ⟨rfl, rfl⟩))
    all_goals (go_wp2_with fail; go_meet; exact ⟨Lib.hid (((((Wb.new w _).alloc _).alloc _).alloc _).on (Below.refl _ _).drew), Lib.hid ((((Wb.new2 w _ _).alloc _).alloc _).on (Below.refl _ _).drew), Lib.hid (bT (bT (bT (bA1 _ _) (bA1 _ _)) (bA1 _ _)) (bA1 _ _)).drew⟩)
  case rest =>
    obtain ⟨HN, HR, HB⟩ := hcut
    obtain ⟨z0, z1, z2, z3, z4, z5, z6, z7⟩ := HN.out.eight
    obtain ⟨y0, y1, y2, y3, y4, y5, y6, y7⟩ := HR.out.eight
    have hf := fun i => HR.out.free i
    go_wp2_with fail
    have HV := HR.out.put (.int .i64 (x1 : Nat)) (.int .i64 (x2 : Nat)) (.int .i64 k) (.int .i64 c) (.int .i64 s) (.string st) (.slice io il ic) (.slice ko kl kc)
    have HB' := b8 HB.out (show w.heap.size ≤ w.heap.size + 1 by omega) (.int .i64 (x1 : Nat)) (.int .i64 (x2 : Nat)) (.int .i64 k) (.int .i64 c) (.int .i64 s) (.string st) (.slice io il ic) (.slice ko kl kc)
    obtain ⟨v0, v1, v2, v3, v4, v5, v6, v7⟩ := HV.eight
    clear HV z0 z1 z2 z3 z4 z5 z6 z7 y0 y1 y2 y3 y4 y5 y6 y7 hf
    simp [bodyPost, results, Try.results15, go_sem, v0, v1, v2, v3, v4, v5, v6, v7]
    exact HB'
end Nd
end Go.Proofs.Ytelladgeehlkpaa
