/- order.Sort of at most 12 values. -/
import Derived.Test.YtkmfoclhhnhkdaaOdSort
import Derived.Lib.AppendIntMem
import Derived.Lib.SliceRun
namespace Go.Proofs.Ytkmfoclhhnhkdaa
open Go.RowKit
namespace Od
open _root_.Go.Proofs.Ytkmfoclhhnhkdaa.Nm _root_.Go.Proofs.Ytkmfoclhhnhkdaa.Jv
set_option maxRecDepth 100000 in
set_option maxHeartbeats 2000000 in
theorem stable_any (w0 : World) (a q : Nat) (z0 : List (Six × JV)) (ao : Option Addr) (cap : Nat) (w : World) (hq : 0 < z0.length → ao = some ⟨q, 0, none⟩) (hqa : q ≠ a) (hq0 : w0.heap.size ≤ q) (ha0 : w0.heap.size ≤ a)
    (hz : ∀ p ∈ z0, ∃ n, VT w0 n p.1 p.2) (hn : z0.length ≤ 12) (hs : St w0 a q z0 z0 true w) :
    Calls Try.prog 54 #[.slice ao z0.length cap, .int .i64 (z0.length : Nat), .func (.func 37) #[] #[.pointer (some ⟨a, 0, none⟩)]] w (SoP w0 a q z0) := by
  have hi := ins_any w0 a q z0 ao cap w hq hqa hq0 ha0 hz hn hs
  have HI := Lib.hid hi
  clear hi hs hz hq
  have i1 : ¬ (20 : Int) ≤ (z0.length : Int) := by omega
  have i2 : ¬ (20 : Int) < (z0.length : Int) := by omega
  go_enter Try.func54, Try.ntmps54
  go_wp2
  go_loopw [7, 8] (fun x y wr => x = .int .i64 0 ∧ y = .int .i64 20 ∧ wr = w) (fun _ _ _ => 0)
  case atStart => exact ⟨rfl, rfl, rfl⟩
  case round =>
    obtain ⟨rfl, rfl, rfl⟩ := hrel
    go_wp2_with (go_at_call 74; refine HI.out.mono ?_; rintro e w1 ⟨z, ans, rfl, hst, hch⟩; have HST := Lib.hid hst; have HCH := Lib.hid hch; clear hst hch)
    go_loopw [6] (fun x wr => x = .int .i64 20 ∧ wr = w1) (fun _ _ => 0)
    case atStart => exact ⟨rfl, rfl⟩
    case round =>
      obtain ⟨rfl, rfl⟩ := hrel
      go_wp2
      go_end0
      exact ⟨z, ans, rfl, HST.out, HCH.out⟩
set_option maxRecDepth 100000 in
set_option maxHeartbeats 2000000 in
theorem ssf_any (w0 : World) (a q : Nat) (z0 : List (Six × JV)) (ao : Option Addr) (cap : Nat) (w : World) (hq : 0 < z0.length → ao = some ⟨q, 0, none⟩) (hqa : q ≠ a) (hq0 : w0.heap.size ≤ q) (ha0 : w0.heap.size ≤ a)
    (hz : ∀ p ∈ z0, ∃ n, VT w0 n p.1 p.2) (hn : z0.length ≤ 12) (hs : St w0 a q z0 z0 true w) :
    Calls Try.prog 36 #[.slice ao z0.length cap, .func (.func 37) #[] #[.pointer (some ⟨a, 0, none⟩)]] w (SoP w0 a q z0) := by
  have hi := stable_any w0 a q z0 ao cap w hq hqa hq0 ha0 hz hn hs
  have HI := Lib.hid hi
  clear hi hs hz hq
  go_enter Try.func36, Try.ntmps36
  go_wp2_with (go_at_call 54; refine HI.out.mono ?_; rintro e w1 ⟨z, ans, rfl, hst, hch⟩; have HST := Lib.hid hst; have HCH := Lib.hid hch; clear hst hch)
  go_end0
  exact ⟨z, ans, rfl, HST.out, HCH.out⟩
/-- what Clone answers -/
def CnP (w : World) (l : List Six) (e : Ending) (w' : World) : Prop := ∃ ao cap, e = .returned (.slice ao l.length cap) ∧ l.length ≤ cap ∧ cap ≤ maxLen ∧ (ao = none → cap = 0) ∧ (0 < l.length → ∃ g, ao = some ⟨g, 0, none⟩ ∧ w.heap.size ≤ g ∧ Rw6 w' g l) ∧ Below w.heap.size w w'
theorem row_of {w : World} {B : Nat} {v : Value} {l : List Six} (h : w.ownsRow B 27 6 v l.length (l.flatMap Six.cells)) : ∃ ao cap, v = .slice ao l.length cap ∧ l.length ≤ cap ∧ cap ≤ maxLen ∧ (ao = none → cap = 0) ∧ (0 < l.length → ∃ g, ao = some ⟨g, 0, none⟩ ∧ B ≤ g ∧ Rw6 w g l) := by
  have hc := h
  rcases h.2 with ⟨rfl, hl⟩ | ⟨g, cap, cur, rfl, hb, hg, hn, hm, hs, ht⟩
  · exact ⟨none, 0, by rw [hl], by omega, by decide, fun _ => rfl, fun h => by omega⟩
  · refine ⟨some ⟨g, 0, none⟩, cap, rfl, hn, hm, (fun h => by cases h), fun _ => ⟨g, rfl, hb, ⟨cur, hg⟩, fun i y hy => ?_⟩⟩
    have hil := (List.getElem?_eq_some_iff.1 hy).1
    have e : ∀ c u, y.cells[c]? = some u → w.cell? ⟨g, i * 6 + c, none⟩ = some u := fun c u hu => by
      have hc6 : c < 6 := by have := (List.getElem?_eq_some_iff.1 hu).1; simpa [Six.cells] using this
      rw [hc.cellAt (i * 6 + c) (by omega)]
      have h1 := flat_drop l i
      have h2 : (l.flatMap Six.cells)[i * 6 + c]? = ((l.flatMap Six.cells).drop (i * 6))[c]? := by rw [List.getElem?_drop]
      rw [h2, h1, List.drop_eq_getElem_cons hil, List.flatMap_cons, List.getElem?_append_left (by rw [Six.cells_len]; exact hc6)]
      rw [← (List.getElem?_eq_some_iff.1 hy).2] at hu
      exact hu
    exact ⟨e 0 _ rfl, e 1 _ rfl, e 2 _ rfl, e 3 _ rfl, e 4 _ rfl, e 5 _ rfl⟩
set_option maxRecDepth 100000 in
set_option maxHeartbeats 4000000 in
theorem clone_any (v : Value) (l : List Six) (w : World) (hv : Vs w v l) (h1 : ∀ y ∈ l, y.one) (hn : l.length ≤ 12) : Calls Try.prog 35 #[v] w (CnP w l) := by
  obtain ⟨i0, hi, hz0, hz1, hz2⟩ := info_parts infoV
  have hcs := hv.cs h1
  have hnil : ∀ (a : Option Addr) (n c : Nat) (w : World), (binOp .eql 24 (.slice a n c) (.slice none 0 0)).run Try.prog w = .ok (.bool a.isNone) w := fun a n c w => Lib.run_eql_slice_nil w _ _ a n c 0 0 Try.underlying24
  obtain ⟨ao, cap, rfl, hlc, hcm, hno, hh⟩ := hv
  cases ao with
  | none =>
    obtain rfl := hno rfl
    have hl0 : l.length = 0 := by omega
    have HL := Lib.hid hl0
    obtain rfl : l = [] := List.length_eq_zero_iff.1 hl0
    clear hcs hh hno hl0 hi hz0 hz1 hz2
    go_enter Try.func35, Try.ntmps35
    go_wp2
    go_ret
    exact ⟨none, 0, rfl, by decide, by decide, fun _ => rfl, (fun h => by simp at h), Below.refl _ _⟩
  | some ad =>
    have HC := Lib.hid hcs
    have hat := Lib.hid (Cs.at (Cs.on hcs (bA1 w (Obj.cells #[] 27))))
    have hown : (w.alloc (Obj.cells #[] 27)).ownsRow w.heap.size 27 6 (.slice (some ⟨w.heap.size, 0, none⟩) 0 0) 0 [] := World.ownsRow_lit w #[] 0 (Nat.le_refl _) (by decide) (by decide)
    have HO := Lib.hid hown
    have hbs : w.heap.size ≤ (w.alloc (Obj.cells #[] 27)).heap.size := by simp
    unfold maxLen at hcm
    clear hcs hh hno hown
    go_enter Try.func35, Try.ntmps35
    go_wp2_with (at_builtin; refine wpList_append_own _ rfl _ _ 24 rfl w.heap.size 27 i0 _ 6 88 Try.underlying24 hi hz0 hz1 hz2 rfl (by decide) _ _ _ rfl HO.out ad l.length _ (l.flatMap Six.cells) rfl HC.out.1 hat.out HC.out.2.1 ?d01 ?d02 hbs ?d03)
    case d01 => unfold maxLen; omega
    case d02 => omega
    case d03 =>
      intro v' w2 hown' hgrow _
      have HW' := Lib.hid (own_bel (bA1 w (Obj.cells #[] 27)) HO.out (Nat.le_refl _) hgrow)
      have hrw := row_of (l := l) (B := w.heap.size) (w := w2) (v := v') (by simpa using hown')
      obtain ⟨ao, cap', rfl, k1, k2, k3, k4⟩ := hrw
      have H4 := Lib.hid k4
      have H3 := Lib.hid k3
      clear hown' hgrow k3 k4
      go_wp2
      go_ret
      exact ⟨ao, cap', rfl, k1, k2, H3.out, H4.out, HW'.out⟩
/-- what Sort answers -/
def SrP (w : World) (ts : List JV) (v' : Value) (ok : Bool) (w' : World) : Prop := Below w.heap.size w w' ∧ (ok = false → v' = .slice none 0 0) ∧ (Ch ts → ok = true) ∧
  (ok = true → ∃ l' ts', Vs w' v' l' ∧ l'.length = ts'.length ∧ (∀ (j : Nat) (y : Six) (z : JV), l'[j]? = some y → ts'[j]? = some z → ∃ n, VT w' n y z) ∧ ts'.Perm ts ∧ Ch ts' ∧ (Ch ts → ts' = ts))
/-- what Sort answers, as an ending -/
def SrE (w : World) (ts : List JV) (e : Ending) (w' : World) : Prop := ∃ ao n cap ok, e = .returned (.tuple #[.slice ao n cap, .bool ok]) ∧ SrP w ts (.slice ao n cap) ok w'
set_option maxRecDepth 100000 in
set_option maxHeartbeats 4000000 in
theorem sort_any (v : Value) (l : List Six) (ts : List JV) (w : World) (hv : Vs w v l) (hl : l.length = ts.length) (ht : ∀ (j : Nat) (y : Six) (z : JV), l[j]? = some y → ts[j]? = some z → ∃ n, VT w n y z) (hn : l.length ≤ 12) :
    Calls Try.prog 17 #[v] w (SrE w ts) := by
  have hone : ∀ y ∈ l, y.one := fun y hy => by
    obtain ⟨j, hj⟩ := List.getElem?_of_mem hy
    have hjl := (List.getElem?_eq_some_iff.1 hj).1
    obtain ⟨n, h⟩ := ht j y _ hj (List.getElem?_eq_getElem (by omega))
    exact h.one
  have hcn := clone_any v l w hv hone hn
  obtain ⟨z0, hz0⟩ : ∃ z0, l.zip ts = z0 := ⟨_, rfl⟩
  have hm1 : z0.map Prod.fst = l := by rw [← hz0]; exact List.map_fst_zip (by omega)
  have hm2 : z0.map Prod.snd = ts := by rw [← hz0]; exact List.map_snd_zip (by omega)
  have hzl : z0.length = l.length := by rw [← hm1, List.length_map]
  have hzv : ∀ p ∈ z0, ∃ n, VT w n p.1 p.2 := fun p hp => by
    rw [← hz0] at hp
    obtain ⟨j, hj⟩ := List.getElem?_of_mem hp
    obtain ⟨g1, g2⟩ := List.getElem?_zip_eq_some.1 hj
    exact ht j p.1 p.2 g1 g2
  have hfin : ∀ (q a : Nat) (z : List (Six × JV)) (ans : Bool) (w' : World) (ao : Option Addr) (cap : Nat), l.length ≤ cap → cap ≤ maxLen → (ao = none → cap = 0) → (0 < l.length → ao = some ⟨q, 0, none⟩) → St w a q z0 z ans w' → (ans = true → Ch (z.map Prod.snd)) → ans = true → SrP w ts (.slice ao l.length cap) true w' := by
    intro q a z ans w' ao cap k1 k2 k3 k4 hst hch ha
    have hzz : z.length = l.length := by rw [hst.perm.length_eq, hzl]
    refine ⟨hst.bel, (fun h => by cases h), fun _ => rfl, fun _ => ⟨z.map Prod.fst, z.map Prod.snd, ?_, by rw [List.length_map, List.length_map], fun j y u hy hu => ?_, by rw [← hm2]; exact hst.perm.map _, hch ha, fun h => ?_⟩⟩
    · refine ⟨ao, cap, by rw [List.length_map, hzz], by rw [List.length_map, hzz]; exact k1, k2, k3, fun h0 => ?_⟩
      rw [List.length_map, hzz] at h0
      have hr := hst.row (by omega)
      exact ⟨q, 0, k4 h0, hr.lt, fun j y hj => by rw [Nat.zero_add]; exact hr.at6 j y hj⟩
    · rw [List.getElem?_map] at hy hu
      obtain ⟨p, hp, rfl⟩ := Option.map_eq_some_iff.1 hy
      rw [hp] at hu
      obtain rfl := Option.some.inj hu
      obtain ⟨n, h⟩ := hzv p (hst.perm.mem_iff.1 (List.mem_of_getElem? hp))
      exact ⟨n, VT.on hst.bel n h⟩
    · rw [(hst.same (by rw [hm2]; exact h)).1, hm2]
  have hssf := fun (a q : Nat) (ao : Option Addr) (cap : Nat) (w2 : World) (hq : 0 < l.length → ao = some ⟨q, 0, none⟩) (hqa : q ≠ a) (hq0 : w.heap.size ≤ q) (ha0 : w.heap.size ≤ a) (hr : 0 < l.length → Rw6 w2 q l) (ha : An w2 a true) (hb : Below w.heap.size w w2) =>
    ssf_any w a q z0 ao cap w2 (by rw [hzl]; exact hq) hqa hq0 ha0 hzv (by omega) ⟨.refl _, fun h => by rw [hm1]; exact hr (by omega), ha, hb, fun _ => ⟨rfl, rfl⟩⟩
  rw [hzl] at hssf
  have HCN := Lib.hid hcn
  have HFIN := Lib.hid hfin
  have HSF := Lib.hid hssf
  have HSAME : Hid (∀ (a q : Nat) (z : List (Six × JV)) (ans : Bool) (w' : World), St w a q z0 z ans w' → Ch ts → ans = true) := Lib.hid (fun a q z ans w' hst h => (hst.same (by rw [hm2]; exact h)).2)
  have hmf : ∀ (fn : Fn) (first cap : Array Value) (w : World), (Instr.makeFunc fn first cap).run Try.prog w = .ok (.func fn first cap) w := fun _ _ _ _ => rfl
  clear hcn hfin hssf hz0 hm1 hm2 hzl hzv hone hv hl ht
  go_enter Try.func17, Try.ntmps17
  go_upto_region 2 with (go_at_call 35; refine HCN.out.mono ?_; rintro e w1 ⟨ao, cap, rfl, k1, k2, k3, k4, b1⟩; have K3 := Lib.hid k3; have K4 := Lib.hid k4; have HB1 := Lib.hid b1; clear k3 k4 b1)
  have hq : ∃ q, (0 < l.length → ao = some ⟨q, 0, none⟩) ∧ (0 < l.length → Rw6 w1 q l) ∧ w.heap.size ≤ q ∧ q ≠ w1.heap.size := by
    by_cases h0 : 0 < l.length
    · obtain ⟨g, h1, h2, h3⟩ := K4.out h0
      exact ⟨g, fun _ => h1, fun _ => h3, h2, Nat.ne_of_lt h3.lt⟩
    · exact ⟨w1.heap.size + 1, fun h => absurd h h0, fun h => absurd h h0, by have := HB1.out.size; omega, by omega⟩
  obtain ⟨q, q1, q2, q3, q4⟩ := hq
  have ha : An (w1.alloc (Obj.cells #[.bool true] 4)) w1.heap.size true := heap_alloc_new w1 _
  have hsf := HSF.out w1.heap.size q ao cap (w1.alloc (Obj.cells #[.bool true] 4)) q1 q4 q3 HB1.out.size (fun h => (q2 h).on ((bA1 w1 _).block q (q2 h).lt)) ha (bT HB1.out (bA1 _ _))
  have HSFI := Lib.hid hsf
  have Q1 := Lib.hid q1
  clear hsf ha q1 q2 K4 HSF HCN
  go_wp2_with (go_at_call 36; refine HSFI.out.mono ?_; rintro e w3 ⟨z, ans, rfl, hst, hch⟩; have HST := Lib.hid hst; have HCH := Lib.hid hch; clear hst hch; have c0 := HST.out.an.cell; cases ans)
  all_goals go_ret2
  · exact ⟨none, 0, 0, false, rfl, HST.out.bel, fun _ => rfl, fun h => HSAME.out _ _ _ _ _ HST.out h, fun h => by cases h⟩
  · exact ⟨ao, l.length, cap, true, rfl, HFIN.out q _ z true w3 ao cap k1 k2 K3.out Q1.out HST.out (fun _ => HCH.out (by trivial)) rfl⟩
end Od
end Go.Proofs.Ytkmfoclhhnhkdaa
