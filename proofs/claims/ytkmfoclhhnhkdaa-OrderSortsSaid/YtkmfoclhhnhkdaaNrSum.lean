/- Rows of digits: sum, less, above. -/
import Derived.Test.YtkmfoclhhnhkdaaNrMem
import Derived.Deep.QuietTactic
import Derived.BigQuiet
namespace Go.Proofs.Ytkmfoclhhnhkdaa
open Go.RowKit
namespace Nm
theorem info_i : (Try.prog.info? 3).map (fun i => (i.zero, i.size, i.bytes)) = some (some (.int .i64 0), 1, 8) := by kernel_rfl
/-- a row of the call's own -/
def Ow (B : Nat) (w : World) (v : Value) (l : List Nat) : Prop := w.ownsRow B 3 1 v l.length (dcel l)
/-- it grew by a digit -/
theorem Ow.push {B : Nat} {w : World} {v : Value} {l : List Nat} {d : Nat} {n : Int} (hn : n = (d : Nat)) (h : w.ownsRow B 3 1 v (l.length + 1) (dcel l ++ [.int .i64 n])) : Ow B w v (l ++ [d]) := by
  unfold Ow
  rw [dcel_app, List.length_append]
  subst hn
  exact h
theorem cells_new (w : World) (xs : List Value) (t : TypeId) : ∀ j u, xs[j]? = some u → (w.alloc (.cells xs.toArray t)).cell? ((⟨w.heap.size, 0, none⟩ : Addr).add j) = some u := by
  intro j u hj
  have hadd : (⟨w.heap.size, 0, none⟩ : Addr).add j = ⟨w.heap.size, j, none⟩ := by unfold Addr.add; split <;> simp_all
  rw [hadd, cell_of_row _ w.heap.size j xs.toArray t (0, 0) (heap_alloc_new w _)]
  simpa using hj
theorem one_int (n : Int) : ∀ u ∈ [Value.int .i64 n], u.oneCell' = true := by
  intro u hu
  rw [List.mem_singleton.1 hu]; rfl
theorem Ow.bel {B : Nat} {w a b : World} {v : Value} {l : List Nat} {o : Obj} (h : Ow B a v l) (hB : B ≤ w.heap.size) (hb : Below w.heap.size w a) (hB2 : w.heap.size ≤ B) (hg : (a.alloc o).grownBy b v.ownBlock) : Below w.heap.size w b := by
  obtain rfl : B = w.heap.size := Nat.le_antisymm hB hB2
  exact (hb.alloc hb.size _).grown hg (by have := hb.size; simp; omega) (fun q hq => (World.ownsRow.lt h q hq).1)
theorem dat_is {l : List Nat} {k x : Nat} (h : l[k]? = some x) : dat l k = x := by unfold dat; rw [List.getD_eq_getElem?_getD, h]; rfl
theorem dat_no {l : List Nat} {k : Nat} (h : ¬ k < l.length) : dat l k = 0 := by unfold dat; rw [List.getD_eq_getElem?_getD, List.getElem?_eq_none (by omega)]; rfl
theorem Sm.next {a b out : List Nat} {k c s : Nat} (h : Sm a b out k c) (ha : Dg a) (hb : Dg b) (hs : s = c + dat a k + dat b k) : Sm a b (out ++ [s % 10]) (k + 1) (s / 10) := by
  subst hs; exact h.step ha hb
set_option maxRecDepth 100000 in
set_option maxHeartbeats 4000000 in
theorem sum_any (va vb : Value) (a b : List Nat) (w : World) (hra : Rw w va a) (hrb : Rw w vb b) (hda : Dg a) (hdb : Dg b) (hla : a.length ≤ 1000000000) (hlb : b.length ≤ 1000000000) :
    Calls Try.prog 94 #[va, vb] w (RowIs (fun l => Dg l ∧ dv l = dv a + dv b ∧ l.length ≤ max a.length b.length + 1) w) := by
  obtain ⟨i0, hi, hz0, hz1, hz2⟩ := info_parts info_i
  obtain ⟨ao, ac, rfl, hac, hA⟩ := hra.form
  obtain ⟨bo, bc, rfl, hbc, hB⟩ := hrb.form
  have HA := Lib.hid hA
  have HB := Lib.hid hB
  have DA := Lib.hid hda
  have DB := Lib.hid hdb
  clear hA hB hda hdb hra hrb
  go_enter Try.func94, Try.ntmps94
  go_wp2
  go_loopw [5, 6, 7] (fun v cr i wr => ∃ (k c : Nat) (out : List Nat), i = .int .i64 (k : Nat) ∧ cr = .int .i64 (c : Nat) ∧ Hid (Sm a b out k c) ∧ c ≤ 1 ∧ k ≤ max a.length b.length + 1 ∧ (k ≤ max a.length b.length ∨ c = 0) ∧ Hid (Ow w.heap.size wr v out) ∧ Hid (Below w.heap.size w wr)) (fun _ _ i _ => max a.length b.length + 1 - (intOf i).toNat)
  case atStart => exact ⟨0, 0, [], rfl, rfl, Lib.hid (Sm.zero a b), by omega, by omega, by omega, Lib.hid (World.ownsRow_nil _ _ _ _), Lib.hid (Below.refl _ _)⟩
  case round =>
    obtain ⟨k, c, out, rfl, rfl, HS, hc1, hk1, hk2, HO, HBel⟩ := hrel
    by_cases ha : k < a.length
    · obtain ⟨x, hx⟩ : ∃ x, a[k]? = some x := ⟨a[k], List.getElem?_eq_getElem ha⟩
      obtain ⟨ga, oa, rfl, hga, hcla⟩ := HA.out (by omega)
      have hca : wr.cell? ⟨ga, oa + k, none⟩ = some (.int .i64 (x : Nat)) := (HBel.out.cell (p := ⟨ga, oa + k, none⟩) hga).trans (hcla k x hx)
      have hx10 := DA.out x (List.mem_of_getElem? hx)
      have HX : Hid (dat a k = x) := Lib.hid (dat_is hx)
      clear hcla hx
      by_cases hb : k < b.length
      · obtain ⟨y, hy⟩ : ∃ y, b[k]? = some y := ⟨b[k], List.getElem?_eq_getElem hb⟩
        obtain ⟨gb, ob, rfl, hgb, hclb⟩ := HB.out (by omega)
        have hcb : wr.cell? ⟨gb, ob + k, none⟩ = some (.int .i64 (y : Nat)) := (HBel.out.cell (p := ⟨gb, ob + k, none⟩) hgb).trans (hclb k y hy)
        have hy10 := DB.out y (List.mem_of_getElem? hy)
        have HY : Hid (dat b k = y) := Lib.hid (dat_is hy)
        clear hclb hy
        have HS' : Hid (Sm a b (out ++ [(c + x + y) % 10]) (k + 1) ((c + x + y) / 10)) := Lib.hid (HS.out.next DA.out DB.out (by rw [HX.out, HY.out]))
        have HL : Hid (out.length = k) := Lib.hid HS.out.2.1
        have hkk : out.length ≤ k := Nat.le_of_eq HL.out
        go_wp2_with (at_builtin; refine wpList_append_own _ rfl _ _ 48 rfl w.heap.size 3 i0 (.int .i64 0) 1 8 Try.underlying48 hi hz0 hz1 hz2 rfl (by decide) _ _ _ rfl (HO.out.alloc _) ⟨wr.heap.size, 0, none⟩ 1 1 [.int .i64 (((c : Int) + (x : Int) + (y : Int)) % 10)] rfl rfl ?c1p (one_int _) ?c3p ?c4p ?c5p ?c6p)
        case c1p => exact cells_new wr _ _
        case c3p => unfold maxLen; omega
        case c4p => omega
        case c5p => have := HBel.out.size; simp; omega
        case c6p =>
          intro v' w1 hown' hgrow _
          have HO' : Hid (Ow w.heap.size w1 v' (out ++ [(c + x + y) % 10])) := Lib.hid (Ow.push (by omega) hown')
          have HB' : Hid (Below w.heap.size w w1) := Lib.hid (HO.out.bel (Nat.le_refl _) HBel.out (Nat.le_refl _) hgrow)
          clear hown' hgrow HO HBel
          go_wp2
          go_roundw
          case rel => exact ⟨k + 1, (c + x + y) / 10, out ++ [(c + x + y) % 10], by go_num, by go_num, HS', by omega, by omega, by omega, HO', HB'⟩
          case measure => simp [intOf]; omega
      · have HY : Hid (dat b k = 0) := Lib.hid (dat_no hb)
        have HS' : Hid (Sm a b (out ++ [(c + x) % 10]) (k + 1) ((c + x) / 10)) := Lib.hid (HS.out.next DA.out DB.out (by rw [HX.out, HY.out]; rfl))
        have HL : Hid (out.length = k) := Lib.hid HS.out.2.1
        have hkk : out.length ≤ k := Nat.le_of_eq HL.out
        go_wp2_with (at_builtin; refine wpList_append_own _ rfl _ _ 48 rfl w.heap.size 3 i0 (.int .i64 0) 1 8 Try.underlying48 hi hz0 hz1 hz2 rfl (by decide) _ _ _ rfl (HO.out.alloc _) ⟨wr.heap.size, 0, none⟩ 1 1 [.int .i64 (((c : Int) + (x : Int)) % 10)] rfl rfl ?c1q (one_int _) ?c3q ?c4q ?c5q ?c6q)
        case c1q => exact cells_new wr _ _
        case c3q => unfold maxLen; omega
        case c4q => omega
        case c5q => have := HBel.out.size; simp; omega
        case c6q =>
          intro v' w1 hown' hgrow _
          have HO' : Hid (Ow w.heap.size w1 v' (out ++ [(c + x) % 10])) := Lib.hid (Ow.push (by omega) hown')
          have HB' : Hid (Below w.heap.size w w1) := Lib.hid (HO.out.bel (Nat.le_refl _) HBel.out (Nat.le_refl _) hgrow)
          clear hown' hgrow HO HBel
          go_wp2
          go_roundw
          case rel => exact ⟨k + 1, (c + x) / 10, out ++ [(c + x) % 10], by go_num, by go_num, HS', by omega, by omega, by omega, HO', HB'⟩
          case measure => simp [intOf]; omega
    · have HX : Hid (dat a k = 0) := Lib.hid (dat_no ha)
      by_cases hb : k < b.length
      · obtain ⟨y, hy⟩ : ∃ y, b[k]? = some y := ⟨b[k], List.getElem?_eq_getElem hb⟩
        obtain ⟨gb, ob, rfl, hgb, hclb⟩ := HB.out (by omega)
        have hcb : wr.cell? ⟨gb, ob + k, none⟩ = some (.int .i64 (y : Nat)) := (HBel.out.cell (p := ⟨gb, ob + k, none⟩) hgb).trans (hclb k y hy)
        have hy10 := DB.out y (List.mem_of_getElem? hy)
        have HY : Hid (dat b k = y) := Lib.hid (dat_is hy)
        clear hclb hy
        have HS' : Hid (Sm a b (out ++ [(c + y) % 10]) (k + 1) ((c + y) / 10)) := Lib.hid (HS.out.next DA.out DB.out (by rw [HX.out, HY.out]; omega))
        have HL : Hid (out.length = k) := Lib.hid HS.out.2.1
        have hkk : out.length ≤ k := Nat.le_of_eq HL.out
        go_wp2_with (at_builtin; refine wpList_append_own _ rfl _ _ 48 rfl w.heap.size 3 i0 (.int .i64 0) 1 8 Try.underlying48 hi hz0 hz1 hz2 rfl (by decide) _ _ _ rfl (HO.out.alloc _) ⟨wr.heap.size, 0, none⟩ 1 1 [.int .i64 (((c : Int) + (y : Int)) % 10)] rfl rfl ?c1r (one_int _) ?c3r ?c4r ?c5r ?c6r)
        case c1r => exact cells_new wr _ _
        case c3r => unfold maxLen; omega
        case c4r => omega
        case c5r => have := HBel.out.size; simp; omega
        case c6r =>
          intro v' w1 hown' hgrow _
          have HO' : Hid (Ow w.heap.size w1 v' (out ++ [(c + y) % 10])) := Lib.hid (Ow.push (by omega) hown')
          have HB' : Hid (Below w.heap.size w w1) := Lib.hid (HO.out.bel (Nat.le_refl _) HBel.out (Nat.le_refl _) hgrow)
          clear hown' hgrow HO HBel
          go_wp2
          go_roundw
          case rel => exact ⟨k + 1, (c + y) / 10, out ++ [(c + y) % 10], by go_num, by go_num, HS', by omega, by omega, by omega, HO', HB'⟩
          case measure => simp [intOf]; omega
      · have HY : Hid (dat b k = 0) := Lib.hid (dat_no hb)
        by_cases hc : 0 < c
        · have HS' : Hid (Sm a b (out ++ [(c) % 10]) (k + 1) ((c) / 10)) := Lib.hid (HS.out.next DA.out DB.out (by rw [HX.out, HY.out]; rfl))
          have HL : Hid (out.length = k) := Lib.hid HS.out.2.1
          have hkk : out.length ≤ k := Nat.le_of_eq HL.out
          go_wp2_with (at_builtin; refine wpList_append_own _ rfl _ _ 48 rfl w.heap.size 3 i0 (.int .i64 0) 1 8 Try.underlying48 hi hz0 hz1 hz2 rfl (by decide) _ _ _ rfl (HO.out.alloc _) ⟨wr.heap.size, 0, none⟩ 1 1 [.int .i64 (((c : Int)) % 10)] rfl rfl ?c1s (one_int _) ?c3s ?c4s ?c5s ?c6s)
          case c1s => exact cells_new wr _ _
          case c3s => unfold maxLen; omega
          case c4s => omega
          case c5s => have := HBel.out.size; simp; omega
          case c6s =>
            intro v' w1 hown' hgrow _
            have HO' : Hid (Ow w.heap.size w1 v' (out ++ [(c) % 10])) := Lib.hid (Ow.push (by omega) hown')
            have HB' : Hid (Below w.heap.size w w1) := Lib.hid (HO.out.bel (Nat.le_refl _) HBel.out (Nat.le_refl _) hgrow)
            clear hown' hgrow HO HBel
            go_wp2
            go_roundw
            case rel => exact ⟨k + 1, (c) / 10, out ++ [(c) % 10], by go_num, by go_num, HS', by omega, by omega, by omega, HO', HB'⟩
            case measure => simp [intOf]; omega
        · obtain rfl : c = 0 := by omega
          have HF := Lib.hid (HS.out.fin (by omega) (by omega))
          have HL : Hid (out.length = k) := Lib.hid HS.out.2.1
          go_wp2
          go_ret
          exact ⟨_, out, rfl, ⟨HF.out.1, HF.out.2, by rw [HL.out]; omega⟩, Rw.of_own HO.out, HBel.out⟩
end Nm
end Go.Proofs.Ytkmfoclhhnhkdaa
