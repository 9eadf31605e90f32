/- Whole numbers without bound: Shift. -/
import Derived.Test.YtpddkchnogfjkaaGreatDoorNrOf
namespace Go.Proofs.YtpddkchnogfjkaaGreatDoor
open Go.RowKit
namespace Nm
theorem grown_refl (w : World) (r : Option Nat) : w.grownBy w r := ⟨rfl, rfl, rfl, Nat.le_refl _, fun _ _ _ => rfl⟩
/-- a row appended to one of the call's own, nil or not -/
theorem app_row {w : World} {ops : Array Oper} {rest : List Oper} {o : Oper} {a : Act} {Q : Exit → Act → World → Prop} (hgd : o.guard = none) (s x : Operand)
    (ho : o.op = .call { callee := .builtin .append, args := #[s, x], argTypes := #[47, 47] }) {B : Nat} {v v2 : Value} {l l2 : List Nat}
    (hs : a.eval s = v) (hown : Ow B w v l) (hx : a.eval x = v2) (hr : Rw w v2 l2) (hn : l.length + l2.length ≤ 1000000000) (hB : B ≤ w.heap.size)
    (h : ∀ v' w', Ow B w' v' (l ++ l2) → w.grownBy w' v.ownBlock → wpList Tryz.prog ops Q rest (a.put o.dst v') w') : wpList Tryz.prog ops Q (o :: rest) a w := by
  obtain ⟨i0, hi, hz0, hz1, hz2⟩ := info_parts info_i
  rcases hr with ⟨rfl, rfl⟩ | ⟨k, of, cap, rfl, hc, hk, hcl⟩
  · refine wpList_append_own_none hgd s x 47 ho B 3 i0 1 Tryz.underlying47 hi v l.length (dcel l) hs hown hx ?_
    exact h v w (by rw [List.append_nil]; exact hown) (grown_refl _ _)
  · refine wpList_append_own w hgd s x 47 ho B 3 i0 (.int .i64 0) 1 8 Tryz.underlying47 hi hz0 hz1 hz2 rfl (by decide) v l.length (dcel l) hs hown ⟨k, of, none⟩ l2.length cap (dcel l2) hx (by rw [dcel_len]; omega) ?_ (dcel_one _) (by unfold maxLen; omega) (by omega) hB ?_
    · intro j u hj
      have hadd : (⟨k, of, none⟩ : Addr).add j = ⟨k, of + j, none⟩ := by unfold Addr.add; split <;> simp_all
      rw [hadd]
      have hj2 := hj
      unfold dcel at hj2
      rw [List.getElem?_map] at hj2
      obtain ⟨d, hd, rfl⟩ := Option.map_eq_some_iff.1 hj2
      exact hcl j d hd
    · intro v' w' hw hg _
      refine h v' w' ?_ hg
      unfold Ow
      rw [dcel_app, List.length_append]
      exact hw
theorem Ow.bel0 {w a b : World} {v : Value} {l : List Nat} (h : Ow w.heap.size a v l) (hb : Below w.heap.size w a) (hg : a.grownBy b v.ownBlock) : Below w.heap.size w b :=
  hb.grown hg hb.size (fun q hq => (World.ownsRow.lt h q hq).1)
theorem dv_rep (k x : Nat) : dv (List.replicate k 0 ++ dgs x) = x * 10 ^ k := by rw [dv_shift, dv_dgs, Nat.mul_comm]
set_option maxRecDepth 100000 in
set_option maxHeartbeats 4000000 in
theorem refShift_any (b : Bool) (v : Value) (x n : Nat) (m : Int) (w : World) (hr : Rw w v (dgs x)) (hl : (dgs x).length ≤ 100000000) (hn : n ≤ 100000000) (hm : m = (n : Int)) :
    Calls Tryz.prog 40 #[.agg #[.bool b, v], .int .i64 m] w (LongIs b (x * 10 ^ n) w) := by
  obtain ⟨i0, hi, hz0, hz1, hz2⟩ := info_parts info_i
  subst hm
  have hsl := hr.sl
  obtain ⟨ao, an, ac, rfl⟩ := hsl
  have HR := Lib.hid hr
  clear hr
  have htrim : ∀ v' w', Hid (Rw w' v' (List.replicate n 0 ++ dgs x)) → Calls Tryz.prog 26 #[.agg #[.bool b, v']] w' (LongIs b (x * 10 ^ n) w') := fun v' w' h => by
    rw [← dv_rep]
    exact trim_any b v' _ w' h.out ((Dg.zeros n).app (Dg_dgs x)) (by rw [List.length_append, List.length_replicate]; omega)
  go_enter Tryz.func40, Tryz.ntmps40
  go_wp2
  go_loopw [5, 6] (fun d i wr => ∃ k : Nat, i = .int .i64 (k : Nat) ∧ k ≤ n ∧ Hid (Ow w.heap.size wr d (List.replicate k 0)) ∧ Hid (Lb wr w.heap.size (.bool b) (.slice ao an ac)) ∧ Hid (Lb wr (w.heap.size + 1) (.bool false) (.slice none 0 0)) ∧ Hid (Below w.heap.size w wr)) (fun _ i _ => n - (intOf i).toNat)
  case atStart => exact ⟨0, rfl, by omega, Lib.hid (World.ownsRow_nil _ _ _ _), Lib.hid ((Lb.new w _ _).alloc _), Lib.hid (by simpa using Lb.new (w.alloc (Obj.cells #[.bool b, .slice ao an ac] 49)) (.bool false) (.slice none 0 0)), Lib.hid (bA2 _ _ _)⟩
  case round =>
    obtain ⟨k, rfl, hk, HO, HL, HRs, HBel⟩ := hrel
    obtain ⟨l0, l1, m0, m1⟩ := HL.out.bx
    obtain ⟨r0, r1, s0, s1⟩ := HRs.out.bx
    by_cases hlt : k < n
    · have hol : (List.replicate k 0).length ≤ 100000000 := by rw [List.length_replicate]; omega
      go_wp2_with (at_builtin; refine wpList_append_own _ rfl _ _ 47 rfl w.heap.size 3 i0 (.int .i64 0) 1 8 Tryz.underlying47 hi hz0 hz1 hz2 rfl (by decide) _ _ _ rfl (HO.out.alloc _) ⟨wr.heap.size, 0, none⟩ 1 1 [.int .i64 0] rfl rfl (cells_new _ _ _) (one_int _) ?c3 ?c4 ?c5 ?c6)
      case c3 => unfold maxLen; omega
      case c4 => omega
      case c5 => have := HBel.out.size; simp; omega
      case c6 =>
        intro v' w1 hown' hgrow _
        have HO' : Hid (Ow w.heap.size w1 v' (List.replicate (k + 1) 0)) := Lib.hid (by
          have h := Ow.push (l := List.replicate k 0) (d := 0) rfl (by rw [List.length_replicate]; exact hown')
          rw [List.replicate_succ']
          exact h)
        have HB' : Hid (Below w.heap.size w w1) := Lib.hid (HO.out.bel (Nat.le_refl _) HBel.out (Nat.le_refl _) hgrow)
        have HL' := Lib.hid ((HL.out.alloc _).grown (HO.out.alloc _) hgrow)
        have HR' := Lib.hid ((HRs.out.alloc _).grown (HO.out.alloc _) hgrow)
        clear hown' hgrow
        go_wp2
        go_roundw
        case rel => exact ⟨k + 1, by go_num, by omega, HO', HL', HR', HB'⟩
        case measure => simp [intOf]; omega
    · obtain rfl : k = n := by omega
      have HRW : Hid (Rw wr (.slice ao an ac) (dgs x)) := Lib.hid (HR.out.on HBel.out)
      go_wp2_with (at_builtin; refine app_row rfl _ _ rfl rfl HO.out rfl HRW.out ?d1 ?d2 ?d3)
      case d1 => rw [List.length_replicate]; omega
      case d2 => have := HBel.out.size; omega
      case d3 =>
        intro v' w1 hown' hgrow
        have HRn := Lib.hid (Rw.of_own hown')
        have HB' : Hid (Below w.heap.size w w1) := Lib.hid (HO.out.bel0 HBel.out hgrow)
        have HL' := Lib.hid (HL.out.grown HO.out hgrow)
        have HR' := Lib.hid (HRs.out.grown HO.out hgrow)
        obtain ⟨vo, vn, vc, rfl⟩ := HRn.out.sl
        clear hown' hgrow
        obtain ⟨e0, e1, f0, f1⟩ := HL'.out.bx
        obtain ⟨p0, p1, q0, q1⟩ := HR'.out.bx
        go_wp2_with (go_at_call 26; refine (htrim _ _ HRn).mono ?_; rintro e w2 ⟨v2, rfl, hr2, b2⟩; have HR2 := Lib.hid hr2; obtain ⟨uo, un, uc, rfl⟩ := hr2.sl; have HB2 := Lib.hid b2; have HX := Lib.hid (HR'.out.on b2); obtain ⟨x0, x1, y0, y1⟩ := (HR'.out.on b2).bx; clear hr2 b2)
        obtain ⟨z0, z1, _, _⟩ := HX.out.bx.put (.bool (ng b (x * 10 ^ k))) (.slice uo un uc)
        clear x0 x1 y0 y1
        simp [bodyPost, results, Tryz.results40, go_sem, z0, z1]
        exact LongIs.of rfl (HR2.out.box HX.out.bx) (((bT HB'.out HB2.out).setCell (by simp) _).setCell (by simp) _)
end Nm
end Go.Proofs.YtpddkchnogfjkaaGreatDoor
