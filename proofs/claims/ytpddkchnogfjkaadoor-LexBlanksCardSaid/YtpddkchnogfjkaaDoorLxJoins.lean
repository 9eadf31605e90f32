/- Layer 13: LexJoins, of every two queries. -/
import Derived.Test.YtpddkchnogfjkaaDoorLxAns
namespace Go.Proofs.YtpddkchnogfjkaaDoor
open Go.RowKit
namespace Lx
open _root_.Go.Proofs.YtpddkchnogfjkaaDoor.Nm (bT)
theorem join_ans {a b c : ByteArray} {l m : List Tk} {p1 p2 : Nat} (hc : c.data.toList = a.data.toList ++ 10 :: b.data.toList) (ha : a.size ≤ 2000) (hb : b.size ≤ 2000) (h1 : ansT a = (l, p1, 0)) (h2 : ansT b = (m, p2, 0)) :
    ansT c = (l.dropLast ++ m.map (Tk.by (a.size + 1)), 0, 0) := by
  have e1 : a.data.toList.length = a.size := by simp
  have e2 : b.data.toList.length = b.size := by simp
  have e3 : c.data.toList.length = c.size := by simp
  have hs : c.size = a.size + b.size + 1 := by
    rw [← e3, hc]; simp; omega
  have h3 := ans_ok h1
  have h4 := ans_ok h2
  have h5 := lxs_shift numN strS (a.size + 1) _ 0 b.data.toList (Nat.le_refl _)
  rw [h4] at h5
  have h6 := lxs_join numN strS _ 0 a.data.toList b.data.toList l (m.map (Tk.by (a.size + 1))) (Nat.le_refl _) h3 (by rw [e1, Nat.add_assoc]; exact h5)
  unfold ansT
  rw [if_neg (by omega), hc, h6]
theorem ans_ne {q : ByteArray} {l : List Tk} {p : Nat} (h : ansT q = (l, p, 0)) : 0 < l.length := List.length_pos_iff.2 (lxs_ne numN strS _ _ (ans_ok h))
theorem ans_len {q : ByteArray} {l : List Tk} {p : Nat} (h : ansT q = (l, p, 0)) : l.length ≤ q.size + 1 := by
  have := lxs_len numN strS _ 0 q.data.toList l (Nat.le_refl _) (ans_ok h)
  have e : q.data.toList.length = q.size := by simp
  omega
theorem lxs_place : ∀ (n p : Nat) (r : List UInt8) (l : List Tk), r.length ≤ n → lxs numN strS p r = .ok l → ∀ x ∈ l, x.p ≤ p + r.length := by
  intro n
  induction n with
  | zero =>
    intro p r l h hl x hx
    obtain rfl : r = [] := List.length_eq_zero_iff.1 (by omega)
    rw [lxs_end numN strS _ rfl] at hl; cases hl
    simp only [List.mem_singleton] at hx; subst hx; simp [blk]
  | succ n ih =>
    intro p r l h hl x hx
    have hb := blk_le false r
    by_cases h0 : r.drop (blk false r) = []
    · rw [lxs_end numN strS _ h0] at hl; cases hl
      simp only [List.mem_singleton] at hx; subst hx; simp only; omega
    · cases ht : tok numN strS (r.drop (blk false r)) with
      | error e => rw [lxs_err numN strS _ h0 ht] at hl; cases hl
      | ok z =>
        obtain ⟨k, t, v, q⟩ := z
        have hp := tok_pos numN strS ht
        rw [List.length_drop] at hp
        rw [lxs_ok numN strS _ ht] at hl
        cases hr : lxs numN strS (p + blk false r + q) (r.drop (blk false r + q)) with
        | error e => rw [hr] at hl; cases hl
        | ok l2 =>
          rw [hr] at hl
          cases hl
          rcases List.mem_cons.1 hx with rfl | hx
          · simp only; omega
          · have := ih _ _ _ (by rw [List.length_drop]; omega) hr x hx
            rw [List.length_drop] at this
            omega
theorem ans_place {q : ByteArray} {l : List Tk} {p : Nat} (h : ansT q = (l, p, 0)) : ∀ x ∈ l, x.p ≤ q.size := fun x hx => by
  have := lxs_place _ 0 q.data.toList l (Nat.le_refl _) (ans_ok h) x hx
  have e : q.data.toList.length = q.size := by simp
  omega
theorem join_len {l m : List Tk} {d : Nat} (h : 0 < l.length) : (l.dropLast ++ m.map (Tk.by d)).length + 1 = l.length + m.length := by
  rw [List.length_append, List.length_dropLast, List.length_map]; omega
theorem join_lo {l m : List Tk} {d i : Nat} (h : i + 1 < l.length) : (l.dropLast ++ m.map (Tk.by d))[i]? = l[i]? := by
  rw [List.getElem?_append_left (by rw [List.length_dropLast]; omega), List.getElem?_dropLast, if_pos (by omega)]
theorem join_hi {l m : List Tk} {d i : Nat} (h : ¬ i + 1 < l.length) (hl : 0 < l.length) : (l.dropLast ++ m.map (Tk.by d))[i]? = (m[i + 1 - l.length]?).map (Tk.by d) := by
  rw [List.getElem?_append_right (by rw [List.length_dropLast]; omega), List.length_dropLast, List.getElem?_map, show i - (l.length - 1) = i + 1 - l.length by omega]
/-- what Tokens answers of a query, closed to unifying -/
structure AnsR (q : ByteArray) (l : List Tk) (p e : Nat) : Prop where
  out : ansT q = (l, p, e)
  sz : q.size ≤ 1000000000
theorem tokens_c (q : ByteArray) (l : List Tk) (p e : Nat) (w : World) (h : AnsR q l p e) :
    Calls Tryd.prog 11 #[.string q] w fun r w' => Below w.heap.size w w' ∧ ∃ v, r = .returned (.tuple #[v, .int .i64 (p : Nat), .int .i64 (e : Nat)]) ∧ Tks w' v l := by
  have := tokens_any q w (by have := h.sz; unfold maxLen; omega)
  unfold TokP at this
  rw [h.out] at this
  exact this
set_option maxRecDepth 100000 in
set_option maxHeartbeats 2000000 in
theorem lexJoins_any (a b : ByteArray) (w : World) :
    Calls Tryd.prog 5 #[.string a, .string b] w fun e w' => e = .returned (.bool true) ∧ Below w.heap.size w w' := by
  have hlv := lives_any
  by_cases hs : a.size ≤ 2000 ∧ b.size ≤ 2000
  · obtain ⟨ha, hb⟩ := hs
    have hT := tokens_c
    have hc : (a ++ ⟨#[10]⟩ ++ b).data.toList = a.data.toList ++ 10 :: b.data.toList := by simp [ByteArray.data_append]
    have hcs : (a ++ ⟨#[10]⟩ ++ b).size ≤ 1000000000 := by
      have h1 : ∀ x : ByteArray, x.data.toList.length = x.size := fun x => by simp
      have h1 := h1 (a ++ ⟨#[10]⟩ ++ b)
      rw [hc, List.length_append, List.length_cons] at h1
      have e1 : a.data.toList.length = a.size := by simp
      have e2 : b.data.toList.length = b.size := by simp
      omega
    obtain ⟨c, hcc⟩ : ∃ c, a ++ ⟨#[10]⟩ ++ b = c := ⟨_, rfl⟩
    rw [hcc] at hc hcs
    have HCC := Lib.hid hcc
    have HA : AnsR a (ansT a).1 (ansT a).2.1 (ansT a).2.2 := ⟨rfl, by omega⟩
    have HB : AnsR b (ansT b).1 (ansT b).2.1 (ansT b).2.2 := ⟨rfl, by omega⟩
    have HC : AnsR c (ansT c).1 (ansT c).2.1 (ansT c).2.2 := ⟨rfl, hcs⟩
    generalize (ansT a).1 = l at HA
    generalize (ansT a).2.1 = p1 at HA
    generalize (ansT a).2.2 = e1 at HA
    generalize (ansT b).1 = m at HB
    generalize (ansT b).2.1 = p2 at HB
    generalize (ansT b).2.2 = e2 at HB
    by_cases hee : e1 = 0 ∧ e2 = 0
    · obtain ⟨rfl, rfl⟩ := hee
      have hans := join_ans hc ha hb HA.out HB.out
      have hl0 := ans_ne HA.out
      have hm0 := ans_ne HB.out
      have hl1 := ans_len HA.out
      have hm1 := ans_len HB.out
      have HPL := Lib.hid (ans_place HB.out)
      rw [hans] at HC
      simp only at HC
      obtain ⟨J, hJ⟩ : ∃ J, l.dropLast ++ m.map (Tk.by (a.size + 1)) = J := ⟨_, rfl⟩
      have hJl : J.length + 1 = l.length + m.length := by rw [← hJ]; exact join_len hl0
      rw [hJ] at HC
      have HJ := Lib.hid hJ
      clear hJ
      have HCL := Lib.hid hc
      clear hans hc hcc
      go_enter Tryd.func5, Tryd.ntmps5
      go_upto_region 4 with (go_at_call 11; refine (hT _ _ _ _ _ HA).mono ?_; rintro e w1 ⟨k1, v1, rfl, t1⟩; have HT1 := Lib.hid t1; have HK1 := Lib.hid k1; obtain ⟨ao1, cap1, rfl, -, -⟩ := t1; clear k1)
      go_upto_region 5 with (go_at_call 11; refine (hT _ _ _ _ _ HB).mono ?_; rintro e w2 ⟨k2, v2, rfl, t2⟩; have HT2 := Lib.hid t2; have HK2 := Lib.hid k2; obtain ⟨ao2, cap2, rfl, -, -⟩ := t2; clear k2)
      go_upto_region 6 with (go_at_call 11; rw [HCC.out]; refine (hT _ _ _ _ _ HC).mono ?_; rintro e w3 ⟨k3, v3, rfl, t3⟩; have HT3 := Lib.hid t3; have HK3 := Lib.hid k3; obtain ⟨ao3, cap3, rfl, -, -⟩ := t3; clear k3)
      have HV1 := Lib.hid ((HT1.out.on HK2.out).on HK3.out)
      have HV2 := Lib.hid (HT2.out.on HK3.out)
      have HBE := Lib.hid (bT (bT HK1.out HK2.out) HK3.out)
      clear HT1 HT2 HK1 HK2 HK3 HA HB HC
      have g1 : ((J.length : Int) == (l.length : Int) + (m.length : Int) - 1) = true := by simp; omega
      have g2 : ((J.length : Int) != (l.length : Int) + (m.length : Int) - 1) = false := by simp; omega
      have HV3 := HT3
      clear HT3
      go_wp2_with fail
      clear g1 g2
      go_loopw [14] (fun iv wr => ∃ i : Nat, iv = .int .i64 (i : Nat) ∧ i ≤ J.length ∧ Hid (Below w.heap.size w wr) ∧ Hid (Tks wr (.slice ao1 l.length cap1) l) ∧ Hid (Tks wr (.slice ao2 m.length cap2) m) ∧ Hid (Tks wr (.slice ao3 J.length cap3) J)) (fun iv _ => J.length - (intOf iv).toNat)
      case atStart => exact ⟨0, rfl, by omega, HBE, HV1, HV2, HV3⟩
      case round =>
        clear HBE HV1 HV2 HV3
        obtain ⟨i, rfl, hi, HBE, HV1, HV2, HV3⟩ := hrel
        by_cases hlt : i < J.length
        · obtain ⟨y, hy⟩ : ∃ y, J[i]? = some y := ⟨J[i], List.getElem?_eq_getElem hlt⟩
          have hlt2 : (i : Int) < (J.length : Int) := by omega
          go_upto_region 14 with (fail)
          have HU0 := Lib.hid (Ub.new wr #[.int .i64 0, .string ⟨#[]⟩, .int .i64 0, .int .i64 0, .int .i64 0])
          have hza : Below wr.heap.size wr (wr.alloc (Obj.cells #[.int .i64 0, .string ⟨#[]⟩, .int .i64 0, .int .i64 0, .int .i64 0] 34)) := (Below.refl _ _).alloc (Nat.le_refl _) _
          have HZA := Lib.hid hza
          clear hza
          generalize wr.alloc (Obj.cells #[.int .i64 0, .string ⟨#[]⟩, .int .i64 0, .int .i64 0, .int .i64 0] 34) = wa at HU0 HZA ⊢
          obtain ⟨y0, y1, y2, y3, y4⟩ := HU0.out.five
          have hf := fun o => HU0.out.free o
          by_cases hlo : i + 1 < l.length
          · have hg : l[i]? = some y := by rw [← hy, ← HJ.out, join_lo hlo]
            obtain ⟨ao', cap', h3, h4, h5⟩ := HV1.out.on HZA.out
            cases h3
            obtain ⟨bk, o, rfl, hbk, hcl⟩ := h5 (by omega)
            obtain ⟨c0, c1, c2, c3, c4⟩ := hcl i _ hg
            have g3 : (i : Int) < (l.length : Int) - 1 := by omega
            have g4 : (i : Int) < (l.length : Int) := by omega
            have HY := Lib.hid hy
            clear h5 hcl hg hy
            go_upto_region 18 with (fail)
            have HU := Lib.hid (HU0.out.put (.int .i64 (y.k : Nat)) (.string ⟨y.t.toArray⟩) (.int .i64 y.c) (.int .i64 y.s) (.int .i64 (y.p : Nat)))
            have HB5 := Lib.hid (b5 HZA.out (Nat.le_refl _) (.int .i64 (y.k : Nat)) (.string ⟨y.t.toArray⟩) (.int .i64 y.c) (.int .i64 y.s) (.int .i64 (y.p : Nat)))
            clear y0 y1 y2 y3 y4 hf HU0 HZA
            generalize (((((wa.setCell ⟨wr.heap.size, 0, none⟩ (.int .i64 (y.k : Nat))).setCell ⟨wr.heap.size, 1, none⟩ (.string ⟨y.t.toArray⟩)).setCell ⟨wr.heap.size, 2, none⟩ (.int .i64 y.c)).setCell ⟨wr.heap.size, 3, none⟩ (.int .i64 y.s)).setCell ⟨wr.heap.size, 4, none⟩ (.int .i64 (y.p : Nat))) = w5 at HU HB5 ⊢
            have HW1 := Lib.hid (HV1.out.on HB5.out)
            have HW2 := Lib.hid (HV2.out.on HB5.out)
            have HW3 := Lib.hid (HV3.out.on HB5.out)
            have HBF := Lib.hid (bT HBE.out HB5.out)
            clear HV1 HV2 HV3 HBE HB5
            clear c0 c1 c2 c3 c4
            obtain ⟨x0, x1, x2, x3, x4⟩ := HU.out.five
            obtain ⟨ao', cap', h3, h4, h5⟩ := HW3.out
            cases h3
            obtain ⟨bj, oj, rfl, hbj, hcl⟩ := h5 (by omega)
            obtain ⟨c0, c1, c2, c3, c4⟩ := hcl i _ HY.out
            clear h5 hcl HU
            go_quiet (fail)
            go_wp2_with fail
            go_roundw
            case rel => exact ⟨i + 1, by go_num, by omega, Lib.hid (bT HBF.out (below_drewN w5 nq)), Lib.hid (HW1.out.drewN nq), Lib.hid (HW2.out.drewN nq), Lib.hid (HW3.out.drewN nq)⟩
            case measure => simp [intOf]; omega
          · obtain ⟨j, hj⟩ : ∃ j, i + 1 - l.length = j := ⟨_, rfl⟩
            have g3 : ¬ (i : Int) < (l.length : Int) - 1 := by omega
            have g4 : (i : Int) - (l.length : Int) + 1 = (j : Int) := by omega
            have hg := join_hi (m := m) (d := a.size + 1) hlo hl0
            rw [HJ.out, hy, hj] at hg
            obtain ⟨z, hz, hzy⟩ : ∃ z, m[j]? = some z ∧ Tk.by (a.size + 1) z = y := by
              cases hz : m[j]? with
              | none => rw [hz] at hg; cases hg
              | some z => rw [hz] at hg; exact ⟨z, rfl, (Option.some.inj hg).symm⟩
            have hjm := (List.getElem?_eq_some_iff.1 hz).1
            have g5 : (j : Int) < (m.length : Int) := by omega
            have hzp : z.p ≤ 2000 := Nat.le_trans (HPL.out z (List.mem_of_getElem? hz)) hb
            obtain ⟨ao', cap', h3, h4, h5⟩ := HV2.out.on HZA.out
            cases h3
            obtain ⟨bk, o, rfl, hbk, hcl⟩ := h5 (by omega)
            obtain ⟨c0, c1, c2, c3, c4⟩ := hcl j _ hz
            have HY := Lib.hid hy
            have HZY := Lib.hid hzy
            clear h5 hcl hg hy hz hzy
            go_upto_region 17 with (fail)
            have HU4 := Lib.hid (HU0.out.put (.int .i64 (z.k : Nat)) (.string ⟨z.t.toArray⟩) (.int .i64 z.c) (.int .i64 z.s) (.int .i64 (z.p : Nat)))
            have HB4 := Lib.hid (b5 HZA.out (Nat.le_refl _) (.int .i64 (z.k : Nat)) (.string ⟨z.t.toArray⟩) (.int .i64 z.c) (.int .i64 z.s) (.int .i64 (z.p : Nat)))
            clear y0 y1 y2 y3 y4 hf HU0 HZA
            generalize (((((wa.setCell ⟨wr.heap.size, 0, none⟩ (.int .i64 (z.k : Nat))).setCell ⟨wr.heap.size, 1, none⟩ (.string ⟨z.t.toArray⟩)).setCell ⟨wr.heap.size, 2, none⟩ (.int .i64 z.c)).setCell ⟨wr.heap.size, 3, none⟩ (.int .i64 z.s)).setCell ⟨wr.heap.size, 4, none⟩ (.int .i64 (z.p : Nat))) = wb at HU4 HB4 ⊢
            obtain ⟨y0, y1, y2, y3, y4⟩ := HU4.out.five
            have hf := fun o => HU4.out.free o
            go_upto_region 18 with (fail)
            have HU := Lib.hid (HU4.out.set 4 (.int .i64 ((z.p : Int) + a.size + 1)))
            have HB5 := Lib.hid (HB4.out.setCell (p := ⟨wr.heap.size, 4, none⟩) (Nat.le_refl _) (.int .i64 ((z.p : Int) + a.size + 1)))
            clear y0 y1 y2 y3 y4 hf HU4 HB4
            generalize wb.setCell ⟨wr.heap.size, 4, none⟩ (.int .i64 ((z.p : Int) + a.size + 1)) = w5 at HU HB5 ⊢
            have HW1 := Lib.hid (HV1.out.on HB5.out)
            have HW2 := Lib.hid (HV2.out.on HB5.out)
            have HW3 := Lib.hid (HV3.out.on HB5.out)
            have HBF := Lib.hid (bT HBE.out HB5.out)
            clear HV1 HV2 HV3 HBE HB5
            clear c0 c1 c2 c3 c4
            have hu : Ub w5 wr.heap.size #[.int .i64 (z.k : Nat), .string ⟨z.t.toArray⟩, .int .i64 z.c, .int .i64 z.s, .int .i64 ((z.p : Int) + a.size + 1)] := HU.out
            obtain ⟨x0, x1, x2, x3, x4⟩ := hu.five
            obtain ⟨ao', cap', h3, h4, h5⟩ := HW3.out
            cases h3
            obtain ⟨bj, oj, rfl, hbj, hcl⟩ := h5 (by omega)
            obtain ⟨c0, c1, c2, c3, c4⟩ := hcl i _ HY.out
            have e5 : ((y.p : Nat) : Int) = (z.p : Int) + a.size + 1 := by rw [← HZY.out]; simp only [Tk.by]; omega
            rw [show y.k = z.k by rw [← HZY.out]; rfl] at c0
            rw [show y.t = z.t by rw [← HZY.out]; rfl] at c1
            rw [show y.c = z.c by rw [← HZY.out]; rfl] at c2
            rw [show y.s = z.s by rw [← HZY.out]; rfl] at c3
            rw [e5] at c4
            clear h5 hcl HU hu e5
            go_quiet (fail)
            go_wp2_with fail
            go_roundw
            case rel => exact ⟨i + 1, by go_num, by omega, Lib.hid (bT HBF.out (below_drewN w5 nq)), Lib.hid (HW1.out.drewN nq), Lib.hid (HW2.out.drewN nq), Lib.hid (HW3.out.drewN nq)⟩
            case measure => simp [intOf]; omega
        · have HN : Hid (i = J.length) := Lib.hid (by omega)
          have hge : (J.length : Int) ≤ (i : Int) := by omega
          go_wp2_with (go_at_call 6; refine (hlv _).mono ?_; rintro e w6 ⟨rfl, b6⟩)
          go_ret
          exact ⟨rfl, bT HBE.out b6⟩
    · generalize (ansT c).1 = lc at HC
      generalize (ansT c).2.1 = pc at HC
      generalize (ansT c).2.2 = ec at HC
      by_cases he1 : e1 = 0
      · have he2 : e2 ≠ 0 := fun g => hee ⟨he1, g⟩
        subst he1
        have g1 : ((e2 : Int) != 0) = true := by simp; omega
        have g2 : ((e2 : Int) == 0) = false := by simp; omega
        clear hc hcc
        go_enter Tryd.func5, Tryd.ntmps5
        go_upto_region 4 with (go_at_call 11; refine (hT _ _ _ _ _ HA).mono ?_; rintro e w1 ⟨k1, v1, rfl, t1⟩; obtain ⟨ao1, cap1, rfl, -, -⟩ := t1)
        go_upto_region 5 with (go_at_call 11; refine (hT _ _ _ _ _ HB).mono ?_; rintro e w2 ⟨k2, v2, rfl, t2⟩; obtain ⟨ao2, cap2, rfl, -, -⟩ := t2)
        go_upto_region 6 with (go_at_call 11; rw [HCC.out]; refine (hT _ _ _ _ _ HC).mono ?_; rintro e w3 ⟨k3, v3, rfl, t3⟩; obtain ⟨ao3, cap3, rfl, -, -⟩ := t3)
        go_wp2_with (go_at_call 6; refine (hlv _).mono ?_; rintro e w6 ⟨rfl, b6⟩)
        all_goals first | exact absurd ‹some undef = some (Value.bool _)› (by unfold undef; simp) | skip
        all_goals go_ret
        all_goals exact ⟨rfl, bT (bT (bT k1 k2) k3) b6⟩
      · have g1 : ((e1 : Int) != 0) = true := by simp; omega
        have g2 : ((e1 : Int) == 0) = false := by simp; omega
        clear hc hcc
        go_enter Tryd.func5, Tryd.ntmps5
        go_upto_region 4 with (go_at_call 11; refine (hT _ _ _ _ _ HA).mono ?_; rintro e w1 ⟨k1, v1, rfl, t1⟩; obtain ⟨ao1, cap1, rfl, -, -⟩ := t1)
        go_upto_region 5 with (go_at_call 11; refine (hT _ _ _ _ _ HB).mono ?_; rintro e w2 ⟨k2, v2, rfl, t2⟩; obtain ⟨ao2, cap2, rfl, -, -⟩ := t2)
        go_upto_region 6 with (go_at_call 11; rw [HCC.out]; refine (hT _ _ _ _ _ HC).mono ?_; rintro e w3 ⟨k3, v3, rfl, t3⟩; obtain ⟨ao3, cap3, rfl, -, -⟩ := t3)
        go_wp2_with (go_at_call 6; refine (hlv _).mono ?_; rintro e w6 ⟨rfl, b6⟩)
        all_goals first | exact absurd ‹some undef = some (Value.bool _)› (by unfold undef; simp) | skip
        all_goals go_ret
        all_goals exact ⟨rfl, bT (bT (bT k1 k2) k3) b6⟩
  · by_cases ha : a.size ≤ 2000
    · have g1 : 2000 < (b.size : Int) := by omega
      have g2 : ¬ 2000 < (a.size : Int) := by omega
      go_enter Tryd.func5, Tryd.ntmps5
      go_wp2_with (go_at_call 6; refine (hlv _).mono ?_; rintro e w6 ⟨rfl, b6⟩)
      go_ret
      exact ⟨rfl, b6⟩
    · have g2 : 2000 < (a.size : Int) := by omega
      go_enter Tryd.func5, Tryd.ntmps5
      go_wp2_with (go_at_call 6; refine (hlv _).mono ?_; rintro e w6 ⟨rfl, b6⟩)
      all_goals first | exact absurd ‹some undef = some (Value.bool _)› (by unfold undef; simp) | skip
      all_goals go_ret
      all_goals exact ⟨rfl, b6⟩
end Lx
end Go.Proofs.YtpddkchnogfjkaaDoor
