/- Rows of digits: less, above. -/
import Derived.Test.YtkmfoclhhnhkdaaNrSum
namespace Go.Proofs.Ytkmfoclhhnhkdaa
open Go.RowKit
namespace Nm
theorem Ls.sub {a b out : List Nat} {i o x y : Nat} (h : Ls a b out i o) (ha : Dg a) (hb : Dg b) (hx : dat a i = x) (hy : dat b i = y) (g : o + y ≤ x) : Ls a b (out ++ [x - o - y]) (i + 1) 0 := by
  subst hx; subst hy; exact (h.step ha hb).1 g
theorem Ls.owe {a b out : List Nat} {i o x y : Nat} (h : Ls a b out i o) (ha : Dg a) (hb : Dg b) (hx : dat a i = x) (hy : dat b i = y) (g : x < o + y) : Ls a b (out ++ [x + 10 - o - y]) (i + 1) 1 := by
  subst hx; subst hy; exact (h.step ha hb).2 g
set_option maxRecDepth 100000 in
set_option maxHeartbeats 4000000 in
theorem less_any (va vb : Value) (a b : List Nat) (w : World) (hra : Rw w va a) (hrb : Rw w vb b) (hda : Dg a) (hdb : Dg b) (hla : a.length ≤ 1000000000) (hba : b.length ≤ a.length) (hle : dv b ≤ dv a) :
    Calls Try.prog 96 #[va, vb] w (RowIs (fun l => Dg l ∧ dv l = dv a - dv b ∧ l.length = a.length) w) := by
  obtain ⟨i0, hi, hz0, hz1, hz2⟩ := info_parts info_i
  obtain ⟨ao, ac, rfl, hac, hA⟩ := hra.form
  obtain ⟨bo, bc, rfl, hbc, hB⟩ := hrb.form
  have HA := Lib.hid hA
  have HB := Lib.hid hB
  have DA := Lib.hid hda
  have DB := Lib.hid hdb
  have HLE := Lib.hid hle
  clear hA hB hda hdb hra hrb hle
  go_enter Try.func96, Try.ntmps96
  go_wp2
  go_loopw [5, 6, 7] (fun v cr i wr => ∃ (k o : Nat) (out : List Nat), i = .int .i64 (k : Nat) ∧ cr = .int .i64 (o : Nat) ∧ Hid (Ls a b out k o) ∧ o ≤ 1 ∧ k ≤ a.length ∧ Hid (Ow w.heap.size wr v out) ∧ Hid (Below w.heap.size w wr)) (fun _ _ i _ => a.length - (intOf i).toNat)
  case atStart => exact ⟨0, 0, [], rfl, rfl, Lib.hid (Ls.zero a b), by omega, by omega, Lib.hid (World.ownsRow_nil _ _ _ _), Lib.hid (Below.refl _ _)⟩
  case round =>
    obtain ⟨k, o, out, rfl, rfl, HS, ho1, hk1, HO, HBel⟩ := hrel
    by_cases ha : k < a.length
    · obtain ⟨x, hx⟩ : ∃ x, a[k]? = some x := ⟨a[k], List.getElem?_eq_getElem ha⟩
      obtain ⟨ga, oa, rfl, hga, hcla⟩ := HA.out (by omega)
      have hca : wr.cell? ⟨ga, oa + k, none⟩ = some (.int .i64 (x : Nat)) := (HBel.out.cell (p := ⟨ga, oa + k, none⟩) hga).trans (hcla k x hx)
      have hx10 := DA.out x (List.mem_of_getElem? hx)
      have HX : Hid (dat a k = x) := Lib.hid (dat_is hx)
      clear hcla hx
      by_cases hb : k < b.length
      · obtain ⟨y, hy⟩ : ∃ y, b[k]? = some y := ⟨b[k], List.getElem?_eq_getElem hb⟩
        obtain ⟨gb, ob, rfl, hgb, hclb⟩ := HB.out (by omega)
        have hcb : wr.cell? ⟨gb, ob + k, none⟩ = some (.int .i64 (y : Nat)) := (HBel.out.cell (p := ⟨gb, ob + k, none⟩) hgb).trans (hclb k y hy)
        have hy10 := DB.out y (List.mem_of_getElem? hy)
        have HY : Hid (dat b k = y) := Lib.hid (dat_is hy)
        clear hclb hy
        by_cases hge : o + y ≤ x
        · have h0 : ¬ ((x : Int) - (o : Int) - (y : Int) < 0) := by omega
          have HS' : Hid (Ls a b (out ++ [x - o - y]) (k + 1) 0) := Lib.hid (HS.out.sub DA.out DB.out HX.out HY.out (by omega))
          have hkk : out.length ≤ k := Nat.le_of_eq HS.out.2.1
          clear HX HY HS
          go_wp2_with (at_builtin; refine wpList_append_own _ rfl _ _ 48 rfl w.heap.size 3 i0 (.int .i64 0) 1 8 Try.underlying48 hi hz0 hz1 hz2 rfl (by decide) _ _ _ rfl (HO.out.alloc _) ⟨wr.heap.size, 0, none⟩ 1 1 [.int .i64 ((x : Int) - (o : Int) - (y : Int))] rfl rfl (cells_new _ _ _) (one_int _) ?c3Y0 ?c4Y0 ?c5Y0 ?c6Y0)
          case c3Y0 => unfold maxLen; omega
          case c4Y0 => omega
          case c5Y0 => have := HBel.out.size; simp; omega
          case c6Y0 =>
            intro v' w1 hown' hgrow _
            have HO' : Hid (Ow w.heap.size w1 v' (out ++ [x - o - y])) := Lib.hid (Ow.push (by omega) hown')
            have HB' : Hid (Below w.heap.size w w1) := Lib.hid (HO.out.bel (Nat.le_refl _) HBel.out (Nat.le_refl _) hgrow)
            clear hown' hgrow HO HBel
            go_wp2
            go_roundw
            case rel => exact ⟨k + 1, 0, out ++ [x - o - y], by go_num, rfl, HS', by omega, by omega, HO', HB'⟩
            case measure => simp [intOf]; omega
        · have h0 : (x : Int) - (o : Int) - (y : Int) < 0 := by omega
          have HS' : Hid (Ls a b (out ++ [x + 10 - o - y]) (k + 1) 1) := Lib.hid (HS.out.owe DA.out DB.out HX.out HY.out (by omega))
          have hkk : out.length ≤ k := Nat.le_of_eq HS.out.2.1
          clear HX HY HS
          go_wp2_with (at_builtin; refine wpList_append_own _ rfl _ _ 48 rfl w.heap.size 3 i0 (.int .i64 0) 1 8 Try.underlying48 hi hz0 hz1 hz2 rfl (by decide) _ _ _ rfl (HO.out.alloc _) ⟨wr.heap.size, 0, none⟩ 1 1 [.int .i64 ((x : Int) - (o : Int) - (y : Int) + 10)] rfl rfl (cells_new _ _ _) (one_int _) ?c3Y1 ?c4Y1 ?c5Y1 ?c6Y1)
          case c3Y1 => unfold maxLen; omega
          case c4Y1 => omega
          case c5Y1 => have := HBel.out.size; simp; omega
          case c6Y1 =>
            intro v' w1 hown' hgrow _
            have HO' : Hid (Ow w.heap.size w1 v' (out ++ [x + 10 - o - y])) := Lib.hid (Ow.push (by omega) hown')
            have HB' : Hid (Below w.heap.size w w1) := Lib.hid (HO.out.bel (Nat.le_refl _) HBel.out (Nat.le_refl _) hgrow)
            clear hown' hgrow HO HBel
            go_wp2
            go_roundw
            case rel => exact ⟨k + 1, 1, out ++ [x + 10 - o - y], by go_num, rfl, HS', by omega, by omega, HO', HB'⟩
            case measure => simp [intOf]; omega
      · have HY : Hid (dat b k = 0) := Lib.hid (dat_no hb)
        by_cases hge : o ≤ x
        · have h0 : ¬ ((x : Int) - (o : Int) < 0) := by omega
          have HS' : Hid (Ls a b (out ++ [x - o - 0]) (k + 1) 0) := Lib.hid (HS.out.sub DA.out DB.out HX.out HY.out (by omega))
          have hkk : out.length ≤ k := Nat.le_of_eq HS.out.2.1
          clear HX HY HS
          go_wp2_with (at_builtin; refine wpList_append_own _ rfl _ _ 48 rfl w.heap.size 3 i0 (.int .i64 0) 1 8 Try.underlying48 hi hz0 hz1 hz2 rfl (by decide) _ _ _ rfl (HO.out.alloc _) ⟨wr.heap.size, 0, none⟩ 1 1 [.int .i64 ((x : Int) - (o : Int))] rfl rfl (cells_new _ _ _) (one_int _) ?c3N0 ?c4N0 ?c5N0 ?c6N0)
          case c3N0 => unfold maxLen; omega
          case c4N0 => omega
          case c5N0 => have := HBel.out.size; simp; omega
          case c6N0 =>
            intro v' w1 hown' hgrow _
            have HO' : Hid (Ow w.heap.size w1 v' (out ++ [x - o - 0])) := Lib.hid (Ow.push (by omega) hown')
            have HB' : Hid (Below w.heap.size w w1) := Lib.hid (HO.out.bel (Nat.le_refl _) HBel.out (Nat.le_refl _) hgrow)
            clear hown' hgrow HO HBel
            go_wp2
            go_roundw
            case rel => exact ⟨k + 1, 0, out ++ [x - o - 0], by go_num, rfl, HS', by omega, by omega, HO', HB'⟩
            case measure => simp [intOf]; omega
        · have h0 : (x : Int) - (o : Int) < 0 := by omega
          have HS' : Hid (Ls a b (out ++ [x + 10 - o - 0]) (k + 1) 1) := Lib.hid (HS.out.owe DA.out DB.out HX.out HY.out (by omega))
          have hkk : out.length ≤ k := Nat.le_of_eq HS.out.2.1
          clear HX HY HS
          go_wp2_with (at_builtin; refine wpList_append_own _ rfl _ _ 48 rfl w.heap.size 3 i0 (.int .i64 0) 1 8 Try.underlying48 hi hz0 hz1 hz2 rfl (by decide) _ _ _ rfl (HO.out.alloc _) ⟨wr.heap.size, 0, none⟩ 1 1 [.int .i64 ((x : Int) - (o : Int) + 10)] rfl rfl (cells_new _ _ _) (one_int _) ?c3N1 ?c4N1 ?c5N1 ?c6N1)
          case c3N1 => unfold maxLen; omega
          case c4N1 => omega
          case c5N1 => have := HBel.out.size; simp; omega
          case c6N1 =>
            intro v' w1 hown' hgrow _
            have HO' : Hid (Ow w.heap.size w1 v' (out ++ [x + 10 - o - 0])) := Lib.hid (Ow.push (by omega) hown')
            have HB' : Hid (Below w.heap.size w w1) := Lib.hid (HO.out.bel (Nat.le_refl _) HBel.out (Nat.le_refl _) hgrow)
            clear hown' hgrow HO HBel
            go_wp2
            go_roundw
            case rel => exact ⟨k + 1, 1, out ++ [x + 10 - o - 0], by go_num, rfl, HS', by omega, by omega, HO', HB'⟩
            case measure => simp [intOf]; omega
    · obtain rfl : k = a.length := by omega
      have HF := Lib.hid (HS.out.fin HLE.out hba)
      have HL : Hid (out.length = a.length) := Lib.hid HS.out.2.1
      clear HS
      go_wp2
      go_ret
      exact ⟨_, out, rfl, ⟨HF.out.1, HF.out.2, HL.out⟩, Rw.of_own HO.out, HBel.out⟩
theorem above_len {x y : Nat} (h : (dgs x).length ≠ (dgs y).length) : decide ((dgs y).length < (dgs x).length) = decide (y ≤ x) := by
  by_cases g : (dgs y).length < (dgs x).length
  · have := dgs_longer g
    rw [decide_eq_true g, decide_eq_true (by omega)]
  · have := dgs_longer (a := y) (b := x) (by omega)
    rw [decide_eq_false g, decide_eq_false (by omega)]
theorem split_at {l : List Nat} {m d : Nat} (h : l[m]? = some d) : l = l.take m ++ d :: l.drop (m + 1) ∧ (l.take m).length = m := by
  obtain ⟨h1, h2⟩ := List.getElem?_eq_some_iff.1 h
  refine ⟨?_, by rw [List.length_take]; omega⟩
  conv => lhs; rw [← List.take_append_drop m l, List.drop_eq_getElem_cons h1, h2]
theorem above_top {x y m p q : Nat} (hp : (dgs x)[m]? = some p) (hq : (dgs y)[m]? = some q) (he : (dgs x).drop (m + 1) = (dgs y).drop (m + 1)) (hne : p ≠ q) : decide (q < p) = decide (y ≤ x) := by
  obtain ⟨a1, a2⟩ := split_at hp
  obtain ⟨b1, b2⟩ := split_at hq
  rw [he] at a1
  have e1 := dv_dgs x
  have e2 := dv_dgs y
  rw [a1] at e1
  rw [b1] at e2
  have la : ((dgs x).take m).length = ((dgs y).take m).length := by rw [a2, b2]
  by_cases g : q < p
  · have := dv_top (h := (dgs y).drop (m + 1)) la.symm ((Dg_dgs y).take m) g
    rw [decide_eq_true g, decide_eq_true (by omega)]
  · have := dv_top (h := (dgs y).drop (m + 1)) la ((Dg_dgs x).take m) (show p < q by omega)
    rw [decide_eq_false g, decide_eq_false (by omega)]
theorem drop_same {a b : List Nat} {m p : Nat} (hp : a[m]? = some p) (hq : b[m]? = some p) (he : a.drop (m + 1) = b.drop (m + 1)) : a.drop m = b.drop m := by
  obtain ⟨h1, h2⟩ := List.getElem?_eq_some_iff.1 hp
  obtain ⟨h3, h4⟩ := List.getElem?_eq_some_iff.1 hq
  rw [List.drop_eq_getElem_cons h1, List.drop_eq_getElem_cons h3, h2, h4, he]
set_option maxRecDepth 100000 in
set_option maxHeartbeats 4000000 in
theorem above_any (va vb : Value) (x y : Nat) (w : World) (hra : Rw w va (dgs x)) (hrb : Rw w vb (dgs y)) (hla : (dgs x).length ≤ 1000000000) (_hlb : (dgs y).length ≤ 1000000000) :
    Calls Try.prog 95 #[va, vb] w fun e w' => e = .returned (.bool (decide (y ≤ x))) ∧ ∃ n, w' = w.drewN n := by
  obtain ⟨ao, ac, rfl, hac, hA⟩ := hra.form
  obtain ⟨bo, bc, rfl, hbc, hB⟩ := hrb.form
  have LEN := Lib.hid (above_len (x := x) (y := y))
  obtain ⟨a, ha⟩ : ∃ a, dgs x = a := ⟨_, rfl⟩
  obtain ⟨b, hb⟩ : ∃ b, dgs y = b := ⟨_, rfl⟩
  rw [ha] at hac hA hla LEN ⊢
  rw [hb] at hbc hB _hlb LEN ⊢
  have HA := Lib.hid hA
  have HB := Lib.hid hB
  have EA := Lib.hid ha
  have EB := Lib.hid hb
  obtain ⟨r, hr⟩ : ∃ r, decide (y ≤ x) = r := ⟨_, rfl⟩
  rw [hr] at LEN ⊢
  have HR := Lib.hid hr
  clear hA hB ha hb hra hrb hr
  by_cases hl : a.length = b.length
  case neg =>
    have L := Lib.hid (LEN.out hl)
    have hl' : ((a.length : Int) != (b.length : Int)) = true := by simp; omega
    clear LEN EA EB HR
    go_enter Try.func95, Try.ntmps95
    go_wp2
    go_ret
    exact ⟨ret_bool (by rw [← L.out]), 0, rfl⟩
  have HL := Lib.hid hl
  have hl1 : a.length ≤ b.length := by omega
  have hl2 : b.length ≤ a.length := by omega
  have hl' : ((a.length : Int) != (b.length : Int)) = false := by simp; omega
  clear hl LEN
  go_enter Try.func95, Try.ntmps95
  go_wp2
  go_loopw [5] (fun i wr => ∃ (k n : Nat), i = .int .i64 ((k : Int) - 1) ∧ k ≤ a.length ∧ Hid (a.drop k = b.drop k) ∧ wr = w.drewN n) (fun i _ => (intOf i + 1).toNat)
  case atStart => exact ⟨a.length, 0, rfl, Nat.le_refl _, Lib.hid (by rw [List.drop_eq_nil_of_le (Nat.le_refl _), List.drop_eq_nil_of_le hl2]), rfl⟩
  case round =>
    obtain ⟨k, n, rfl, hk, HD, rfl⟩ := hrel
    by_cases k0 : k = 0
    · subst k0
      have H1 : Hid (true = r) := Lib.hid (by
        have e : a = b := HD.out
        have e1 := dv_dgs x
        have e2 := dv_dgs y
        rw [EA.out, e] at e1
        rw [EB.out] at e2
        rw [← HR.out, decide_eq_true (by omega)])
      clear EA EB HR HD
      go_wp2
      go_ret
      exact ⟨ret_bool H1.out, n, rfl⟩
    · obtain ⟨m, rfl⟩ : ∃ m, k = m + 1 := ⟨k - 1, by omega⟩
      obtain ⟨p, hp⟩ : ∃ p, a[m]? = some p := ⟨a[m], List.getElem?_eq_getElem (by omega)⟩
      obtain ⟨q, hq⟩ : ∃ q, b[m]? = some q := ⟨b[m], List.getElem?_eq_getElem (by omega)⟩
      obtain ⟨ga, oa, rfl, hga, hcla⟩ := HA.out (by omega)
      obtain ⟨gb, ob, rfl, hgb, hclb⟩ := HB.out (by omega)
      have hca : w.cell? ⟨ga, oa + m, none⟩ = some (.int .i64 (p : Nat)) := hcla m p hp
      have hcb : w.cell? ⟨gb, ob + m, none⟩ = some (.int .i64 (q : Nat)) := hclb m q hq
      have HP := Lib.hid hp
      have HQ := Lib.hid hq
      clear hp hq hcla hclb
      have hm1 : m < a.length := by omega
      have hm2 : m < b.length := by omega
      have em : ((m + 1 : Nat) : Int) - 1 = (m : Int) := by omega
      rw [em]
      clear em
      by_cases hpq : p = q
      · subst hpq
        have HD' : Hid (a.drop m = b.drop m) := Lib.hid (drop_same HP.out HQ.out HD.out)
        clear HD HP HQ EA EB HR
        go_wp2
        go_quiet (fail)
        go_wp2
        go_roundw
        case rel => exact ⟨m, n + nq, by go_num, by omega, HD', by simp⟩
        case measure => simp [intOf]
      · have H1 : Hid (decide (q < p) = r) := Lib.hid (by
          rw [← HR.out]
          exact above_top (m := m) (by rw [EA.out]; exact HP.out) (by rw [EB.out]; exact HQ.out) (by rw [EA.out, EB.out]; exact HD.out) hpq)
        have hpq' : ((p : Int) != (q : Int)) = true := by simp; omega
        clear EA EB HR HD HP HQ
        go_wp2
        go_quiet (fail)
        go_wp2
        go_quiet (fail)
        go_wp2
        go_ret
        exact ⟨ret_bool (by rw [← H1.out]), _, by rw [World.drewN_drewN, World.drewN_drewN]⟩
end Nm
end Go.Proofs.Ytkmfoclhhnhkdaa
