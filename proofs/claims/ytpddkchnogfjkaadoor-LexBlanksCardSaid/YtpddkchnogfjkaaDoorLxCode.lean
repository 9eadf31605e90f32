/- Layer 13: what the code's Tokens answers. -/
import Derived.Test.YtpddkchnogfjkaaDoorLxFst
import Derived.Test.YtpddkchnogfjkaaDoorLxOwn
namespace Go.Proofs.YtpddkchnogfjkaaDoor
open Go.RowKit
namespace Lx
open _root_.Go.Proofs.YtpddkchnogfjkaaDoor.Nm (bT)
theorem blk_idem : ∀ (b : Bool) (r : List UInt8), blk false (r.drop (blk b r)) = 0
  | true, [] => rfl
  | false, [] => rfl
  | true, c :: t => by
    have ih := blk_idem (c.toNat != 10) t
    simp only [blk]
    rw [Nat.add_comm, List.drop_succ_cons]; exact ih
  | false, c :: t => by
    simp only [blk]
    by_cases h1 : c.toNat = 35
    · have ih := blk_idem true t
      rw [if_pos h1, Nat.add_comm, List.drop_succ_cons]; exact ih
    · rw [if_neg h1]
      by_cases h2 : isB c = true
      · have ih := blk_idem false t
        rw [if_pos h2, Nat.add_comm, List.drop_succ_cons]; exact ih
      · rw [if_neg h2]
        simp only [List.drop_zero, blk]
        rw [if_neg h1, if_neg h2]
theorem lxs_skip (p : Nat) (r : List UInt8) : lxs numN strS p r = lxs numN strS (p + blk false r) (r.drop (blk false r)) := by
  have hb := blk_idem false r
  have e : (r.drop (blk false r)).drop (blk false (r.drop (blk false r))) = r.drop (blk false r) := by rw [hb, List.drop_zero]
  by_cases h0 : r.drop (blk false r) = []
  · rw [lxs_end numN strS p h0, lxs_end numN strS (p + blk false r) (by rw [e]; exact h0), hb, Nat.add_zero]
  · cases ht : tok numN strS (r.drop (blk false r)) with
    | error z => rw [lxs_err numN strS p h0 ht, lxs_err numN strS (p + blk false r) (by rw [e]; exact h0) (by rw [e]; exact ht), hb, Nat.add_zero]
    | ok z =>
      obtain ⟨k, t, m, q⟩ := z
      rw [lxs_ok numN strS p ht, lxs_ok numN strS (p + blk false r) (by rw [e]; exact ht), hb, Nat.add_zero, Nat.zero_add, List.drop_drop]
/-- behind some tokens, at a place that isn't blank: what is left -/
def Rem (q : List UInt8) (l : List Tk) (i : Nat) : Prop :=
  lxs numN strS 0 q = (lxs numN strS i (q.drop i)).map (l ++ ·) ∧ blk false (q.drop i) = 0 ∧ l.length ≤ i ∧ i ≤ q.length
theorem Rem.start (q : List UInt8) : Rem q [] (blk false q) := by
  refine ⟨?_, blk_idem false q, Nat.zero_le _, blk_le false q⟩
  have := lxs_skip 0 q
  rw [Nat.zero_add] at this
  rw [this]
  cases lxs numN strS (blk false q) (q.drop (blk false q)) with
  | error z => rfl
  | ok l => rfl
theorem Rem.fin {q : List UInt8} {l : List Tk} {i : Nat} (h : Rem q l i) (hi : i = q.length) : lxs numN strS 0 q = .ok (l ++ [⟨6, [], 0, 0, i⟩]) := by
  obtain ⟨h1, h2, h3, h4⟩ := h
  rw [h1, lxs_end numN strS i (by rw [List.drop_drop]; exact List.drop_eq_nil_of_le (by omega)), h2]
  rfl
theorem Rem.bad {q : List UInt8} {l : List Tk} {i e : Nat} (h : Rem q l i) (hi : i < q.length) (he : tokL (q.drop i) = .error e) : lxs numN strS 0 q = .error (i, e) := by
  obtain ⟨h1, h2, h3, h4⟩ := h
  have h0 : q.drop i ≠ [] := by intro g; have := congrArg List.length g; rw [List.length_drop] at this; simp at this; omega
  have h5 := lxs_err numN strS i (r := q.drop i) (by rw [h2, List.drop_zero]; exact h0) (by rw [h2, List.drop_zero]; exact he)
  rw [h2, Nat.add_zero] at h5
  rw [h1, h5]; rfl
theorem Rem.next {q : List UInt8} {l : List Tk} {i k : Nat} {t : List UInt8} {n : Int × Int} {m : Nat} (h : Rem q l i) (he : tokL (q.drop i) = .ok (k, t, n, m)) :
    Rem q (l ++ [⟨k, t, n.1, n.2, i⟩]) (i + m + blk false (q.drop (i + m))) ∧ 0 < m ∧ i + m ≤ q.length := by
  obtain ⟨h1, h2, h3, h4⟩ := h
  have hp := tok_pos numN strS he
  rw [List.length_drop] at hp
  have h5 := lxs_ok numN strS i (r := q.drop i) (by rw [h2, List.drop_zero]; exact he)
  rw [h2, Nat.add_zero, Nat.zero_add, List.drop_drop, lxs_skip (i + m), List.drop_drop] at h5
  have h6 := blk_le false (q.drop (i + m))
  rw [List.length_drop] at h6
  refine ⟨⟨?_, ?_, ?_, by omega⟩, hp.1, by omega⟩
  · rw [h1, h5]
    cases lxs numN strS (i + m + blk false (q.drop (i + m))) (q.drop (i + m + blk false (q.drop (i + m)))) with
    | error z => rfl
    | ok x => simp [Except.map]
  · rw [← List.drop_drop]; exact blk_idem false _
  · rw [List.length_append, List.length_singleton]; omega
theorem blanks_c (t : ByteArray) (l : List UInt8) (w : World) (hl : t.data.toList = l) (ht : t.size ≤ 4200) (n : Nat) (hn : blk false l = n) :
    Calls Tryd.prog 15 #[.string t] w fun e w' => e = .returned (.int .i64 (n : Nat)) ∧ Below w.heap.size w w' := by
  have h := blanks_any t w (by omega)
  rw [show blkE false t 0 = n by unfold blkE; rw [List.drop_zero, hl, hn]; omega] at h
  exact h
theorem first_c (q : ByteArray) (i : Nat) (t : ByteArray) (w : World) (hq : q.size ≤ 4200) (hi : i < q.size) (ht : t = q.extract i q.size) :
    Calls Tryd.prog 16 #[.string t] w fun e w' => e = .returned (fstV (tokL (q.data.toList.drop i))) ∧ Below w.heap.size w w' := by
  rw [ht, ← ext_drop]
  exact first_any _ w (by rw [ext_size]; omega) (by rw [ext_size]; omega)
set_option maxRecDepth 100000 in
set_option maxHeartbeats 2000000 in
theorem tokens_any (q : ByteArray) (w : World) (_hs : q.size ≤ maxLen) :
    Calls Tryd.prog 11 #[.string q] w (TokP q w) := by
  by_cases hq : q.size ≤ 4096
  · have e : q.data.toList.length = q.size := by simp
    obtain ⟨b0, hb0⟩ : ∃ b, blk false q.data.toList = b := ⟨_, rfl⟩
    have h1 := fun w => blanks_c q _ w rfl (by omega) b0 hb0
    have HS : Hid (Rem q.data.toList [] b0) := Lib.hid (by rw [← hb0]; exact Rem.start _)
    have hl2 : decide ((4096 : Int) < (q.size : Int)) = false := decide_eq_false (by omega)
    have hl3 : ¬ (4096 : Int) < (q.size : Int) := by omega
    clear hb0
    go_enter Tryd.func11, Tryd.ntmps11
    go_wp2_with (go_at_call 15; refine (h1 _).mono ?_; rintro e w1 ⟨rfl, b1⟩; have HB := Lib.hid b1; clear b1)
    clear h1
    go_loopw [5, 6] (fun ov iv wr => ∃ (i : Nat) (l : List Tk), iv = .int .i64 (i : Nat) ∧ Hid (Own5 w.heap.size wr ov l) ∧ Hid (Below w.heap.size w wr) ∧ Hid (Rem q.data.toList l i)) (fun _ iv _ => q.size - (intOf iv).toNat)
    case atStart => exact ⟨b0, [], rfl, Lib.hid (Own5.nil _ _), HB, HS⟩
    case round =>
      clear HB HS
      obtain ⟨i, l, rfl, HO, HB, HR⟩ := hrel
      obtain ⟨ao, cap, rfl⟩ := HO.out.form
      have hiq : i ≤ q.size := by have := HR.out.2.2.2; omega
      have hli : l.length ≤ i := HR.out.2.2.1
      by_cases hlt : i < q.size
      · have h2 := fun w => first_c q i _ w (by omega) hlt rfl
        cases htk : tokL (q.data.toList.drop i) with
        | error er =>
          have HA : Hid (ansT q = ([], i, er)) := Lib.hid (by
            unfold ansT; rw [if_neg (by omega), HR.out.bad (by omega) htk])
          have he0 := tok_err htk
          have g1 : ((er : Int) == 0) = false := by simp; omega
          have g2 : ((er : Int) != 0) = true := by simp; omega
          rw [htk] at h2
          unfold fstV at h2
          simp only at h2
          clear htk HR HO
          go_wp2_with (go_at_call 16; refine (h2 _).mono ?_; rintro e' wf ⟨rfl, bf⟩; have HBF := Lib.hid (bT HB.out bf); clear bf)
          go_ret3
          unfold TokP
          rw [HA.out]
          exact ⟨HBF.out.alloc HBF.out.size _, _, rfl, Tks.nil0 _ _ _⟩
        | ok z =>
          obtain ⟨k, t, n, m⟩ := z
          obtain ⟨r1, r2, r3⟩ := HR.out.next htk
          have HN := Lib.hid r1
          rw [htk] at h2
          unfold fstV at h2
          simp only at h2
          clear htk HR r1
          go_upto_region 10 with (go_at_call 16; refine (h2 _).mono ?_; rintro e' wf ⟨rfl, bf⟩; have HBF := Lib.hid bf; clear bf)
          have hd : ∃ d, blk false (q.data.toList.drop (i + m)) = d := ⟨_, rfl⟩
          obtain ⟨d, hd⟩ := hd
          rw [hd] at HN
          have h3 := fun w => blanks_c (q.extract (i + m) q.size) _ w (ext_drop q (i + m)) (by rw [ext_size]; omega) d hd
          have him : (i : Int) + m ≤ q.size := by omega
          have HU := Lib.hid (Ub.new wf #[.int .i64 (k : Nat), .string ⟨t.toArray⟩, .int .i64 n.1, .int .i64 n.2, .int .i64 (i : Nat)])
          have HB5 := Lib.hid ((bT HB.out HBF.out).alloc (Nat.le_trans HB.out.size HBF.out.size) (.cells #[.int .i64 (k : Nat), .string ⟨t.toArray⟩, .int .i64 n.1, .int .i64 n.2, .int .i64 (i : Nat)] 34))
          have HO5 := Lib.hid ((HO.out.on HBF.out).on ((Below.refl _ _).alloc (Nat.le_refl _) (.cells #[.int .i64 (k : Nat), .string ⟨t.toArray⟩, .int .i64 n.1, .int .i64 n.2, .int .i64 (i : Nat)] 34)))
          clear HO HB HBF
          generalize wf.alloc (.cells #[.int .i64 (k : Nat), .string ⟨t.toArray⟩, .int .i64 n.1, .int .i64 n.2, .int .i64 (i : Nat)] 34) = w5 at HU HB5 HO5 ⊢
          obtain ⟨z0, z1, z2, z3, z4⟩ := HU.out.five
          have hll : l.length ≤ 1000000000 := by omega
          go_wp2_with (first | (at_builtin; refine wpList_app5 rfl _ _ rfl w.heap.size w5.heap.size (.slice ao l.length cap) l ⟨k, t, n.1, n.2, i⟩ rfl rfl (HO5.out.on ((Below.refl _ _).alloc (Nat.le_refl _) _)) (heap_alloc_new w5 _) hll (by have := HB5.out.size; simp; omega) ?_; intro v6 w6 ho6 hb6; have HO6 := Lib.hid ho6; have HB6 := Lib.hid ((HB5.out.alloc HB5.out.size _).trans hb6); clear ho6 hb6) | (go_at_call 15; refine (h3 _).mono ?_; rintro e' w7 ⟨rfl, b7⟩))
          have hdd : i + m + d ≤ q.size := by have := HN.out.2.2.2; omega
          have hw : wrap64 ((i : Int) + m + d) = ((i + m + d : Nat) : Int) := by unfold wrap64; omega
          rw [hw]
          go_roundw
          case rel => exact ⟨i + m + d, l ++ [⟨k, t, n.1, n.2, i⟩], rfl, Lib.hid (HO6.out.on b7), Lib.hid (bT HB6.out b7), HN⟩
          case measure => simp [intOf]; omega
      · have hie : i = q.size := by omega
        have HA : Hid (ansT q = (l ++ [⟨6, [], 0, 0, i⟩], 0, 0)) := Lib.hid (by
          unfold ansT; rw [if_neg (by omega), HR.out.fin (by omega)])
        have hll : l.length ≤ 1000000000 := by omega
        clear HR hie
        go_wp2_with (at_builtin; refine wpList_app5 rfl _ _ rfl w.heap.size wr.heap.size (.slice ao l.length cap) l ⟨6, [], 0, 0, i⟩ rfl rfl (HO.out.on ((Below.refl _ _).alloc (Nat.le_refl _) _)) (heap_alloc_new wr _) hll (by have := HB.out.size; simp; omega) ?_; intro v6 w6 ho6 hb6; have HO6 := Lib.hid ho6; have HB6 := Lib.hid ((HB.out.alloc HB.out.size _).trans hb6); clear ho6 hb6)
        go_ret3
        unfold TokP
        rw [HA.out]
        exact ⟨HB6.out, _, rfl, HO6.out.tks⟩
  · have hA : ansT q = ([], 0, 5) := by unfold ansT; rw [if_pos (by omega)]
    have hl2 : (4096 : Int) < (q.size : Int) := by omega
    unfold TokP
    rw [hA]
    go_enter Tryd.func11, Tryd.ntmps11
    go_wp2
    go_ret3
    exact ⟨Below.refl _ _, _, rfl, Tks.nil0 _ _ _⟩
end Lx
end Go.Proofs.YtpddkchnogfjkaaDoor
