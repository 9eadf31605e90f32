/- The document's Parse. -/
import Derived.Test.YtpddkchnogfjkaaGreatDoorNrParseMath
import Derived.Test.YtpddkchnogfjkaaGreatDoorNrNeg
import Derived.Deep.AppendLies
import Derived.Deep.RegionLaw
import Derived.Deep.DeepCutAuto
namespace Go.Proofs.YtpddkchnogfjkaaGreatDoor
open Go.RowKit
namespace Nm
/-- is there a digit at i? -/
def dgAt (L : List UInt8) (i : Nat) : Bool := (L[i]?.map isD).getD false
def chAt (L : List UInt8) (i : Nat) (c : UInt8) : Bool := L[i]? == some c
theorem dgAt_no {L : List UInt8} {i : Nat} (h : ¬ i < L.length) : dgAt L i = false := by unfold dgAt; rw [List.getElem?_eq_none (by omega)]; rfl
theorem chAt_no {L : List UInt8} {i : Nat} (c : UInt8) (h : ¬ i < L.length) : chAt L i c = false := by unfold chAt; rw [List.getElem?_eq_none (by omega)]; rfl
theorem dgAt_is (s : ByteArray) (i : Nat) (h : i < s.size) : dgAt s.data.toList i = decide (48 ≤ s[i].toNat ∧ s[i].toNat ≤ 57) := by
  unfold dgAt; rw [get_at s i h]; rfl
theorem chAt_is (s : ByteArray) (i : Nat) (c : UInt8) (n : Nat) (hn : c.toNat = n) (h : i < s.size) : chAt s.data.toList i c = decide (s[i].toNat = n) := by
  subst hn
  unfold chAt
  rw [get_at s i h, Bool.eq_iff_iff, beq_iff_eq, decide_eq_true_iff, Option.some_inj]
  exact ⟨fun g => by rw [g], fun g => UInt8.toNat_inj.1 g⟩
/-- digits as numbers -/
def digs (l : List UInt8) : List Nat := l.map fun b => b.toNat - 48
theorem digs_snoc (l : List UInt8) (b : UInt8) : digs (l ++ [b]) = digs l ++ [b.toNat - 48] := by unfold digs; simp
theorem digs_len (l : List UInt8) : (digs l).length = l.length := by unfold digs; simp
/-- what stands in memory as Parse goes on -/
structure Pm (w wr : World) (b : Bool) : Prop where
  x : Bx wr w.heap.size (.int .i64 0) (.int .i64 0)
  l : Lb wr (w.heap.size + 1) (.bool b) (.slice none 0 0)
  bel : Below w.heap.size w wr
theorem Pm.alloc {w wr : World} {b : Bool} (h : Pm w wr b) (o : Obj) : Pm w (wr.alloc o) b := ⟨h.x.alloc o, h.l.alloc o, h.bel.alloc h.bel.size o⟩
theorem Bx.grown {a b : World} {k B : Nat} {x y v : Value} {l : List Nat} (h : Bx a k x y) (ho : Ow B a v l) (hk : k < B) (hg : a.grownBy b v.ownBlock) (hB : B ≤ a.heap.size) : Bx b k x y := by
  have hb : Below B a b := (Below.refl B a).grown hg hB (fun q hq => (World.ownsRow.lt ho q hq).1)
  exact ⟨(hb.cell (p := ⟨k, 0, none⟩) hk).trans h.1, (hb.cell (p := ⟨k, 1, none⟩) hk).trans h.2.1, (hb.frozen (p := ⟨k, 0, none⟩) hk).trans h.2.2.1, (hb.frozen (p := ⟨k, 1, none⟩) hk).trans h.2.2.2⟩
/-- a row of the call's own above its boxes -/
theorem Pm.grown {w a b : World} {q : Bool} {v : Value} {l : List Nat} {o : Obj} (h : Pm w a q) (ho : Ow (w.heap.size + 2) a v l) (hs : w.heap.size + 2 ≤ a.heap.size) (hg : (a.alloc o).grownBy b v.ownBlock) : Pm w b q := by
  have h2 := h.alloc o
  have ho2 : Ow (w.heap.size + 2) (a.alloc o) v l := ho.alloc o
  have hB : w.heap.size + 2 ≤ (a.alloc o).heap.size := by simp; omega
  refine ⟨h2.x.grown ho2 (by omega) hg hB, h2.l.grown ho2 hg, ?_⟩
  exact h2.bel.grown hg h2.bel.size (fun p hp => by have := (World.ownsRow.lt ho2 p hp).1; omega)
theorem ErrF {L : List UInt8} (h : (spl L).2 = false) : refP L = .tuple #[nv 0 0, .int .i64 3] := by unfold refP; rw [if_pos h]
theorem head_at {L R A : List UInt8} {i0 : Nat} (hA : R.takeWhile isD = A) (hR : L.drop i0 = R) (hne : A ≠ []) : A.head? = some 48 ↔ chAt L i0 48 = true := by
  unfold chAt
  have e : L[i0]? = R.head? := by rw [← hR, List.head?_drop]
  rw [e, beq_iff_eq]
  cases R with
  | nil => simp at hA; exact absurd hA hne
  | cons c t =>
    by_cases h : isD c = true
    · rw [List.takeWhile_cons_of_pos h] at hA
      rw [← hA]; simp
    · rw [List.takeWhile_cons_of_neg h] at hA
      exact absurd hA.symm hne
theorem bxN (a : World) (x y : Value) (t : TypeId) : Bx (a.alloc (.cells #[x, y] t)) a.heap.size x y := ⟨by simp [go_sem], by simp [go_sem], by simp [go_sem], by simp [go_sem]⟩
theorem sign_at {L : List UInt8} {b : Bool} {i0 : Nat} (hb : chAt L 0 45 = b) (hi : i0 = if b then 1 else 0) : Lib.trimPrefix L [45] = L.drop i0 ∧ Lib.hasPrefix L [45] = b := by
  cases L with
  | nil =>
    obtain rfl : b = false := hb.symm
    subst hi
    exact ⟨trim_no (pre_nil 45), pre_nil 45⟩
  | cons c t =>
    by_cases h : c = 45
    · subst h
      obtain rfl : b = true := by rw [← hb]; rfl
      subst hi
      exact ⟨trim_yes, by rw [pre_cons]; rfl⟩
    · have hp : Lib.hasPrefix (c :: t) [45] = false := by rw [pre_cons]; simpa using fun g => h g.symm
      obtain rfl : b = false := by
        rw [← hb]; unfold chAt
        simpa using h
      subst hi
      exact ⟨trim_no hp, hp⟩
theorem sign_at46 {L : List UInt8} {b : Bool} {i0 : Nat} (hb : chAt L 0 46 = b) (hi : i0 = if b then 1 else 0) : Lib.trimPrefix L [46] = L.drop i0 ∧ Lib.hasPrefix L [46] = b := by
  cases L with
  | nil =>
    obtain rfl : b = false := hb.symm
    subst hi
    exact ⟨trim_no (pre_nil 46), pre_nil 46⟩
  | cons c t =>
    by_cases h : c = 46
    · subst h
      obtain rfl : b = true := by rw [← hb]; rfl
      subst hi
      exact ⟨trim_yes, by rw [pre_cons]; rfl⟩
    · have hp : Lib.hasPrefix (c :: t) [46] = false := by rw [pre_cons]; simpa using fun g => h g.symm
      obtain rfl : b = false := by
        rw [← hb]; unfold chAt
        simpa using h
      subst hi
      exact ⟨trim_no hp, hp⟩
theorem get_chAt {L : List UInt8} {i : Nat} {c : UInt8} (h : chAt L i c = true) : L[i]? = some c := by unfold chAt at h; exact beq_iff_eq.1 h
theorem chAt_of {L : List UInt8} {i : Nat} {c : UInt8} (h : L[i]? = some c) (d : UInt8) : chAt L i d = decide (c = d) := by
  unfold chAt
  rw [h, Bool.eq_iff_iff, beq_iff_eq, decide_eq_true_iff, Option.some_inj]
theorem drop_at {L : List UInt8} {i : Nat} {c : UInt8} (h : L[i]? = some c) : L.drop i = c :: L.drop (i + 1) := by
  obtain ⟨h1, rfl⟩ := List.getElem?_eq_some_iff.1 h
  exact List.drop_eq_getElem_cons h1
theorem splE_no {b : Bool} {A Fr R2 L : List UInt8} {i : Nat} (hR : L.drop i = R2) (h : (chAt L i 101 || chAt L i 69) = false) : splE b A Fr R2 = ((b, false, A, Fr, []), R2.isEmpty) := by
  cases R2 with
  | nil => rfl
  | cons c t =>
    have hc : L[i]? = some c := by rw [← List.head?_drop, hR]; rfl
    rw [chAt_of hc, chAt_of hc, Bool.or_eq_false_iff] at h
    show (if c = 101 ∨ c = 69 then (if (sgn t).2.takeWhile isD = [] then (zW, false) else ((b, (sgn t).1, A, Fr, (sgn t).2.takeWhile isD), ((sgn t).2.dropWhile isD).isEmpty)) else ((b, false, A, Fr, []), false)) = _
    rw [if_neg (fun g => Or.elim g (of_decide_eq_false h.1) (of_decide_eq_false h.2))]
    rfl
theorem splE_e {b : Bool} {A Fr R2 L : List UInt8} {i : Nat} (hR : L.drop i = R2) (h : (chAt L i 101 || chAt L i 69) = true) : i < L.length ∧ splE b A Fr R2 = if (sgn (L.drop (i + 1))).2.takeWhile isD = [] then (zW, false) else ((b, (sgn (L.drop (i + 1))).1, A, Fr, (sgn (L.drop (i + 1))).2.takeWhile isD), ((sgn (L.drop (i + 1))).2.dropWhile isD).isEmpty) := by
  rw [Bool.or_eq_true] at h
  have hx : ∃ c, L[i]? = some c ∧ (c = 101 ∨ c = 69) := by
    rcases h with h | h
    · exact ⟨_, get_chAt h, Or.inl rfl⟩
    · exact ⟨_, get_chAt h, Or.inr rfl⟩
  obtain ⟨c, hc, hcc⟩ := hx
  refine ⟨(List.getElem?_eq_some_iff.1 hc).1, ?_⟩
  rw [← hR, drop_at hc]
  obtain ⟨t, ht⟩ : ∃ t, L.drop (i + 1) = t := ⟨_, rfl⟩
  rw [ht]
  show (if c = 101 ∨ c = 69 then (if (sgn t).2.takeWhile isD = [] then (zW, false) else ((b, (sgn t).1, A, Fr, (sgn t).2.takeWhile isD), ((sgn t).2.dropWhile isD).isEmpty)) else ((b, false, A, Fr, []), false)) = _
  rw [if_pos hcc]
theorem sgn_no {L : List UInt8} {i : Nat} (h : (chAt L i 43 || chAt L i 45) = false) : sgn (L.drop i) = (false, L.drop i) := by
  cases hR : L.drop i with
  | nil => rfl
  | cons c t =>
    have hc : L[i]? = some c := by rw [← List.head?_drop, hR]; rfl
    rw [chAt_of hc, chAt_of hc, Bool.or_eq_false_iff] at h
    show (if c = 45 then (true, t) else if c = 43 then (false, t) else (false, c :: t)) = _
    rw [if_neg (of_decide_eq_false h.2), if_neg (of_decide_eq_false h.1)]
theorem sgn_43 {L : List UInt8} {i : Nat} (h : chAt L i 43 = true) : sgn (L.drop i) = (false, L.drop (i + 1)) := by
  rw [drop_at (get_chAt h)]; rfl
theorem sgn_45 {L : List UInt8} {i : Nat} (h : chAt L i 45 = true) : sgn (L.drop i) = (true, L.drop (i + 1)) := by
  rw [drop_at (get_chAt h)]; rfl
/-- the box of the answer, and what was there before -/
structure Px (w wr : World) : Prop where
  x : Bx wr w.heap.size (.int .i64 0) (.int .i64 0)
  bel : Below w.heap.size w wr
theorem Bx.blw {a b : World} {k B : Nat} {x y : Value} (h : Bx a k x y) (hb : Below B a b) (hk : k < B) : Bx b k x y :=
  ⟨(hb.cell (p := ⟨k, 0, none⟩) hk).trans h.1, (hb.cell (p := ⟨k, 1, none⟩) hk).trans h.2.1, (hb.frozen (p := ⟨k, 0, none⟩) hk).trans h.2.2.1, (hb.frozen (p := ⟨k, 1, none⟩) hk).trans h.2.2.2⟩
theorem dv_digs (l : List UInt8) : dv (digs l).reverse = vl l := by
  obtain ⟨r, rfl⟩ : ∃ r, l = r.reverse := ⟨l.reverse, by simp⟩
  induction r with
  | nil => rfl
  | cons c t ih =>
    rw [List.reverse_cons, digs_snoc, List.reverse_append]
    show dv ((c.toNat - 48) :: (digs t.reverse).reverse) = _
    show (c.toNat - 48) + 10 * dv (digs t.reverse).reverse = _
    rw [ih]
    unfold vl
    rw [List.foldl_append]
    show _ = List.foldl _ 0 t.reverse * 10 + (c.toNat - 48)
    omega
theorem Dg_digs {l : List UInt8} (h : ∀ c ∈ l, isD c = true) : Dg (digs l).reverse := by
  intro d hd
  rw [List.mem_reverse] at hd
  unfold digs at hd
  obtain ⟨c, hc, rfl⟩ := List.mem_map.1 hd
  have := of_decide_eq_true (h c hc)
  omega
set_option maxRecDepth 100000 in
set_option maxHeartbeats 64000000 in
theorem refParse_any (s : ByteArray) (w : World) (hs : s.size ≤ 4200) :
    Calls Tryz.prog 14 #[.string s] w fun e w' => e = .returned (refP s.data.toList) ∧ Below w.heap.size w w' := by
  obtain ⟨i0v, hi⟩ : ∃ i, info_i = i := ⟨_, rfl⟩
  clear hi i0v
  obtain ⟨ti, hti, hz0, hz1, hz2⟩ := info_parts info_i
  obtain ⟨b, hb⟩ : ∃ b, chAt s.data.toList 0 45 = b := ⟨_, rfl⟩
  obtain ⟨P, hP⟩ : ∃ P, refP s.data.toList = P := ⟨_, rfl⟩
  rw [hP]
  have HB := Lib.hid hb
  have HP := Lib.hid hP
  clear hb hP
  go_enter Tryz.func14, Tryz.ntmps14
  go_upto_region 3 with (fail)
  go_cut [25] (fun t wx => ((w.alloc (Obj.cells #[.int .i64 0, .int .i64 0] 29)).alloc (Obj.cells #[.bool false, .slice none 0 0] 49)) = wx ∧ t = .bool b)
  case first =>
    as_aux_lemma =>
    by_cases h0 : 0 < s.size
    · have hch := chAt_is s 0 45 45 rfl h0
      rw [HB.out] at hch
      obtain ⟨c, hc⟩ : ∃ c, s[0].toNat = c := ⟨_, rfl⟩
      rw [hc] at hch
      have HCH := Lib.hid hch
      clear hch
      by_cases h1 : c = 45
      · subst h1
        go_wp2
        go_meet
        exact ⟨rfl, by rw [HCH.out]; rfl⟩
      · have HV : Hid (b = false) := Lib.hid (by rw [HCH.out]; exact decide_eq_false h1)
        have h1' : ((c : Int) == 45) = false := by simp; omega
        clear HCH
        go_wp2
        go_meet
        exact ⟨rfl, by rw [HV.out]⟩
    · have HCH := Lib.hid (HB.out.symm.trans (chAt_no 45 (by rw [← Lib.size_eq]; exact h0)))
      go_wp2
      go_meet
      exact ⟨rfl, by rw [HCH.out]⟩
  case rest =>
  as_aux_lemma =>
  obtain ⟨rfl, rfl⟩ := hcut
  go_upto_if 25 with (fail)
  go_cut [5] (fun i wx => ∃ i0 : Nat, i = .int .i64 (i0 : Nat) ∧ i0 ≤ s.size ∧ Hid (i0 = if b then 1 else 0) ∧ Hid (Pm w wx b) ∧ w.heap.size + 2 ≤ wx.heap.size)
  case first =>
    as_aux_lemma =>
    cases b
    · go_wp2
      go_meet
      exact ⟨0, rfl, by omega, Lib.hid rfl, Lib.hid ⟨by simpa using Bx.alloc (bxN w (.int .i64 0) (.int .i64 0) 29) (Obj.cells #[.bool false, .slice none 0 0] 49), by simpa using Lb.new (w.alloc (Obj.cells #[.int .i64 0, .int .i64 0] 29)) (.bool false) (.slice none 0 0), bA2 _ _ _⟩, by simp⟩
    · have h1s : 1 ≤ s.size := by
        refine Decidable.byContradiction fun g => ?_
        have := HB.out.symm.trans (chAt_no 45 (by rw [← Lib.size_eq]; omega))
        simp at this
      go_wp2
      go_meet
      exact ⟨1, rfl, h1s, Lib.hid rfl, Lib.hid ⟨by simpa using Bx.alloc (bxN w (.int .i64 0) (.int .i64 0) 29) (Obj.cells #[.bool true, .slice none 0 0] 49), by simpa using Lb.new (w.alloc (Obj.cells #[.int .i64 0, .int .i64 0] 29)) (.bool true) (.slice none 0 0), bA2 _ _ _⟩, by simp⟩
  case rest =>
  as_aux_lemma =>
  obtain ⟨i0, rfl, hi0, HI0, HM, hsz⟩ := hcut
  have HL0 : Hid (Lib.trimPrefix s.data.toList [45] = s.data.toList.drop i0 ∧ Lib.hasPrefix s.data.toList [45] = b) := Lib.hid (sign_at HB.out HI0.out)
  obtain ⟨R, hR⟩ : ∃ R, s.data.toList.drop i0 = R := ⟨_, rfl⟩
  have HR := Lib.hid hR
  clear hR
  go_wp2
  go_loopw [5, 7, 9] (fun iv kv dv wr => ∃ (i k : Nat), iv = .int .i64 (i : Nat) ∧ kv = .int .i64 (k : Nat) ∧ i ≤ s.size ∧ k ≤ i ∧ Hid (i = i0 + k) ∧ Hid (∀ j c, j < k → R[j]? = some c → isD c = true) ∧ Hid (Ow (w.heap.size + 2) wr dv (digs (R.take k))) ∧ Hid (Pm w wr b) ∧ w.heap.size + 2 ≤ wr.heap.size) (fun iv _ _ _ => s.size - (intOf iv).toNat)
  case atStart => exact ⟨i0, 0, rfl, rfl, hi0, by omega, Lib.hid rfl, Lib.hid (fun j c h => by omega), Lib.hid (World.ownsRow_nil _ _ _ _), HM, hsz⟩
  case round =>
    clear HM hsz
    obtain ⟨i, k, rfl, rfl, hi, hki, HIK, HAll, HO, HM, hsz⟩ := hrel
    go_upto_region 8 with (fail)
    go_cut [45] (fun t wx => wr = wx ∧ t = .bool (dgAt s.data.toList i))
    case first =>
      as_aux_lemma =>
      by_cases hlt : i < s.size
      · have hdg := dgAt_is s i hlt
        obtain ⟨c, hc⟩ : ∃ c, s[i].toNat = c := ⟨_, rfl⟩
        rw [hc] at hdg
        have HDG := Lib.hid hdg
        clear hdg
        by_cases h1 : 48 ≤ c
        · by_cases h2 : c ≤ 57
          · have HV : Hid (dgAt s.data.toList i = true) := Lib.hid (by rw [HDG.out]; exact decide_eq_true ⟨h1, h2⟩)
            clear HDG
            go_wp2
            go_meet
            exact ⟨rfl, by rw [HV.out]; first | done | exact congrArg Value.bool (decide_eq_true (by omega))⟩
          · have HV : Hid (dgAt s.data.toList i = false) := Lib.hid (by rw [HDG.out]; exact decide_eq_false (by omega))
            clear HDG
            go_wp2
            go_meet
            exact ⟨rfl, by rw [HV.out]; first | done | exact congrArg Value.bool (decide_eq_false (by omega))⟩
        · have HV : Hid (dgAt s.data.toList i = false) := Lib.hid (by rw [HDG.out]; exact decide_eq_false (by omega))
          clear HDG
          go_wp2
          go_meet
          exact ⟨rfl, by rw [HV.out]⟩
      · have HV : Hid (dgAt s.data.toList i = false) := Lib.hid (dgAt_no (L := s.data.toList) (i := i) (by rw [← Lib.size_eq]; exact hlt))
        go_wp2
        go_meet
        exact ⟨rfl, by rw [HV.out]⟩
    case rest =>
    as_aux_lemma =>
    obtain ⟨rfl, rfl⟩ := hcut
    by_cases hdd : dgAt s.data.toList i = true
    · rw [hdd]
      have hlt : i < s.size := by
        refine Decidable.byContradiction fun g => ?_
        rw [dgAt_no (by rw [← Lib.size_eq]; exact g)] at hdd
        cases hdd
      rw [dgAt_is s i hlt] at hdd
      have hdd := of_decide_eq_true hdd
      obtain ⟨c, hc⟩ : ∃ c, s[i].toNat = c := ⟨_, rfl⟩
      rw [hc] at hdd
      obtain ⟨hd1, hd2⟩ := hdd
      have HRK : Hid (R[k]? = some s[i]) := Lib.hid (by rw [← HR.out, List.getElem?_drop, ← HIK.out]; exact get_at s i hlt)
      have HC := Lib.hid hc
      have hol : (digs (R.take k)).length ≤ 4200 := by rw [digs_len, List.length_take]; omega
      go_wp2_with (at_builtin; refine wpList_append_own _ rfl _ _ 47 rfl (w.heap.size + 2) 3 ti (.int .i64 0) 1 8 Tryz.underlying47 hti hz0 hz1 hz2 rfl (by decide) _ _ _ rfl (HO.out.alloc _) ⟨wr.heap.size, 0, none⟩ 1 1 [.int .i64 ((c : Int) - 48)] rfl rfl (cells_new _ _ _) (one_int _) ?c3 ?c4 ?c5 ?c6)
      case c3 => unfold maxLen; omega
      case c4 => omega
      case c5 => simp; omega
      case c6 =>
        intro v' w1 hown' hgrow _
        have HO' : Hid (Ow (w.heap.size + 2) w1 v' (digs (R.take (k + 1)))) := Lib.hid (by
          rw [List.take_add_one, HRK.out, Option.toList_some, digs_snoc, HC.out]
          exact Ow.push (by omega) hown')
        have HM' : Hid (Pm w w1 b) := Lib.hid (HM.out.grown HO.out hsz hgrow)
        have hsz' : w.heap.size + 2 ≤ w1.heap.size := Nat.le_trans (by simp; omega) hgrow.size
        have HAll' : Hid (∀ j c, j < k + 1 → R[j]? = some c → isD c = true) := Lib.hid (fun j e hj he => by
          by_cases ej : j = k
          · subst ej
            rw [HRK.out] at he
            obtain rfl := Option.some.inj he
            exact decide_eq_true (by rw [HC.out]; exact ⟨hd1, hd2⟩)
          · exact HAll.out j e (by omega) he)
        clear hown' hgrow HO HM
        go_wp2
        go_roundw
        case rel => exact ⟨i + 1, k + 1, by go_num, by go_num, by omega, by omega, Lib.hid (by have := HIK.out; omega), HAll', HO', HM', hsz'⟩
        case measure => simp [intOf]; omega
    · have hdd : dgAt s.data.toList i = false := by simpa using hdd
      rw [hdd]
      have hRk : R[k]? = s.data.toList[i]? := by rw [← HR.out, List.getElem?_drop, HIK.out]
      have hkR : k ≤ R.length := by
        rw [← HR.out, List.length_drop, ← Lib.size_eq]
        have := HIK.out
        omega
      have htw := take_of isD R k hkR HAll.out (fun c hc => by
        rw [hRk] at hc
        unfold dgAt at hdd
        rw [hc] at hdd
        exact hdd)
      have HTW := Lib.hid htw
      have HKL : Hid ((R.takeWhile isD).length = k) := Lib.hid (by rw [htw.1, List.length_take, Nat.min_eq_left hkR])
      have HO2 : Hid (Ow (w.heap.size + 2) wr u9 (digs (R.takeWhile isD))) := Lib.hid (by rw [htw.1]; exact HO.out)
      have HD2 : Hid (s.data.toList.drop i = R.dropWhile isD) := Lib.hid (by rw [htw.2, ← HR.out, List.drop_drop, HIK.out, Nat.add_comm])
      obtain ⟨A, hA⟩ : ∃ A, R.takeWhile isD = A := ⟨_, rfl⟩
      obtain ⟨R1, hR1⟩ : ∃ A, R.dropWhile isD = A := ⟨_, rfl⟩
      rw [hA] at HO2 HKL
      rw [hR1] at HD2
      have HA := Lib.hid hA
      have HR1 := Lib.hid hR1
      clear hdd hRk htw hA hR1 HO HAll HTW
      have HBAD : Hid (A = [] ↔ k = 0) := Lib.hid (by rw [← HKL.out]; exact List.length_eq_zero_iff.symm)
      have HHD : Hid (k ≠ 0 → (A.head? = some 48 ↔ chAt s.data.toList i0 48 = true)) := Lib.hid (fun hk => head_at HA.out HR.out (fun h => hk (HBAD.out.1 h)))
      obtain ⟨q, hq⟩ : ∃ q : Bool, decide (A = [] ∨ (1 < A.length ∧ A.head? = some 48)) = q := ⟨_, rfl⟩
      have HQ : Hid (decide (A = [] ∨ (1 < A.length ∧ A.head? = some 48)) = q) := Lib.hid hq
      clear hq
      go_upto_region 12 with (fail)
      go_cut [69] (fun t wx => wr = wx ∧ t = .bool q)
      case first =>
        as_aux_lemma =>
        by_cases k0 : k = 0
        · subst k0
          have HV : Hid (q = true) := Lib.hid (by rw [← HQ.out]; exact decide_eq_true (Or.inl (HBAD.out.2 rfl)))
          go_wp2
          go_meet
          exact ⟨rfl, by rw [HV.out]⟩
        · have hk1 : 0 < k := by omega
          have hk2 : ((k : Int) == 0) = false := by simp; omega
          by_cases k1 : 1 < k
          · have hlt : i0 < s.size := by have := HIK.out; omega
            have hch := chAt_is s i0 48 48 rfl hlt
            obtain ⟨c, hc⟩ : ∃ c, s[i0].toNat = c := ⟨_, rfl⟩
            rw [hc] at hch
            have HCH := Lib.hid hch
            clear hch
            by_cases h1 : c = 48
            · have HV : Hid (q = true) := Lib.hid (by rw [← HQ.out]; exact decide_eq_true (Or.inr ⟨by rw [HKL.out]; exact k1, (HHD.out k0).2 (by rw [HCH.out]; exact decide_eq_true h1)⟩))
              subst h1
              clear HCH
              go_wp2
              go_meet
              exact ⟨rfl, by rw [HV.out]⟩
            · have HV : Hid (q = false) := Lib.hid (by
                rw [← HQ.out]
                refine decide_eq_false (fun h => h.elim (fun h => k0 (HBAD.out.1 h)) (fun h => ?_))
                have := (HHD.out k0).1 h.2
                rw [HCH.out] at this
                exact h1 (of_decide_eq_true this))
              have h1' : ((c : Int) == 48) = false := by simp; omega
              clear HCH
              go_wp2
              go_meet
              exact ⟨rfl, by rw [HV.out]⟩
          · have HV : Hid (q = false) := Lib.hid (by
              rw [← HQ.out]
              refine decide_eq_false (fun h => h.elim (fun h => k0 (HBAD.out.1 h)) (fun h => ?_))
              rw [HKL.out] at h
              omega)
            go_wp2
            go_meet
            exact ⟨rfl, by rw [HV.out]⟩
      case rest =>
      as_aux_lemma =>
      obtain ⟨rfl, rfl⟩ := hcut
      cases q with
      | true =>
        have HPE : Hid (P = .tuple #[nv 0 0, .int .i64 3]) := Lib.hid (by
          rw [← HP.out]
          refine ErrF ?_
          unfold spl
          rw [HL0.out.1, HR.out, HA.out, if_pos (of_decide_eq_true HQ.out)])
        obtain ⟨x0, x1, x2, x3⟩ := HM.out.x
        go_wp2
        obtain ⟨z0, z1, _, _⟩ := HM.out.x.put (.int .i64 0) (.int .i64 0)
        clear x0 x1
        simp [bodyPost, results, Tryz.results14, go_sem, z0, z1]
        exact ⟨by rw [HPE.out]; rfl, (HM.out.bel.setCell (by simp) _).setCell (by simp) _⟩
      | false =>
        have HSP : Hid (spl s.data.toList = splF b A R1) := Lib.hid (by
          unfold spl
          rw [HL0.out.1, HL0.out.2, HR.out, HA.out, HR1.out, if_neg (of_decide_eq_false HQ.out)])
        clear HBAD HHD
        have HDG0 : Hid (∀ c ∈ A, isD c = true) := Lib.hid (fun c hc => by rw [← HA.out] at hc; exact mem_tw _ R c hc)
        have hAl : A.length ≤ 4200 := by have := HKL.out; omega
        have HANE : Hid (A ≠ []) := Lib.hid (fun h => of_decide_eq_false HQ.out (Or.inl h))
        clear HA HR1 HR HL0 HKL HI0 HIK HQ
        go_upto_region 14 with (fail)
        go_cut [80] (fun t wx => wr = wx ∧ t = .bool (chAt s.data.toList i 46))
        case first =>
          as_aux_lemma =>
          by_cases hlt : i < s.size
          · obtain ⟨c, hc⟩ : ∃ c, s[i].toNat = c := ⟨_, rfl⟩
            have hch0 := chAt_is s i 46 46 rfl hlt
            rw [hc] at hch0
            have HCH0 := Lib.hid hch0
            clear hch0
            by_cases h1 : c = 46
            · subst h1
              go_wp2
              go_meet
              exact ⟨rfl, by rw [HCH0.out]; rfl⟩
            · have h1' : ((c : Int) == 46) = false := by simp; omega
              go_wp2
              go_meet
              exact ⟨rfl, by rw [HCH0.out, decide_eq_false h1]⟩
          · have HCH : Hid ((chAt s.data.toList i 46) = false) := Lib.hid (by rw [chAt_no 46 (L := s.data.toList) (i := i) (by rw [← Lib.size_eq]; exact hlt)])
            go_wp2
            go_meet
            exact ⟨rfl, by rw [HCH.out]⟩
        case rest =>
        as_aux_lemma =>
        obtain ⟨rfl, rfl⟩ := hcut
        go_upto_if 80 with (fail)
        obtain ⟨pb, hpb⟩ : ∃ pb, chAt s.data.toList i 46 = pb := ⟨_, rfl⟩
        rw [hpb]
        have HPB := Lib.hid hpb
        clear hpb
        go_cut [5, 6, 9] (fun iv sv dv wx => ∃ (i2 : Nat) (F R2 : List UInt8), iv = .int .i64 (i2 : Nat) ∧ sv = .int .i64 (F.length : Nat) ∧ i2 ≤ s.size ∧ F.length ≤ 4200 ∧ Hid (s.data.toList.drop i2 = R2) ∧ Hid (spl s.data.toList = splE b A F R2) ∧ Hid (Ow (w.heap.size + 2) wx dv (digs (A ++ F))) ∧ Hid (Pm w wx b) ∧ w.heap.size + 2 ≤ wx.heap.size ∧ Hid (∀ c ∈ A ++ F, isD c = true))
        case first =>
          as_aux_lemma =>
          have HPX : Hid (Lib.trimPrefix R1 [46] = s.data.toList.drop (i + if pb then 1 else 0) ∧ Lib.hasPrefix R1 [46] = pb) := Lib.hid (by
            have h1 : chAt R1 0 46 = pb := by rw [← HPB.out, ← HD2.out]; unfold chAt; rw [List.getElem?_drop]; rfl
            have := sign_at46 h1 rfl
            rw [← List.drop_drop, HD2.out]
            exact this)
          cases pb
          · have HS2 : Hid (spl s.data.toList = splE b A [] R1) := Lib.hid (by rw [HSP.out]; unfold splF; rw [HPX.out.2, if_neg (by simp)])
            have HO3 : Hid (Ow (w.heap.size + 2) wr u9 (digs (A ++ []))) := Lib.hid (by rw [List.append_nil]; exact HO2.out)
            have HG2 : Hid (∀ c ∈ A ++ [], isD c = true) := Lib.hid (by rw [List.append_nil]; exact HDG0.out)
            clear HPX HSP HPB HO2 HDG0
            go_wp2
            go_meet
            exact ⟨i, [], R1, rfl, rfl, hi, by simp, HD2, HS2, HO3, HM, hsz, HG2⟩
          · have hil : i < s.size := by
              refine Decidable.byContradiction fun g => ?_
              have := HPB.out.symm.trans (chAt_no (L := s.data.toList) (i := i) 46 (by rw [← Lib.size_eq]; exact g))
              cases this
            obtain ⟨i0, hi0⟩ : ∃ i0 : Nat, i + 1 = i0 := ⟨_, rfl⟩
            have hi0' : (i : Int) + 1 = (i0 : Nat) := by omega
            obtain ⟨R, hR⟩ : ∃ R, s.data.toList.drop i0 = R := ⟨_, rfl⟩
            have HPX2 : Hid (Lib.trimPrefix R1 [46] = R ∧ Lib.hasPrefix R1 [46] = true) := Lib.hid ⟨by rw [← hR, ← hi0]; exact HPX.out.1, HPX.out.2⟩
            have HR := Lib.hid hR
            have HI0 := Lib.hid hi0
            have hi0s : i0 ≤ s.size := by omega
            have HO0 : Hid (Ow (w.heap.size + 2) wr u9 (digs (A ++ R.take 0))) := Lib.hid (by rw [List.take_zero, List.append_nil]; exact HO2.out)
            clear hR hi0 HPX HPB HO2 HD2
            go_wp2
            go_loopw [5, 6, 9] (fun iv kv dv wr => ∃ (i k : Nat), iv = .int .i64 (i : Nat) ∧ kv = .int .i64 (k : Nat) ∧ i ≤ s.size ∧ k ≤ i ∧ Hid (i = i0 + k) ∧ Hid (∀ j c, j < k → R[j]? = some c → isD c = true) ∧ Hid (Ow (w.heap.size + 2) wr dv (digs (A ++ R.take k))) ∧ Hid (Pm w wr b) ∧ w.heap.size + 2 ≤ wr.heap.size) (fun iv _ _ _ => s.size - (intOf iv).toNat)
            case atStart => exact ⟨i0, 0, by go_num, rfl, hi0s, by omega, Lib.hid rfl, Lib.hid (fun j c h => by omega), HO0, HM, hsz⟩
            case round =>
              clear HM hsz HO0 hi hil hi0'
              obtain ⟨i, k, rfl, rfl, hi, hki, HIK, HAll, HO, HM, hsz⟩ := hrel
              go_upto_region 16 with (fail)
              go_cut [98] (fun t wx => wr = wx ∧ t = .bool (dgAt s.data.toList i))
              case first =>
                as_aux_lemma =>
                by_cases hlt : i < s.size
                · have hdg := dgAt_is s i hlt
                  obtain ⟨c, hc⟩ : ∃ c, s[i].toNat = c := ⟨_, rfl⟩
                  rw [hc] at hdg
                  have HDG := Lib.hid hdg
                  clear hdg
                  by_cases h1 : 48 ≤ c
                  · by_cases h2 : c ≤ 57
                    · have HV : Hid (dgAt s.data.toList i = true) := Lib.hid (by rw [HDG.out]; exact decide_eq_true ⟨h1, h2⟩)
                      clear HDG
                      go_wp2
                      go_meet
                      exact ⟨rfl, by rw [HV.out]; first | done | exact congrArg Value.bool (decide_eq_true (by omega))⟩
                    · have HV : Hid (dgAt s.data.toList i = false) := Lib.hid (by rw [HDG.out]; exact decide_eq_false (by omega))
                      clear HDG
                      go_wp2
                      go_meet
                      exact ⟨rfl, by rw [HV.out]; first | done | exact congrArg Value.bool (decide_eq_false (by omega))⟩
                  · have HV : Hid (dgAt s.data.toList i = false) := Lib.hid (by rw [HDG.out]; exact decide_eq_false (by omega))
                    clear HDG
                    go_wp2
                    go_meet
                    exact ⟨rfl, by rw [HV.out]⟩
                · have HV : Hid (dgAt s.data.toList i = false) := Lib.hid (dgAt_no (L := s.data.toList) (i := i) (by rw [← Lib.size_eq]; exact hlt))
                  go_wp2
                  go_meet
                  exact ⟨rfl, by rw [HV.out]⟩
              case rest =>
              as_aux_lemma =>
              obtain ⟨rfl, rfl⟩ := hcut
              by_cases hdd : dgAt s.data.toList i = true
              · rw [hdd]
                as_aux_lemma =>
                have hlt : i < s.size := by
                  refine Decidable.byContradiction fun g => ?_
                  rw [dgAt_no (by rw [← Lib.size_eq]; exact g)] at hdd
                  cases hdd
                rw [dgAt_is s i hlt] at hdd
                have hdd := of_decide_eq_true hdd
                obtain ⟨c, hc⟩ : ∃ c, s[i].toNat = c := ⟨_, rfl⟩
                rw [hc] at hdd
                obtain ⟨hd1, hd2⟩ := hdd
                have HRK : Hid (R[k]? = some s[i]) := Lib.hid (by rw [← HR.out, List.getElem?_drop, ← HIK.out]; exact get_at s i hlt)
                have HC := Lib.hid hc
                have hol : (digs (A ++ R.take k)).length ≤ 12600 := by rw [digs_len, List.length_append, List.length_take]; omega
                go_wp2_with (at_builtin; refine wpList_append_own _ rfl _ _ 47 rfl (w.heap.size + 2) 3 ti (.int .i64 0) 1 8 Tryz.underlying47 hti hz0 hz1 hz2 rfl (by decide) _ _ _ rfl (HO.out.alloc _) ⟨wr.heap.size, 0, none⟩ 1 1 [.int .i64 ((c : Int) - 48)] rfl rfl (cells_new _ _ _) (one_int _) ?c3 ?c4 ?c5 ?c6)
                case c3 => unfold maxLen; omega
                case c4 => omega
                case c5 => simp; omega
                case c6 =>
                  intro v' w1 hown' hgrow _
                  have HO' : Hid (Ow (w.heap.size + 2) w1 v' (digs (A ++ R.take (k + 1)))) := Lib.hid (by
                    rw [List.take_add_one, HRK.out, Option.toList_some, ← List.append_assoc, digs_snoc, HC.out]
                    exact Ow.push (by omega) hown')
                  have HM' : Hid (Pm w w1 b) := Lib.hid (HM.out.grown HO.out hsz hgrow)
                  have hsz' : w.heap.size + 2 ≤ w1.heap.size := Nat.le_trans (by simp; omega) hgrow.size
                  have HAll' : Hid (∀ j c, j < k + 1 → R[j]? = some c → isD c = true) := Lib.hid (fun j e hj he => by
                    by_cases ej : j = k
                    · subst ej
                      rw [HRK.out] at he
                      obtain rfl := Option.some.inj he
                      exact decide_eq_true (by rw [HC.out]; exact ⟨hd1, hd2⟩)
                    · exact HAll.out j e (by omega) he)
                  clear hown' hgrow HO HM
                  go_wp2
                  go_roundw
                  case rel => exact ⟨i + 1, k + 1, by go_num, by go_num, by omega, by omega, Lib.hid (by have := HIK.out; omega), HAll', HO', HM', hsz'⟩
                  case measure => simp [intOf]; omega
              · have hdd : dgAt s.data.toList i = false := by simpa using hdd
                rw [hdd]
                have hRk : R[k]? = s.data.toList[i]? := by rw [← HR.out, List.getElem?_drop, HIK.out]
                have hkR : k ≤ R.length := by
                  rw [← HR.out, List.length_drop, ← Lib.size_eq]
                  have := HIK.out
                  omega
                have htw := take_of isD R k hkR HAll.out (fun c hc => by
                  rw [hRk] at hc
                  unfold dgAt at hdd
                  rw [hc] at hdd
                  exact hdd)
                have HKL : Hid ((R.takeWhile isD).length = k) := Lib.hid (by rw [htw.1, List.length_take, Nat.min_eq_left hkR])
                have HO2 : Hid (Ow (w.heap.size + 2) wr u9 (digs (A ++ R.takeWhile isD))) := Lib.hid (by rw [htw.1]; exact HO.out)
                have HD2 : Hid (s.data.toList.drop i = R.dropWhile isD) := Lib.hid (by rw [htw.2, ← HR.out, List.drop_drop, HIK.out, Nat.add_comm])
                have HG2 : Hid (∀ c ∈ A ++ R.takeWhile isD, isD c = true) := Lib.hid (fun c hc => by
                  rcases List.mem_append.1 hc with hc | hc
                  · exact HDG0.out c hc
                  · exact mem_tw _ R c hc)
                clear hdd hRk htw HO HAll HIK HDG0
                by_cases k0 : k = 0
                · have HPE : Hid (P = .tuple #[nv 0 0, .int .i64 3]) := Lib.hid (by
                    rw [← HP.out]
                    refine ErrF ?_
                    rw [HSP.out]
                    unfold splF
                    rw [if_pos HPX2.out.2, HPX2.out.1, if_pos (List.length_eq_zero_iff.1 (by rw [HKL.out]; exact k0))])
                  subst k0
                  obtain ⟨x0, x1, x2, x3⟩ := HM.out.x
                  go_wp2
                  obtain ⟨z0, z1, _, _⟩ := HM.out.x.put (.int .i64 0) (.int .i64 0)
                  clear x0 x1
                  simp [bodyPost, results, Tryz.results14, go_sem, z0, z1]
                  exact ⟨by rw [HPE.out]; rfl, (HM.out.bel.setCell (by simp) _).setCell (by simp) _⟩
                · have k0' : ((k : Int) == 0) = false := by simp; omega
                  have HS2 : Hid (spl s.data.toList = splE b A (R.takeWhile isD) (R.dropWhile isD)) := Lib.hid (by
                    rw [HSP.out]
                    unfold splF
                    rw [if_pos HPX2.out.2, HPX2.out.1, if_neg (fun h => k0 (by rw [← HKL.out, h]; rfl))])
                  have hkl : (R.takeWhile isD).length ≤ 4200 := by rw [HKL.out]; omega
                  clear HPX2 HSP
                  go_wp2
                  go_meet
                  exact ⟨i, _, _, rfl, by rw [HKL.out], hi, hkl, HD2, HS2, HO2, HM, hsz, HG2⟩
        case rest =>
        as_aux_lemma =>
        clear HM hsz HO2 HD2 HSP HPB HDG0 hi
        obtain ⟨i, Fr, R2, rfl, rfl, hi, hFl, HD2, HSP, HO2, HM, hsz, HDG0⟩ := hcut
        generalize hwr : wc = wr at HO2 HM hsz ⊢
        clear hwr
        go_upto_region 22 with (fail)
        go_cut [129] (fun t wx => wr = wx ∧ t = .bool (chAt s.data.toList i 101 || chAt s.data.toList i 69))
        case first =>
          as_aux_lemma =>
          by_cases hlt : i < s.size
          · obtain ⟨c, hc⟩ : ∃ c, s[i].toNat = c := ⟨_, rfl⟩
            have hch0 := chAt_is s i 101 101 rfl hlt
            rw [hc] at hch0
            have HCH0 := Lib.hid hch0
            clear hch0
            have hch1 := chAt_is s i 69 69 rfl hlt
            rw [hc] at hch1
            have HCH1 := Lib.hid hch1
            clear hch1
            by_cases h1 : c = 101
            · subst h1
              go_wp2
              go_meet
              exact ⟨rfl, by rw [HCH0.out, HCH1.out]; rfl⟩
            · have h1' : ((c : Int) == 101) = false := by simp; omega
              by_cases h2 : c = 69
              · subst h2
                go_wp2
                go_meet
                exact ⟨rfl, by rw [HCH0.out, HCH1.out]; rfl⟩
              · have h2' : ((c : Int) == 69) = false := by simp; omega
                go_wp2
                go_meet
                exact ⟨rfl, by rw [HCH0.out, HCH1.out, decide_eq_false h1, decide_eq_false h2]; rfl⟩
          · have HCH : Hid ((chAt s.data.toList i 101 || chAt s.data.toList i 69) = false) := Lib.hid (by rw [chAt_no 101 (L := s.data.toList) (i := i) (by rw [← Lib.size_eq]; exact hlt), chAt_no 69 (L := s.data.toList) (i := i) (by rw [← Lib.size_eq]; exact hlt)]; rfl)
            go_wp2
            go_meet
            exact ⟨rfl, by rw [HCH.out]⟩
        case rest =>
        as_aux_lemma =>
        obtain ⟨rfl, rfl⟩ := hcut
        go_upto_if 129 with (fail)
        obtain ⟨pe, hpe⟩ : ∃ pe, (chAt s.data.toList i 101 || chAt s.data.toList i 69) = pe := ⟨_, rfl⟩
        rw [hpe]
        have HPE0 := Lib.hid hpe
        clear hpe
        go_cut [5, 6] (fun iv sv wx => wr = wx ∧ ∃ (i3 : Nat) (z : Int) (X R3 : List UInt8) (ep : Bool), iv = .int .i64 (i3 : Nat) ∧ sv = .int .i64 z ∧ i3 ≤ s.size ∧ -1000000 ≤ z ∧ z ≤ 1004200 ∧ Hid (s.data.toList.drop i3 = R3) ∧ Hid (spl s.data.toList = ((b, ep, A, Fr, X), R3.isEmpty)) ∧ Hid (z = (Fr.length : Int) - (if ep = true then -(rcap X : Int) else (rcap X : Int))))
        case first =>
          as_aux_lemma =>
          cases pe
          · have HS3 : Hid (spl s.data.toList = ((b, false, A, Fr, []), R2.isEmpty)) := Lib.hid (by rw [HSP.out, splE_no HD2.out HPE0.out])
            clear HPE0 HSP
            go_wp2
            go_meet
            exact ⟨rfl, i, Fr.length, [], R2, false, rfl, rfl, hi, by omega, by omega, HD2, HS3, Lib.hid (by simp [rcap])⟩
          · obtain ⟨hil, hse⟩ := splE_e (b := b) (A := A) (Fr := Fr) HD2.out HPE0.out
            rw [← Lib.size_eq] at hil
            obtain ⟨i1, hi1⟩ : ∃ i1 : Nat, i + 1 = i1 := ⟨_, rfl⟩
            have hi1' : (i : Int) + 1 = (i1 : Nat) := by omega
            rw [hi1, ← HSP.out] at hse
            have HSE := Lib.hid hse
            have hi1s : i1 ≤ s.size := by omega
            clear hse HPE0 HSP HD2 hi1
            go_upto_region 25 with (fail)
            clear hi1' hil hi
            go_cut [147] (fun t wx => wr = wx ∧ t = .bool (chAt s.data.toList i1 43 || chAt s.data.toList i1 45))
            case first =>
              as_aux_lemma =>
              by_cases hlt : i1 < s.size
              · obtain ⟨c, hc⟩ : ∃ c, s[i1].toNat = c := ⟨_, rfl⟩
                have hch0 := chAt_is s i1 43 43 rfl hlt
                rw [hc] at hch0
                have HCH0 := Lib.hid hch0
                clear hch0
                have hch1 := chAt_is s i1 45 45 rfl hlt
                rw [hc] at hch1
                have HCH1 := Lib.hid hch1
                clear hch1
                by_cases h1 : c = 43
                · subst h1
                  go_wp2
                  go_meet
                  exact ⟨rfl, by rw [HCH0.out, HCH1.out]; rfl⟩
                · have h1' : ((c : Int) == 43) = false := by simp; omega
                  by_cases h2 : c = 45
                  · subst h2
                    go_wp2
                    go_meet
                    exact ⟨rfl, by rw [HCH0.out, HCH1.out]; rfl⟩
                  · have h2' : ((c : Int) == 45) = false := by simp; omega
                    go_wp2
                    go_meet
                    exact ⟨rfl, by rw [HCH0.out, HCH1.out, decide_eq_false h1, decide_eq_false h2]; rfl⟩
              · have HCH : Hid ((chAt s.data.toList i1 43 || chAt s.data.toList i1 45) = false) := Lib.hid (by rw [chAt_no 43 (L := s.data.toList) (i := i1) (by rw [← Lib.size_eq]; exact hlt), chAt_no 45 (L := s.data.toList) (i := i1) (by rw [← Lib.size_eq]; exact hlt)]; rfl)
                go_wp2
                go_meet
                exact ⟨rfl, by rw [HCH.out]⟩
            case rest =>
            as_aux_lemma =>
            obtain ⟨rfl, rfl⟩ := hcut
            go_upto_if 147 with (fail)
            obtain ⟨ps, hps⟩ : ∃ pe, (chAt s.data.toList i1 43 || chAt s.data.toList i1 45) = pe := ⟨_, rfl⟩
            rw [hps]
            have HPS := Lib.hid hps
            clear hps
            go_cut [5, 10] (fun iv uv wx => wr = wx ∧ ∃ (i2 : Nat) (up : Bool), iv = .int .i64 (i2 : Nat) ∧ uv = .bool up ∧ i2 ≤ s.size ∧ Hid (sgn (s.data.toList.drop i1) = (!up, s.data.toList.drop i2)))
            case first =>
              as_aux_lemma =>
              cases ps
              · have HSG := Lib.hid (sgn_no HPS.out)
                go_wp2
                go_meet
                exact ⟨rfl, i1, true, rfl, rfl, hi1s, HSG⟩
              · have hil1 : i1 < s.size := by
                  refine Decidable.byContradiction fun g => ?_
                  have h := HPS.out
                  rw [chAt_no 43 (by rw [← Lib.size_eq]; exact g), chAt_no 45 (by rw [← Lib.size_eq]; exact g)] at h
                  cases h
                obtain ⟨c, hc⟩ : ∃ c, s[i1].toNat = c := ⟨_, rfl⟩
                have hch := chAt_is s i1 43 43 rfl hil1
                have hch2 := chAt_is s i1 45 45 rfl hil1
                rw [hc] at hch hch2
                have HCH := Lib.hid hch
                have HCH2 := Lib.hid hch2
                clear hch hch2
                by_cases h1 : c = 43
                · subst h1
                  have HSG := Lib.hid (sgn_43 (L := s.data.toList) (i := i1) (by rw [HCH.out]; rfl))
                  clear HCH HCH2 HPS
                  go_wp2
                  go_meet
                  exact ⟨rfl, i1 + 1, true, by go_num, rfl, hil1, HSG⟩
                · have h1' : ((c : Int) == 43) = false := by simp; omega
                  have HSG := Lib.hid (sgn_45 (L := s.data.toList) (i := i1) (by
                    have h := HPS.out
                    rw [HCH.out, decide_eq_false h1, Bool.false_or] at h
                    exact h))
                  clear HCH HCH2 HPS
                  go_wp2
                  go_meet
                  exact ⟨rfl, i1 + 1, false, by go_num, rfl, hil1, HSG⟩
            case rest =>
            as_aux_lemma =>
            obtain ⟨rfl, i0, up, rfl, rfl, hi0s, HSG⟩ := hcut
            clear HPS
            obtain ⟨R, hR⟩ : ∃ R, s.data.toList.drop i0 = R := ⟨_, rfl⟩
            have HSE2 : Hid (spl s.data.toList = if R.takeWhile isD = [] then (zW, false) else ((b, !up, A, Fr, R.takeWhile isD), (R.dropWhile isD).isEmpty)) := Lib.hid (by rw [HSE.out, HSG.out, hR])
            have HR := Lib.hid hR
            clear hR HSE HSG
            go_wp2
            go_loopw [5, 11, 12] (fun iv nv kv wx => wr = wx ∧ ∃ (i k : Nat), iv = .int .i64 (i : Nat) ∧ nv = .int .i64 (rcap (R.take k) : Nat) ∧ kv = .int .i64 (k : Nat) ∧ i ≤ s.size ∧ k ≤ i ∧ Hid (i = i0 + k) ∧ Hid (∀ j c, j < k → R[j]? = some c → isD c = true)) (fun iv _ _ _ => s.size - (intOf iv).toNat)
            case atStart => exact ⟨rfl, i0, 0, rfl, by rw [List.take_zero]; rfl, rfl, hi0s, by omega, Lib.hid rfl, Lib.hid (fun j c h => by omega)⟩
            case round =>
              obtain ⟨rfl, i, k, rfl, rfl, rfl, hi, hki, HIK, HAll⟩ := hrel
              have hrc : rcap (R.take k) < 1000000 := (rcap_is (R.take k) (fun b hb => by
                obtain ⟨j, hj⟩ := List.getElem?_of_mem hb
                rw [List.getElem?_take] at hj
                split at hj
                · exact HAll.out j b (by assumption) hj
                · cases hj)).1
              obtain ⟨N, hN⟩ : ∃ N, rcap (R.take k) = N := ⟨_, rfl⟩
              rw [hN] at hrc ⊢
              have HN := Lib.hid hN
              clear hN
              go_upto_region 29 with (fail)
              go_cut [169] (fun t wx => wr = wx ∧ t = .bool (dgAt s.data.toList i))
              case first =>
                as_aux_lemma =>
                by_cases hlt : i < s.size
                · have hdg := dgAt_is s i hlt
                  obtain ⟨c, hc⟩ : ∃ c, s[i].toNat = c := ⟨_, rfl⟩
                  rw [hc] at hdg
                  have HDG := Lib.hid hdg
                  clear hdg
                  by_cases h1 : 48 ≤ c
                  · by_cases h2 : c ≤ 57
                    · have HV : Hid (dgAt s.data.toList i = true) := Lib.hid (by rw [HDG.out]; exact decide_eq_true ⟨h1, h2⟩)
                      clear HDG
                      go_wp2
                      go_meet
                      exact ⟨rfl, by rw [HV.out]; first | done | exact congrArg Value.bool (decide_eq_true (by omega))⟩
                    · have HV : Hid (dgAt s.data.toList i = false) := Lib.hid (by rw [HDG.out]; exact decide_eq_false (by omega))
                      clear HDG
                      go_wp2
                      go_meet
                      exact ⟨rfl, by rw [HV.out]; first | done | exact congrArg Value.bool (decide_eq_false (by omega))⟩
                  · have HV : Hid (dgAt s.data.toList i = false) := Lib.hid (by rw [HDG.out]; exact decide_eq_false (by omega))
                    clear HDG
                    go_wp2
                    go_meet
                    exact ⟨rfl, by rw [HV.out]⟩
                · have HV : Hid (dgAt s.data.toList i = false) := Lib.hid (dgAt_no (L := s.data.toList) (i := i) (by rw [← Lib.size_eq]; exact hlt))
                  go_wp2
                  go_meet
                  exact ⟨rfl, by rw [HV.out]⟩
              case rest =>
              as_aux_lemma =>
              obtain ⟨rfl, rfl⟩ := hcut
              by_cases hdd : dgAt s.data.toList i = true
              · rw [hdd]
                as_aux_lemma =>
                have hlt : i < s.size := by
                  refine Decidable.byContradiction fun g => ?_
                  rw [dgAt_no (by rw [← Lib.size_eq]; exact g)] at hdd
                  cases hdd
                rw [dgAt_is s i hlt] at hdd
                have hdd := of_decide_eq_true hdd
                obtain ⟨c, hc⟩ : ∃ c, s[i].toNat = c := ⟨_, rfl⟩
                rw [hc] at hdd
                obtain ⟨hd1, hd2⟩ := hdd
                have HRK : Hid (R[k]? = some s[i]) := Lib.hid (by rw [← HR.out, List.getElem?_drop, ← HIK.out]; exact get_at s i hlt)
                have HC := Lib.hid hc
                have HAll' : Hid (∀ j c, j < k + 1 → R[j]? = some c → isD c = true) := Lib.hid (fun j e hj he => by
                  by_cases ej : j = k
                  · subst ej
                    rw [HRK.out] at he
                    obtain rfl := Option.some.inj he
                    exact decide_eq_true (by rw [HC.out]; exact ⟨hd1, hd2⟩)
                  · exact HAll.out j e (by omega) he)
                have HNX : Hid (rcap (R.take (k + 1)) = if N < 100000 then 10 * N + (c - 48) else N) := Lib.hid (by rw [List.take_add_one, HRK.out, Option.toList_some, rcap_snoc, HN.out, HC.out])
                clear HAll
                by_cases hn : (N : Int) < 100000
                · have HNY : Hid ((10 * (N : Int) + (c : Int) - 48) = (rcap (R.take (k + 1)) : Nat)) := Lib.hid (by rw [HNX.out, if_pos (by omega)]; omega)
                  go_wp2
                  go_roundw
                  case rel => exact ⟨by trivial, i + 1, k + 1, by go_num, congrArg (Value.int .i64) HNY.out, by go_num, by omega, by omega, Lib.hid (by have := HIK.out; omega), HAll'⟩
                  case measure => simp [intOf]; omega
                · have HNY : Hid (N = rcap (R.take (k + 1))) := Lib.hid (by rw [HNX.out, if_neg (by omega)])
                  go_wp2
                  go_roundw
                  case rel => exact ⟨by trivial, i + 1, k + 1, by go_num, congrArg (fun n : Nat => Value.int .i64 (n : Int)) HNY.out, by go_num, by omega, by omega, Lib.hid (by have := HIK.out; omega), HAll'⟩
                  case measure => simp [intOf]; omega
              · have hdd : dgAt s.data.toList i = false := by simpa using hdd
                rw [hdd]
                have hRk : R[k]? = s.data.toList[i]? := by rw [← HR.out, List.getElem?_drop, HIK.out]
                have hkR : k ≤ R.length := by
                  rw [← HR.out, List.length_drop, ← Lib.size_eq]
                  have := HIK.out
                  omega
                have htw := take_of isD R k hkR HAll.out (fun c hc => by
                  rw [hRk] at hc
                  unfold dgAt at hdd
                  rw [hc] at hdd
                  exact hdd)
                have HKL : Hid ((R.takeWhile isD).length = k) := Lib.hid (by rw [htw.1, List.length_take, Nat.min_eq_left hkR])
                have HNN : Hid (rcap (R.takeWhile isD) = N) := Lib.hid (by rw [htw.1]; exact HN.out)
                have HD3 : Hid (s.data.toList.drop i = R.dropWhile isD) := Lib.hid (by rw [htw.2, ← HR.out, List.drop_drop, HIK.out, Nat.add_comm])
                clear hdd hRk htw HAll HIK HN
                by_cases k0 : k = 0
                · have HPE : Hid (P = .tuple #[nv 0 0, .int .i64 3]) := Lib.hid (by
                    rw [← HP.out]
                    refine ErrF ?_
                    rw [HSE2.out, if_pos (List.length_eq_zero_iff.1 (by rw [HKL.out]; exact k0))])
                  subst k0
                  obtain ⟨x0, x1, x2, x3⟩ := HM.out.x
                  go_wp2
                  obtain ⟨z0, z1, _, _⟩ := HM.out.x.put (.int .i64 0) (.int .i64 0)
                  clear x0 x1
                  simp [bodyPost, results, Tryz.results14, go_sem, z0, z1]
                  exact ⟨by rw [HPE.out]; rfl, (HM.out.bel.setCell (by simp) _).setCell (by simp) _⟩
                · have k0' : ((k : Int) == 0) = false := by simp; omega
                  have HS3 : Hid (spl s.data.toList = ((b, !up, A, Fr, R.takeWhile isD), (R.dropWhile isD).isEmpty)) := Lib.hid (by
                    rw [HSE2.out, if_neg (fun h => k0 (by rw [← HKL.out, h]; rfl))])
                  clear HSE2
                  cases up
                  · have HZ : Hid ((Fr.length : Int) + (N : Int) = (Fr.length : Int) - (if (!false) = true then -(rcap (R.takeWhile isD) : Int) else (rcap (R.takeWhile isD) : Int))) := Lib.hid (by show _ = (Fr.length : Int) - (-(rcap (R.takeWhile isD) : Int)); rw [HNN.out]; omega)
                    go_wp2
                    go_meet
                    exact ⟨rfl, i, _, _, _, _, rfl, rfl, hi, by omega, by omega, HD3, HS3, HZ⟩
                  · have HZ : Hid ((Fr.length : Int) - (N : Int) = (Fr.length : Int) - (if (!true) = true then -(rcap (R.takeWhile isD) : Int) else (rcap (R.takeWhile isD) : Int))) := Lib.hid (by show _ = (Fr.length : Int) - (rcap (R.takeWhile isD) : Int); rw [HNN.out])
                    go_wp2
                    go_meet
                    exact ⟨rfl, i, _, _, _, _, rfl, rfl, hi, by omega, by omega, HD3, HS3, HZ⟩
        case rest =>
        as_aux_lemma =>
        clear HPE0 HSP HD2 hi
        obtain ⟨rfl, i, z, X, R3, ep, rfl, rfl, hi, hzl, hzh, HD3, HSP, HZ⟩ := hcut
        by_cases hlt : i < s.size
        · have HPE : Hid (P = .tuple #[nv 0 0, .int .i64 3]) := Lib.hid (by
            rw [← HP.out]
            refine ErrF ?_
            rw [HSP.out]
            show R3.isEmpty = false
            rw [← HD3.out]
            cases hq : s.data.toList.drop i with
            | nil =>
              have := congrArg List.length hq
              rw [List.length_drop, ← Lib.size_eq] at this
              simp at this
              omega
            | cons c t => rfl)
          obtain ⟨x0, x1, x2, x3⟩ := HM.out.x
          go_wp2
          obtain ⟨z0, z1, _, _⟩ := HM.out.x.put (.int .i64 0) (.int .i64 0)
          clear x0 x1
          simp [bodyPost, results, Tryz.results14, go_sem, z0, z1]
          exact ⟨by rw [HPE.out]; rfl, (HM.out.bel.setCell (by simp) _).setCell (by simp) _⟩
        · have HFIN : Hid (P = fin b (vl (A ++ Fr)) z) := Lib.hid (by
            rw [← HP.out]
            unfold refP
            have hR3 : R3.isEmpty = true := by rw [← HD3.out, List.drop_eq_nil_of_le (by rw [← Lib.size_eq]; omega)]; rfl
            rw [HSP.out]
            rw [if_neg (by rw [hR3]; simp), HZ.out])
          clear HP HD3 HSP HZ hi
          obtain ⟨D, hD⟩ : ∃ D, digs (A ++ Fr) = D := ⟨_, rfl⟩
          obtain ⟨V, hV⟩ : ∃ V, vl (A ++ Fr) = V := ⟨_, rfl⟩
          have HDV : Hid (dv D.reverse = V ∧ Dg D.reverse) := Lib.hid (by rw [← hD, ← hV]; exact ⟨dv_digs _, Dg_digs HDG0.out⟩)
          have hDl : D.length ≤ 8400 := by rw [← hD, digs_len, List.length_append]; omega
          have hD0 : 0 < D.length := by
            rw [← hD, digs_len, List.length_append]
            have := List.length_pos_iff.2 HANE.out
            omega
          have HVL : Hid ((dgs V).length ≤ 8400) := Lib.hid (Nat.le_trans (dgs_len.2 (by have h := dv_lt HDV.out.2; rw [HDV.out.1, List.length_reverse] at h; exact h)) hDl)
          rw [hD] at HO2
          rw [hV] at HFIN
          clear hD hV HDG0 HANE hAl hFl
          have hRw : Rw wr u9 D := Rw.of_own HO2.out
          rcases hRw with ⟨_, h0⟩ | ⟨g, o, cap, hu, hc, hg, hcl⟩
          · rw [h0] at hD0; exact absurd hD0 (by simp)
          have hgB : w.heap.size + 2 ≤ g := (World.ownsRow.lt HO2.out g (by rw [hu]; rfl)).1
          subst hu
          have HDC : Hid (∀ (q x : Nat), D[q]? = some x → wr.cell? ⟨g, o + q, none⟩ = some (.int .i64 (x : Nat))) := Lib.hid hcl
          have HPX0 : Hid (Px w wr) := Lib.hid ⟨HM.out.x, HM.out.bel⟩
          have HL0 : Hid (Lb wr (w.heap.size + 1) (.bool b) (.slice none 0 0)) := Lib.hid HM.out.l
          have hnl : ¬ ((i : Int) < (s.size : Int)) := by omega
          clear hcl HO2 HM hc
          generalize hw4 : wr = w4 at HDC HPX0 HL0 hsz hg ⊢
          clear hw4
          go_wp2
          go_loopw [13] (fun kv wx => ∃ (j : Nat) (lv : Value), kv = .int .i64 ((D.length : Int) - 1 - (j : Nat)) ∧ j ≤ D.length ∧ Hid (Ow w4.heap.size wx lv (D.reverse.take j)) ∧ Hid (Lb wx (w.heap.size + 1) (.bool b) lv) ∧ Hid (Px w wx) ∧ w4.heap.size ≤ wx.heap.size ∧ Hid (∀ (q x : Nat), D[q]? = some x → wx.cell? ⟨g, o + q, none⟩ = some (.int .i64 (x : Nat)))) (fun kv _ => (intOf kv + 1).toNat)
          case atStart => exact ⟨0, .slice none 0 0, congrArg (Value.int .i64) (by simp), by omega, Lib.hid (World.ownsRow_nil _ _ _ _), HL0, HPX0, Nat.le_refl _, HDC⟩
          case round =>
            clear HDC HPX0 HL0
            obtain ⟨j, lv, rfl, hj, HO, HL, HPX, hsw, HC⟩ := hrel
            by_cases hlj : j < D.length
            · obtain ⟨q, hq⟩ : ∃ q : Nat, (D.length : Int) - 1 - (j : Nat) = (q : Nat) := ⟨D.length - 1 - j, by omega⟩
              rw [hq]
              have hql : (q : Int) < (D.length : Int) := by omega
              have hqn : q < D.length := by omega
              have hq0 : ¬ ((q : Int) < 0) := by omega
              obtain ⟨x, hx⟩ : ∃ x, D[q]? = some x := ⟨_, List.getElem?_eq_getElem hqn⟩
              have HRJ : Hid (D.reverse.take (j + 1) = D.reverse.take j ++ [x]) := Lib.hid (by
                rw [List.take_add_one, List.getElem?_reverse (by omega), show D.length - 1 - j = q by omega, hx]; rfl)
              have c0 := HC.out q x hx
              have HQ := Lib.hid hq
              have hlen : (D.reverse.take j).length = j := by rw [List.length_take, List.length_reverse]; omega
              obtain ⟨ao, ac, hlv⟩ := HO.out.sl
              rw [hlen] at hlv
              subst hlv
              obtain ⟨l0, l1, m0, m1⟩ := HL.out.bx
              have HLEN := Lib.hid hlen
              clear hq hx hlen
              go_upto_region 44 with (fail)
              as_aux_lemma =>
              have HOa : Hid (Ow w4.heap.size ((wr.alloc (Obj.cells #[.int .i64 (x : Nat)] 3)).drew) (.slice ao j ac) (D.reverse.take j)) := Lib.hid ((HO.out.on (bA1 wr (Obj.cells #[.int .i64 (x : Nat)] 3))).on (Below.refl _ _).drew)
              have HLT : Hid (∀ q, (Value.slice ao j ac).ownBlock = some q → w4.heap.size ≤ q) := Lib.hid (fun q hq => (World.ownsRow.lt HOa.out q hq).1)
              have HBa : Hid (Below w4.heap.size wr ((wr.alloc (Obj.cells #[.int .i64 (x : Nat)] 3)).drew)) := Lib.hid (((Below.refl w4.heap.size wr).alloc hsw _).drew)
              have HSa : Hid (w4.heap.size ≤ ((wr.alloc (Obj.cells #[.int .i64 (x : Nat)] 3)).drew).heap.size) := Lib.hid (Nat.le_trans hsw (bA1 wr (Obj.cells #[.int .i64 (x : Nat)] 3)).size)
              obtain ⟨l0a, l1a, m0a, m1a⟩ := (HL.out.alloc (Obj.cells #[.int .i64 (x : Nat)] 3)).bx
              have c0a := ((bA1 wr (Obj.cells #[.int .i64 (x : Nat)] 3)).cell (p := ⟨g, o + q, none⟩) (Nat.lt_of_lt_of_le hg hsw)).trans c0
              have HG5 : Hid (∀ w5 : World, ((wr.alloc (Obj.cells #[.int .i64 (x : Nat)] 3)).drew).grownBy w5 (Value.slice ao j ac).ownBlock → Below w4.heap.size wr w5 ∧ Lb w5 (w.heap.size + 1) (.bool b) (.slice ao j ac)) := Lib.hid (fun w5 hgrow => by
                have hb := HBa.out.grown hgrow HSa.out HLT.out
                exact ⟨hb, (hb.block (w.heap.size + 1) (by omega)).trans HL.out⟩)
              go_region_law (refine step_append_lies _ rfl (.tmp 207) (.tmp 212) 47 rfl w4.heap.size 3 ti (.int .i64 0) 1 8 Tryz.underlying47 hti hz0 hz1 hz2 rfl (by decide) (.slice ao j ac) _ _ rfl HOa.out ⟨wr.heap.size, 0, none⟩ 1 1 [.int .i64 (x : Nat)] rfl rfl (cells_new wr _ _) (one_int _) (by decide) (by rw [HLEN.out]; unfold maxLen; omega) (by rw [HLEN.out]; omega) HSa.out _ rfl ?_; intro g5 cap5 w5 hown hgrow hat hlt5; have HW5 := Lib.hid hown; obtain ⟨hb5, hL5⟩ := HG5.out w5 hgrow; have HB5 := Lib.hid hb5; have HL5 := Lib.hid hL5; obtain ⟨e0, e1, f0, f1⟩ := hL5.bx; clear hb5 hL5 hown hgrow hat)
              all_goals (
                have hO' : Ow w4.heap.size w5 (.slice (some ⟨g5, 0, none⟩) (j + 1) cap5) (D.reverse.take (j + 1)) := by
                  have h : Ow w4.heap.size w5 (.slice (some ⟨g5, 0, none⟩) ((D.reverse.take j).length + 1) cap5) (D.reverse.take j ++ [x]) := Ow.push rfl HW5.out
                  rw [HLEN.out, ← HRJ.out] at h
                  exact h
                have HO' := Lib.hid hO'
                clear hO'
                go_wp2
                go_roundw
                case rel => exact ⟨j + 1, .slice (some ⟨g5, 0, none⟩) (j + 1) cap5, congrArg (Value.int .i64) (by have := HQ.out; omega), by omega, Lib.hid (HO'.out.set HL5.out 1 _), Lib.hid (HL5.out.set1 _), Lib.hid ⟨(HPX.out.x.blw HB5.out (by omega)).far (by simp) _, (HPX.out.bel.trans (HB5.out.mono (by omega))).setCell (by simp) _⟩, by have := HB5.out.size; simp; omega, Lib.hid (fun q x h => by rw [World.cell?_setCell_far _ _ _ _ (by simp; omega)]; exact (HB5.out.cell (p := ⟨g, o + q, none⟩) hg).trans (HC.out q x h))⟩
                case measure => simp [intOf] <;> omega)
            · have hjn : j = D.length := by omega
              subst hjn
              rw [show ((D.length : Int) - 1 - (D.length : Nat)) = -1 by omega]
              have HRD : Hid (Rw wr lv D.reverse) := Lib.hid (by
                have h := HO.out
                rw [List.take_of_length_le (by simp)] at h
                exact Rw.of_own h)
              have HTR := Lib.hid (trim_any b lv D.reverse wr HRD.out HDV.out.2 (by simp; omega))
              obtain ⟨ao, ac, hlv⟩ := HO.out.sl
              rw [show (D.reverse.take D.length).length = D.length by simp] at hlv
              subst hlv
              obtain ⟨l0, l1, m0, m1⟩ := HL.out.bx
              clear HO HC hj hlj
              go_upto_region 46 with (go_at_call 26; refine HTR.out.mono ?_; rintro e w6 ⟨v6, rfl, hr6, b6⟩; obtain ⟨ao6, n6, ac6, rfl⟩ := hr6.sl; have HL6 := Lib.hid (HL.out.on b6); obtain ⟨e0, e1, f0, f1⟩ := HL6.out.bx)
              have HV := Lib.hid HDV.out.1
              rw [HV.out] at hr6
              have hw6 : ng b (dv D.reverse) = ng b V := by rw [HV.out]
              rw [hw6]
              have HR7 : Hid (Rw ((w6.setCell ⟨w.heap.size + 1, 0, none⟩ (.bool (ng b V))).setCell ⟨w.heap.size + 1, 1, none⟩ (.slice ao6 n6 ac6)) (.slice ao6 n6 ac6) (dgs V)) := Lib.hid (hr6.box HL6.out.bx)
              have HL7 : Hid (Lb ((w6.setCell ⟨w.heap.size + 1, 0, none⟩ (.bool (ng b V))).setCell ⟨w.heap.size + 1, 1, none⟩ (.slice ao6 n6 ac6)) (w.heap.size + 1) (.bool (ng b V)) (.slice ao6 n6 ac6)) := Lib.hid ((HL6.out.set0 _).set1 _)
              have HX7 : Hid (Px w ((w6.setCell ⟨w.heap.size + 1, 0, none⟩ (.bool (ng b V))).setCell ⟨w.heap.size + 1, 1, none⟩ (.slice ao6 n6 ac6))) := Lib.hid ⟨((HPX.out.x.on b6).far (by simp) _).far (by simp) _, ((bT HPX.out.bel b6).setCell (by simp) _).setCell (by simp) _⟩
              generalize hw7 : (w6.setCell ⟨w.heap.size + 1, 0, none⟩ (.bool (ng b V))).setCell ⟨w.heap.size + 1, 1, none⟩ (.slice ao6 n6 ac6) = w7 at HR7 HL7 HX7 ⊢
              clear hw7 hw6 hr6 HV HL6 e0 e1 f0 f1 l0 l1 m0 m1 HL HPX HTR HRD b6 HDV
              obtain rfl : n6 = (dgs V).length := HR7.out.len
              obtain ⟨l0, l1, m0, m1⟩ := HL7.out.bx
              by_cases hV0 : V = 0
              · have hdl : (dgs V).length = 0 := by rw [hV0, dgs_zero]; rfl
                rw [hdl]
                rw [hdl] at l1
                have HPE : Hid (P = .tuple #[nv 0 0, .int .i64 0]) := Lib.hid (by rw [HFIN.out]; unfold fin; rw [if_pos hV0])
                clear hdl
                obtain ⟨x0, x1, x2, x3⟩ := HX7.out.x
                go_wp2
                obtain ⟨z0, z1, _, _⟩ := HX7.out.x.put (.int .i64 0) (.int .i64 0)
                clear x0 x1
                simp [bodyPost, results, Tryz.results14, go_sem, z0, z1]
                exact ⟨by rw [HPE.out]; rfl, (HX7.out.bel.setCell (by simp) _).setCell (by simp) _⟩
              · have hdp : 0 < (dgs V).length := by rw [dgs_pos hV0]; simp
                have hdl : (dgs V).length ≤ 8400 := HVL.out
                obtain ⟨M, hM⟩ : ∃ M, (dgs V).length = M := ⟨_, rfl⟩
                rw [hM] at hdp hdl l1 HR7 HL7 ⊢
                have HM7 := Lib.hid hM
                clear hM
                obtain ⟨bd, hbd⟩ : ∃ bd, decide ((z < -20 ∧ z < -20 - (M : Int)) ∨ z < -100) = bd := ⟨_, rfl⟩
                have HBD := Lib.hid hbd
                clear hbd
                go_upto_region 48 with (fail)
                go_cut [241] (fun t wx => w7 = wx ∧ t = .bool bd)
                case first =>
                  as_aux_lemma =>
                  have hM1 : (0 : Int) < (M : Int) := by omega
                  by_cases p1 : z < -20
                  · by_cases p2 : z < -20 - (M : Int)
                    · have HVV : Hid (bd = true) := Lib.hid (by rw [← HBD.out]; exact decide_eq_true (Or.inl ⟨p1, p2⟩))
                      go_wp2
                      go_meet
                      exact ⟨rfl, by rw [HVV.out]⟩
                    · by_cases p3 : z < -100
                      · have HVV : Hid (bd = true) := Lib.hid (by rw [← HBD.out]; exact decide_eq_true (Or.inr p3))
                        go_wp2
                        go_meet
                        exact ⟨rfl, by rw [HVV.out]⟩
                      · have HVV : Hid (bd = false) := Lib.hid (by rw [← HBD.out]; exact decide_eq_false (fun h => h.elim (fun h => p2 h.2) p3))
                        go_wp2
                        go_meet
                        exact ⟨rfl, by rw [HVV.out]⟩
                  · have p3 : ¬ z < -100 := by omega
                    have HVV : Hid (bd = false) := Lib.hid (by rw [← HBD.out]; exact decide_eq_false (fun h => h.elim (fun h => p1 h.1) p3))
                    go_wp2
                    go_meet
                    exact ⟨rfl, by rw [HVV.out]⟩
                case rest =>
                as_aux_lemma =>
                obtain ⟨rfl, rfl⟩ := hcut
                cases bd
                case true =>
                  have HPE : Hid (P = .tuple #[nv 0 0, .int .i64 8]) := Lib.hid (by rw [HFIN.out]; unfold fin; rw [if_neg hV0, HM7.out, if_pos (of_decide_eq_true HBD.out)])
                  obtain ⟨x0, x1, x2, x3⟩ := HX7.out.x
                  go_wp2
                  obtain ⟨z0, z1, _, _⟩ := HX7.out.x.put (.int .i64 0) (.int .i64 0)
                  clear x0 x1
                  simp [bodyPost, results, Tryz.results14, go_sem, z0, z1]
                  exact ⟨by rw [HPE.out]; rfl, (HX7.out.bel.setCell (by simp) _).setCell (by simp) _⟩
                case false =>
                  have hnb := of_decide_eq_false HBD.out
                  have hz2 : -100 ≤ z := by omega
                  have hans : ∀ oo, P = ans oo → ∃ (c : Int) (sc : Nat) (ok : Bool), numA oo = .tuple #[.agg #[.int .i64 c, .int .i64 (sc : Int)], .bool ok] ∧ P = (if ok = true then .tuple #[.agg #[.int .i64 c, .int .i64 (sc : Int)], .int .i64 0] else .tuple #[nv 0 0, .int .i64 8]) := fun oo h => by
                    rcases ans_split oo with ⟨c, sc, _, hA1, hA2⟩ | ⟨hA1, hA2⟩
                    · exact ⟨c, sc, true, hA1, by rw [if_pos rfl, h, hA2]⟩
                    · exact ⟨0, 0, false, hA1, by rw [if_neg (by simp), h, hA2]; rfl⟩
                  have HNUM : Hid (Calls Tryz.prog 27 #[.agg #[.bool (ng b V), .slice ao6 M ac6], .int .i64 z] w7 fun e w' => ∃ (c : Int) (sc : Nat) (ok : Bool), e = .returned (.tuple #[.agg #[.int .i64 c, .int .i64 (sc : Int)], .bool ok]) ∧ P = (if ok = true then .tuple #[.agg #[.int .i64 c, .int .i64 (sc : Int)], .int .i64 0] else .tuple #[nv 0 0, .int .i64 8]) ∧ Below w7.heap.size w7 w') := Lib.hid (by
                    have hzz : sg b V = sg (ng b V) (dv (dgs V)) := by rw [dv_dgs, ng_pos hV0]
                    have hfin : ∀ (oo : Option (Int × Nat)) (w' : World), P = ans oo → Below w7.heap.size w7 w' → ∃ (c : Int) (sc : Nat) (ok : Bool), Ending.returned (numA oo) = .returned (.tuple #[.agg #[.int .i64 c, .int .i64 (sc : Int)], .bool ok]) ∧ P = (if ok = true then .tuple #[.agg #[.int .i64 c, .int .i64 (sc : Int)], .int .i64 0] else .tuple #[nv 0 0, .int .i64 8]) ∧ Below w7.heap.size w7 w' := fun oo w' h hb => by
                      obtain ⟨c, sc, ok, h1, h2⟩ := hans oo h
                      exact ⟨c, sc, ok, by rw [h1], h2, hb⟩
                    by_cases h0 : 0 ≤ z
                    · obtain ⟨t, rfl⟩ := Int.eq_ofNat_of_zero_le h0
                      refine (num_nonneg (ng b V) (.slice ao6 M ac6) (dgs V) t (sg b V) w7 HR7.out (Dg_dgs V) (by rw [HM7.out]; omega) (by omega) hzz).mono ?_
                      rintro e w' ⟨rfl, hb⟩
                      exact hfin _ _ (by rw [HFIN.out]; unfold fin; rw [if_neg hV0, HM7.out, if_neg hnb, if_pos h0]; rfl) hb
                    · obtain ⟨t, ht⟩ : ∃ t : Nat, z = -(t : Int) := ⟨(-z).toNat, by omega⟩
                      subst ht
                      refine (num_neg (ng b V) (.slice ao6 M ac6) (dgs V) t (sg b V * ((10 ^ t : Nat) : Int)) w7 HR7.out (Dg_dgs V) (by rw [HM7.out]; omega) (by omega) (by omega) (by rw [dv_dgs, ng_pos hV0]; exact sg_pow b V t) (by rw [dv_dgs]; exact hV0)).mono ?_
                      rintro e w' ⟨rfl, hb⟩
                      exact hfin _ _ (by rw [HFIN.out]; unfold fin; rw [if_neg hV0, HM7.out, if_neg hnb, if_neg h0, show (-(-(t : Int))).toNat = t by omega]) hb)
                  clear hnb HFIN HBD HR7 HM7 hans
                  go_upto_region 51 with (go_at_call 27; refine HNUM.out.mono ?_; rintro e w8 ⟨c, sc, ok, rfl, hP, b8⟩)
                  have HX9 : Hid (Px w (w8.alloc (Obj.cells #[.int .i64 c, .int .i64 (sc : Int)] 29))) := Lib.hid ⟨(HX7.out.x.on b8).alloc _, (bT HX7.out.bel b8).alloc (bT HX7.out.bel b8).size _⟩
                  have HN9 : Hid (Bx (w8.alloc (Obj.cells #[.int .i64 c, .int .i64 (sc : Int)] 29)) w8.heap.size (.int .i64 c) (.int .i64 (sc : Int))) := Lib.hid (bxN w8 _ _ _)
                  generalize hw9 : w8.alloc (Obj.cells #[.int .i64 c, .int .i64 (sc : Int)] 29) = w9 at HX9 HN9 ⊢
                  generalize hk9 : w8.heap.size = k9 at HN9 ⊢
                  clear hw9 hk9 b8 HNUM HX7 HL7 l0 l1 m0 m1
                  cases ok
                  case false =>
                    have HPE : Hid (P = .tuple #[nv 0 0, .int .i64 8]) := Lib.hid (by rw [hP]; rfl)
                    clear hP
                    obtain ⟨x0, x1, x2, x3⟩ := HX9.out.x
                    go_wp2
                    obtain ⟨z0, z1, _, _⟩ := HX9.out.x.put (.int .i64 0) (.int .i64 0)
                    clear x0 x1
                    simp [bodyPost, results, Tryz.results14, go_sem, z0, z1]
                    exact ⟨by rw [HPE.out]; rfl, (HX9.out.bel.setCell (by simp) _).setCell (by simp) _⟩
                  case true =>
                    have HPE : Hid (P = .tuple #[.agg #[.int .i64 c, .int .i64 (sc : Int)], .int .i64 0]) := Lib.hid (by rw [hP]; rfl)
                    clear hP
                    obtain ⟨n0, n1, _, _⟩ := HN9.out
                    obtain ⟨x0, x1, x2, x3⟩ := HX9.out.x
                    go_wp2
                    obtain ⟨z0, z1, _, _⟩ := HX9.out.x.put (.int .i64 c) (.int .i64 (sc : Int))
                    clear x0 x1
                    simp [bodyPost, results, Tryz.results14, go_sem, z0, z1]
                    exact ⟨by rw [HPE.out], (HX9.out.bel.setCell (by simp) _).setCell (by simp) _⟩
end Nm
end Go.Proofs.YtpddkchnogfjkaaGreatDoor
