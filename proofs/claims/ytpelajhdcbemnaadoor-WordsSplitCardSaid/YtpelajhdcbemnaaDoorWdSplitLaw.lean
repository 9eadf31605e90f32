/- WordsSplit walked: it answers true for every two texts. -/
import Derived.Test.YtpelajhdcbemnaaDoorWdTimes
import Derived.Test.YtpelajhdcbemnaaDoorUtRSigns
import Derived.Deep.DeepCutAuto
namespace Go.Proofs.YtpelajhdcbemnaaDoor
open Go.RowKit
namespace Wd
open _root_.Go.Proofs.YtpelajhdcbemnaaDoor.Ut
/-- a row of texts of the call's own -/
def Rx (B : Nat) (w : World) (v : Value) (l : List ByteArray) : Prop := w.ownsRow B 9 1 v l.length (txs l) ∧ B ≤ w.heap.size
theorem Rx.nil (B : Nat) (w : World) (h : B ≤ w.heap.size) : Rx B w (.slice none 0 0) [] := ⟨World.ownsRow_nil _ _ _ _, h⟩
theorem Rx.push {B : Nat} {w w' : World} {v v' : Value} {l : List ByteArray} {s : ByteArray} (h : Rx B w v l) (hb : w.heap.size ≤ w'.heap.size) (ho : w'.ownsRow B 9 1 v' (l.length + 1) (txs l ++ [.string s])) : Rx B w' v' (l ++ [s]) := by
  refine ⟨?_, Nat.le_trans h.2 hb⟩
  rw [txs_snoc, List.length_append]
  exact ho
theorem Rx.bel {w0 w w' : World} {v : Value} {l : List ByteArray} {o : Obj} (h : Rx w0.heap.size w v l) (hB : Below w0.heap.size w0 w) (hg : (w.alloc o).grownBy w' v.ownBlock) : Below w0.heap.size w0 w' :=
  (hB.alloc h.2 o).grown hg (by have := h.2; simp; omega) (fun q hq => (h.1.lt q hq).1)
theorem Rx.bel2 {w0 w w' : World} {v : Value} {l : List ByteArray} {o o' : Obj} (h : Rx w0.heap.size w v l) (hB : Below w0.heap.size w0 w) (hg : ((w.alloc o).alloc o').grownBy w' v.ownBlock) : Below w0.heap.size w0 w' :=
  ((hB.alloc h.2 o).alloc (by have := h.2; simp; omega) o').grown hg (by have := h.2; simp; omega) (fun q hq => (h.1.lt q hq).1)
theorem one_text (s : ByteArray) : ∀ u ∈ [Value.string s], u.oneCell' = true := by intro u hu; simp at hu; subst hu; rfl
theorem cells_text (w : World) (s : ByteArray) : ∀ j u, [Value.string s][j]? = some u → (w.alloc (.cells #[.string s] 9)).cell? ((⟨w.heap.size, 0, none⟩ : Addr).add j) = some u := by
  intro j u hj
  have hadd : (⟨w.heap.size, 0, none⟩ : Addr).add j = ⟨w.heap.size, j, none⟩ := by unfold Addr.add; split <;> simp_all
  rw [hadd, cell_of_row _ w.heap.size j #[.string s] 9 (0, 0) (heap_alloc_new w _)]
  simpa using hj
theorem own_below {w w' : World} {B e z n : Nat} {v : Value} {xs : List Value} (hb : Below w.heap.size w w') (h : w.ownsRow B e z v n xs) : w'.ownsRow B e z v n xs := by
  refine ⟨h.1, ?_⟩
  rcases h.2 with h0 | ⟨g, cap, cur, hv, hB, hg, rest⟩
  · exact .inl h0
  · exact .inr ⟨g, cap, cur, hv, hB, (hb.block g (Array.getElem?_eq_some_iff.1 hg).1).trans hg, rest⟩
theorem Rx.on {B : Nat} {w w' : World} {v : Value} {l : List ByteArray} (h : Rx B w v l) (hb : Below w.heap.size w w') : Rx B w' v l := ⟨own_below hb h.1, Nat.le_trans h.2 hb.size⟩
theorem Rx.mono {A B : Nat} {w : World} {v : Value} {l : List ByteArray} (h : Rx B w v l) (hA : A ≤ B) : Rx A w v l := by
  refine ⟨⟨h.1.1, ?_⟩, Nat.le_trans hA h.2⟩
  rcases h.1.2 with h0 | ⟨g, cap, cur, hv, hB, rest⟩
  · exact .inl h0
  · exact .inr ⟨g, cap, cur, hv, Nat.le_trans hA hB, rest⟩
theorem Rx.ts {B : Nat} {w : World} {v : Value} {l : List ByteArray} (h : Rx B w v l) : Ts w v l := own_ts rfl h.1
/-- what the document's Signs answers, its slice in sight -/
theorem refSigns (s : ByteArray) (w : World) (hs : s.size ≤ 1000000000) : Calls Tryd.prog 11 #[.string s] w fun e w' => ∃ ao cap, e = .returned (.tuple #[.slice ao (sgsOf s).length cap, .bool (vldB (byt s))]) ∧
    (0 < (sgsOf s).length → ∃ g, ao = some ⟨g, 0, none⟩ ∧ g < w'.heap.size ∧ ∀ (j c : Nat), (sgsOf s)[j]? = some c → w'.cell? ⟨g, j, none⟩ = some (.int .i64 (c : Nat))) ∧ Below w.heap.size w w' := by
  refine (rsigns_any s w hs).mono ?_
  rintro e w' ⟨v, rfl, ho, hb⟩
  rcases ho.2 with ⟨rfl, hz⟩ | ⟨g, cap, cur, rfl, _, hgg, _⟩
  · exact ⟨none, 0, by rw [hz], fun h0 => by omega, hb⟩
  · refine ⟨_, cap, rfl, fun _ => ⟨g, rfl, (Array.getElem?_eq_some_iff.1 hgg).1, fun j c hj => ?_⟩, hb⟩
    have hj' : (inl (sgsOf s))[j]? = some (.int .i64 (c : Nat)) := by unfold inl; rw [List.getElem?_map, hj]; rfl
    have := ho.cells rfl j _ hj'
    have hadd : (⟨g, 0, none⟩ : Addr).add j = ⟨g, j, none⟩ := by unfold Addr.add; split <;> simp_all
    rw [hadd] at this
    exact this
theorem self_eq (a : ByteArray) : (a.toList == a.toList) = true := by simp
theorem map_tl {a b : List ByteArray} (h : a.map tl = b.map tl) : a = b := by
  induction a generalizing b with
  | nil => cases b with
    | nil => rfl
    | cons y b => simp at h
  | cons x a ih => cases b with
    | nil => simp at h
    | cons y b =>
      simp only [List.map_cons, List.cons.injEq] at h
      rw [tl_inj h.1, ih h.2]
set_option maxRecDepth 100000 in
set_option maxHeartbeats 8000000 in
theorem wordsSplit_any (s p : ByteArray) (w : World) (hs : s.size ≤ maxLen) (hp : p.size ≤ maxLen) (hT : St w) :
    Calls Tryd.prog 4 #[.string s, .string p] w fun e w' => e = .returned (.bool true) ∧ Below w.heap.size w w' := by
  obtain ⟨i0, hi, hz0, hz1, hz2⟩ := info_parts infoS
  unfold maxLen at hs hp
  have HT := Lib.hid hT
  clear hT
  by_cases c1 : 6000 < s.size
  · go_enter Tryd.func4, Tryd.ntmps4
    go_wp2_with (go_at_call 8; refine (lives_any _ HT.out).mono ?_; rintro e w1 ⟨rfl, b1⟩)
    go_ret
    exact ⟨rfl, b1⟩
  by_cases c2 : 100 < p.size
  · go_enter Tryd.func4, Tryd.ntmps4
    go_wp2_with (go_at_call 8; refine (lives_any _ HT.out).mono ?_; rintro e w1 ⟨rfl, b1⟩)
    go_ret
    exact ⟨rfl, b1⟩
  go_enter Tryd.func4, Tryd.ntmps4
  go_upto_region 4 with (fail)
  go_cut [24] (fun s24 wx => w = wx ∧ ∃ q : Bool, s24 = .bool q ∧ Hid (q = decide (p.size = 0)))
  case first =>
    by_cases h0 : p.size = 0
    · have he : p.toList.isEmpty = true := by
        have := tl_nil.2 h0
        rw [ByteArray.toList_eq]
        unfold tl at this
        rw [this]
        rfl
      go_wp2
      go_meet
      exact ⟨rfl, _, rfl, Lib.hid (by simp [h0])⟩
    · have he : p.toList.isEmpty = false := by
        cases hh : p.toList with
        | nil => exact absurd (tl_nil.1 (by rw [ByteArray.toList_eq] at hh; exact hh)) h0
        | cons x r => rfl
      go_wp2
      go_meet
      exact ⟨rfl, _, rfl, Lib.hid (by simp [h0])⟩
  case rest =>
  obtain ⟨rfl, q, rfl, HQ⟩ := hcut
  go_upto_if 24 with (fail)
  go_cut [5] (fun v wx => Hid (Rx w.heap.size wx v (spl s p) ∧ Below w.heap.size w wx))
  case first =>
    cases q with
    | true =>
      have h0 : p.size = 0 := by have := HQ.out; simpa using this
      have hsp := spl_signs (s := s) h0
      have HSP := Lib.hid hsp
      have hrs := refSigns s w (by omega)
      have hln := sgsOf_len s
      have hsg := sgsOf_sg s
      have hvl : vldB (byt s) = false → (sgsOf s).length = 0 := by
        intro h
        cases hh : sigs (byt s) with
        | none => rw [sgsOf_none hh]; rfl
        | some cs => rw [vldB_some hh] at h; cases h
      generalize vldB (byt s) = ok at hrs hvl
      generalize sgsOf s = cs at hrs hln hsg hvl HSP
      have HSG := Lib.hid hsg
      have HVL := Lib.hid hvl
      clear hsp hsg hvl
      go_upto_region 7 with (go_at_call 11; refine hrs.mono ?_; rintro e w2 ⟨ao, cap, rfl, ho, b2⟩)
      have HB2 := Lib.hid b2
      have HO := Lib.hid ho
      clear b2 ho hrs
      go_loopw [5, 8] (fun v i wr => ∃ k : Nat, i = .int .i64 k ∧ k ≤ cs.length ∧ Hid (Rx w2.heap.size wr v (sgn (cs.take k))) ∧ Hid (Below w2.heap.size w2 wr)) (fun _ i _ => cs.length - (intOf i).toNat)
      case atStart => exact ⟨0, rfl, by omega, Lib.hid (Rx.nil _ _ (Nat.le_refl _)), Lib.hid (Below.refl _ _)⟩
      case round =>
        obtain ⟨k, rfl, hk, HR, HBL⟩ := hrel
        have hend : cs.length ≤ k → Hid (Rx w.heap.size wr u5 (spl s p) ∧ Below w.heap.size w wr) := fun h => by
          have h1 := HR.out
          rw [List.take_of_length_le h, ← HSP.out] at h1
          exact Lib.hid ⟨h1.mono HB2.out.size, HB2.out.trans (HBL.out.mono HB2.out.size)⟩
        have HEND := Lib.hid hend
        clear hend
        cases ok with
        | false =>
          have hz := HVL.out rfl
          go_wp2
          go_meet
          exact HEND.out (by omega)
        | true =>
          by_cases hlt : k < cs.length
          · obtain ⟨g, rfl, hg, hcell⟩ := HO.out (by omega)
            obtain ⟨c, hc⟩ : ∃ c, cs[k]? = some c := ⟨_, List.getElem?_eq_getElem hlt⟩
            have hcl : wr.cell? ⟨g, k, none⟩ = some (.int .i64 (c : Nat)) := (HBL.out.cell (p := ⟨g, k, none⟩) hg).trans (hcell k c hc)
            have hsg : Sg c := HSG.out c (List.mem_of_getElem? hc)
            have hc2 : c < 1114112 := by unfold Sg at hsg; omega
            have hsn := sgn_snoc hc
            have hlk : (sgn (cs.take k)).length = k := by rw [sgn_len, List.length_take]; omega
            have hpl := put_len c
            have hpa := put_any c wr hc2
            obtain ⟨P, hP⟩ : ∃ P, put c = P := ⟨_, rfl⟩
            rw [hP] at hpa hsn hpl
            have hcv := conv_put wr P P.length rfl (by unfold maxLen; omega)
            obtain ⟨T, hTT⟩ : ∃ T, str P = T := ⟨_, rfl⟩
            rw [hTT] at hcv hsn
            have HSN := Lib.hid hsn
            have HLK := Lib.hid hlk
            clear hsg hc hP hTT hsn hlk hcell
            go_wp2_with (first | (go_at_call 12; refine hpa.mono ?_; rintro e w' ⟨rfl, rfl⟩) | (at_builtin; refine wpList_append_own _ rfl _ _ 22 rfl w2.heap.size 9 i0 (.string ⟨#[]⟩) 1 16 Tryd.underlying22 hi hz0 hz1 hz2 rfl (by decide) _ _ _ rfl ((HR.out.1.alloc _).alloc _) ⟨wr.heap.size + 1, 0, none⟩ 1 1 [.string T] rfl rfl ?p1 (one_text _) ?p3 ?p4 ?p5 ?p6))
            case p1 =>
              have h := cells_text (wr.alloc (.cells (cel P).toArray 5)) T
              rw [show (wr.alloc (.cells (cel P).toArray 5)).heap.size = wr.heap.size + 1 by simp] at h
              exact h
            case p3 => unfold maxLen; have := HLK.out; omega
            case p4 => have := HLK.out; omega
            case p5 => have := HBL.out.size; simp; omega
            case p6 =>
              intro v' w3 hown' hgrow _
              have hb3 := HR.out.bel2 HBL.out hgrow
              have HBL' : Hid (Below w2.heap.size w2 w3) := Lib.hid hb3
              have HR' : Hid (Rx w2.heap.size w3 v' (sgn (cs.take (k + 1)))) := Lib.hid (by rw [HSN.out]; exact ⟨by rw [txs_snoc, List.length_append]; exact hown', hb3.size⟩)
              clear hown' hgrow hb3
              go_wp2
              go_roundw
              case rel => exact ⟨k + 1, by go_num, by omega, HR', HBL'⟩
              case measure => simp [intOf]; omega
          · go_wp2
            go_meet
            exact HEND.out (by omega)
    | false =>
      have h0 : ¬ p.size = 0 := by have := HQ.out; simpa using this
      have hne : tl p ≠ [] := fun e => h0 (tl_nil.1 e)
      have hpp := spl_ps (s := s) (p := p) (by omega)
      have HPP := Lib.hid hpp
      have HNE := Lib.hid hne
      clear hpp hne
      go_upto_region 12 with (fail)
      go_loopw [5, 9, 10] (fun v f i wr => ∃ (F I : Nat) (l : List ByteArray), f = .int .i64 F ∧ i = .int .i64 I ∧ F ≤ I ∧ I ≤ s.size + 1 ∧ F ≤ s.size ∧ l.length ≤ I ∧ Hid (Sc (tl s) (tl p) F I (l.map tl)) ∧ Hid (Rx w.heap.size wr v l) ∧ Hid (Below w.heap.size w wr)) (fun _ _ i _ => s.size + 1 - (intOf i).toNat)
      case atStart => exact ⟨0, 0, [], rfl, rfl, by omega, by omega, by omega, by simp, Lib.hid (Sc.start _ _), Lib.hid (Rx.nil _ _ (Nat.le_refl _)), Lib.hid (Below.refl _ _)⟩
      case round =>
        obtain ⟨F, I, l, rfl, rfl, hFI, hI, hF, hll, HS, HR, HBL⟩ := hrel
        by_cases hlt : I ≤ s.size
        · have hat := at_any s p I wr (by omega) (by omega) (by omega) (by omega)
          have hhit : atL (tl s) (tl p) I = true → I + p.size ≤ s.size ∧ Sc (tl s) (tl p) (I + p.size) (I + p.size) (l.map tl ++ [((tl s).drop F).take (I - F)]) := fun h => by
            have := HS.out.hit HNE.out (by rw [tl_len]; exact hlt) h
            rw [tl_len, tl_len] at this
            exact this
          have hmis : atL (tl s) (tl p) I = false → Sc (tl s) (tl p) F (I + 1) (l.map tl) := fun h => HS.out.miss (by rw [tl_len]; exact hlt) h
          have HHIT := Lib.hid hhit
          have HMIS := Lib.hid hmis
          clear hhit hmis
          generalize atL (tl s) (tl p) I = b at hat HHIT HMIS
          cases b with
          | false =>
            have HS' := Lib.hid (HMIS.out rfl)
            clear HHIT HMIS
            go_wp2_with (go_at_call 13; refine hat.mono ?_; rintro e w' ⟨rfl, rfl⟩)
            go_roundw
            case rel => exact ⟨F, I + 1, l, by trivial, by go_num, by omega, by omega, by omega, by omega, HS', HR, HBL⟩
            case measure => simp [intOf]; omega
          | true =>
            obtain ⟨hroom, hsc⟩ := HHIT.out rfl
            have htl : tl (s.extract F I) = ((tl s).drop F).take (I - F) := by rw [tl_ext, List.drop_take]
            rw [← htl] at hsc
            obtain ⟨T, hTT⟩ : ∃ T, s.extract F I = T := ⟨_, rfl⟩
            rw [hTT] at hsc
            have HTT := Lib.hid hTT
            have HS' : Hid (Sc (tl s) (tl p) (I + p.size) (I + p.size) ((l ++ [T]).map tl)) := Lib.hid (by rw [List.map_append]; exact hsc)
            clear hsc htl HHIT HMIS hTT
            go_wp2_with (first | (go_at_call 13; refine hat.mono ?_; rintro e w' ⟨rfl, rfl⟩) | (rw [HTT.out]; at_builtin; refine wpList_append_own _ rfl _ _ 22 rfl w.heap.size 9 i0 (.string ⟨#[]⟩) 1 16 Tryd.underlying22 hi hz0 hz1 hz2 rfl (by decide) _ _ _ rfl (HR.out.1.alloc _) ⟨wr.heap.size, 0, none⟩ 1 1 [.string T] rfl rfl ?q1 (one_text _) ?q3 ?q4 ?q5 ?q6))
            case q1 => exact cells_text wr T
            case q3 => unfold maxLen; omega
            case q4 => omega
            case q5 => have := HBL.out.size; simp; omega
            case q6 =>
              intro v' w3 hown' hgrow _
              have hb3 := HR.out.bel HBL.out hgrow
              have HBL' : Hid (Below w.heap.size w w3) := Lib.hid hb3
              have HR' : Hid (Rx w.heap.size w3 v' (l ++ [T])) := Lib.hid ⟨by rw [txs_snoc, List.length_append]; exact hown', hb3.size⟩
              have hl1 : (l ++ [T]).length = l.length + 1 := by simp
              clear hown' hgrow hb3
              have hp1 : 1 ≤ p.size := by omega
              go_wp2
              go_roundw
              case rel => exact ⟨I + p.size, I + p.size, l ++ [T], by go_num, by go_num, by omega, by omega, by omega, by omega, HS', HR', HBL'⟩
              case measure => simp [intOf]; omega
        · have hdn := HS.out.done HNE.out (by rw [tl_len]; omega)
          have htl : tl (s.extract F s.size) = (tl s).drop F := by rw [tl_ext, List.take_of_length_le (by rw [tl_len]; omega)]
          rw [← htl] at hdn
          obtain ⟨T, hTT⟩ : ∃ T, s.extract F s.size = T := ⟨_, rfl⟩
          rw [hTT] at hdn
          have HTT := Lib.hid hTT
          have hspl : spl s p = l ++ [T] := map_tl (by rw [HPP.out, hdn, List.map_append]; rfl)
          have HSPL := Lib.hid hspl
          clear hdn htl hTT hspl
          go_wp2_with (rw [HTT.out]; at_builtin; refine wpList_append_own _ rfl _ _ 22 rfl w.heap.size 9 i0 (.string ⟨#[]⟩) 1 16 Tryd.underlying22 hi hz0 hz1 hz2 rfl (by decide) _ _ _ rfl (HR.out.1.alloc _) ⟨wr.heap.size, 0, none⟩ 1 1 [.string T] rfl rfl ?r1 (one_text _) ?r3 ?r4 ?r5 ?r6)
          case r1 => exact cells_text wr T
          case r3 => unfold maxLen; omega
          case r4 => omega
          case r5 => have := HBL.out.size; simp; omega
          case r6 =>
            intro v' w3 hown' hgrow _
            have hb3 := HR.out.bel HBL.out hgrow
            have HFIN : Hid (Rx w.heap.size w3 v' (spl s p) ∧ Below w.heap.size w w3) := Lib.hid (by rw [HSPL.out]; exact ⟨⟨by rw [txs_snoc, List.length_append]; exact hown', hb3.size⟩, hb3⟩)
            clear hown' hgrow hb3
            go_wp2
            go_meet
            exact HFIN
  case rest =>
  clear HQ
  obtain ⟨hrx, hbx⟩ := hcut.out
  have hsp := split_any s p wc (by omega) (by omega) (HT.out.on hbx)
  have HRX := Lib.hid hrx
  have HBX := Lib.hid hbx
  clear hrx hbx hcut
  unfold SpP at hsp
  generalize spl s p = L at hsp HRX
  obtain ⟨ao, cap, hu5, _, h5⟩ := HRX.out.ts
  have H5 := Lib.hid h5
  subst hu5
  clear h5
  go_upto_region 20 with (go_at_call 14; refine hsp.mono ?_; rintro e w3 ⟨b3, hq⟩; have HB3 := Lib.hid b3; clear b3; rcases hq with ⟨hle, v, rfl, hv⟩ | ⟨hgt, rfl⟩)
  · obtain ⟨ao2, cap2, rfl, _, h6⟩ := hv
    have H6 := Lib.hid h6
    clear h6 hsp
    go_upto_region 25 with (fail)
    go_loopw [13] (fun i wr => ∃ k : Nat, i = .int .i64 k ∧ k ≤ L.length ∧ Hid (Below w3.heap.size w3 wr)) (fun i _ => L.length - (intOf i).toNat)
    case atStart => exact ⟨0, rfl, by omega, Lib.hid (Below.refl _ _)⟩
    case round =>
      obtain ⟨k, rfl, hk, HB4⟩ := hrel
      by_cases hlt : k < L.length
      · obtain ⟨x, hx⟩ : ∃ x, L[k]? = some x := ⟨_, List.getElem?_eq_getElem hlt⟩
        obtain ⟨g1, o1, rfl, hg1, hc1⟩ := H5.out (by omega)
        obtain ⟨g2, o2, rfl, hg2, hc2⟩ := H6.out (by omega)
        have e1 : wr.cell? ⟨g1, o1 + k, none⟩ = some (.string x) := (HB4.out.cell (p := ⟨g1, o1 + k, none⟩) (Nat.lt_of_lt_of_le hg1 HB3.out.size)).trans ((HB3.out.cell (p := ⟨g1, o1 + k, none⟩) hg1).trans (hc1 k x hx))
        have e2 : wr.cell? ⟨g2, o2 + k, none⟩ = some (.string x) := (HB4.out.cell (p := ⟨g2, o2 + k, none⟩) hg2).trans (hc2 k x hx)
        have i1 : (k : Int) < (L.length : Int) := by omega
        have hself := self_eq x
        clear hc1 hc2 hx
        go_wp2
        go_quiet (fail)
        go_wp2
        go_roundw
        case rel => exact ⟨k + 1, by go_num, by omega, Lib.hid (Ut.bel_drewN HB4.out _)⟩
        case measure => simp [intOf]; omega
      · have hb4 : Below w.heap.size w wr := HBX.out.trans ((HB3.out.trans (HB4.out.mono HB3.out.size)).mono HBX.out.size)
        have HB5 := Lib.hid hb4
        clear hb4
        go_wp2_with (go_at_call 8; refine (lives_any _ (HT.out.on HB5.out)).mono ?_; rintro e w6 ⟨rfl, b6⟩)
        go_ret
        exact ⟨rfl, HB5.out.trans (b6.mono HB5.out.size)⟩
  · have hb4 : Below w.heap.size w w3 := HBX.out.trans (HB3.out.mono HBX.out.size)
    have HB5 := Lib.hid hb4
    clear hb4 hsp
    go_wp2_with (go_at_call 8; refine (lives_any _ (HT.out.on HB5.out)).mono ?_; rintro e w6 ⟨rfl, b6⟩)
    go_ret
    exact ⟨rfl, HB5.out.trans (b6.mono HB5.out.size)⟩
end Wd
end Go.Proofs.YtpelajhdcbemnaaDoor
