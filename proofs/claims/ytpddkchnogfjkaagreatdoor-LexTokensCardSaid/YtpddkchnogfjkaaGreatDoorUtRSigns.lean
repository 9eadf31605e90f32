/- What the document's Signs answers, of every string. -/
import Derived.Test.YtpddkchnogfjkaaGreatDoorUtMem
import Derived.Test.YtpddkchnogfjkaaGreatDoorUtRefMath
import Derived.Deep.QuietTactic
import Derived.BigQuiet
import Derived.BigRegion
import Derived.RegionTactic
import Derived.ChangeAlike
import Derived.Deep.RegionHeld3
import Derived.Deep.DeepCutAuto
import Derived.IntWalk
namespace Go.Proofs.YtpddkchnogfjkaaGreatDoor
open Go.RowKit
namespace Ut
/-- numbers as cells of ints -/
def inl (l : List Nat) : List Value := l.map fun x => Value.int .i64 (x : Nat)
theorem inl_snoc (l : List Nat) (c : Nat) : inl (l ++ [c]) = inl l ++ [.int .i64 (c : Nat)] := by unfold inl; simp
theorem inl_len (l : List Nat) : (inl l).length = l.length := by unfold inl; simp
/-- what Signs answers -/
def SigsPost (s : ByteArray) (w : World) (e : Ending) (w' : World) : Prop :=
  ∃ v, e = .returned (.tuple #[v, .bool (vldB (byt s))]) ∧ w'.ownsRow w.heap.size 3 1 v (sgsOf s).length (inl (sgsOf s)) ∧ Below w.heap.size w w'
theorem SigsPost.no {s : ByteArray} {w w' : World} (h : sigs (byt s) = none) (hb : Below w.heap.size w w') : SigsPost s w (.returned (.tuple #[.slice none 0 0, .bool false])) w' := by
  refine ⟨_, by rw [vldB_none h], ?_, hb⟩
  rw [sgsOf_none h]; exact World.ownsRow_nil _ _ _ _
theorem byt_dropD (s : ByteArray) (k j : Nat) (h : k + j < s.size) : ((byt s).drop k).getD j 0 = s[k + j].toNat := by
  rw [List.getD_eq_getElem?_getD, List.getElem?_drop, byt_get s (k + j) h]; rfl
structure SigsRel (s : ByteArray) (w : World) (k : Nat) (cs : List Nat) (v : Value) (wr : World) : Prop where
  rd : Read s k cs
  own : wr.ownsRow w.heap.size 3 1 v cs.length (inl cs)
  bel : Below w.heap.size w wr
theorem no_sign {r : List Nat} (h : ¬ (r.getD 0 0 < 248 ∧ (r.getD 0 0 < 128 ∨ 192 ≤ r.getD 0 0) ∧ nb (r.getD 0 0) ≤ r.length ∧
    Ct r (nb (r.getD 0 0)) ∧ Sg (acc r (nb (r.getD 0 0))) ∧ put (acc r (nb (r.getD 0 0))) = r.take (nb (r.getD 0 0)))) : sgl r = 0 :=
  Classical.byContradiction fun h0 => h (dec_is h0)
theorem own_drewN {w : World} {B n : Nat} {v : Value} {xs : List Value} {e z : Nat} (h : w.ownsRow B e z v n xs) (k : Nat) : (w.drewN k).ownsRow B e z v n xs := h
theorem bel_drewN {B : Nat} {a w : World} (h : Below B a w) (k : Nat) : Below B a (w.drewN k) := ⟨h.os, h.tape, h.output, h.size, h.block⟩
theorem conv_put_drew (w : World) (l : List Nat) (n : Nat) (hn : l.length = n) (hl : l.length ≤ maxLen) :
    (convert 53 9 (.slice (some ⟨w.heap.size, 0, none⟩) n n)).run Tryz.prog (w.alloc (.cells (cel l).toArray 5)).drew = .ok (.string (str l)) (w.alloc (.cells (cel l).toArray 5)).drew := conv_put w.drew l n hn hl
theorem take_put {P : Program} {md : Region.Mode} {ops : Array Oper} {Q : Exit → Act → World → Prop} {S : World → Prop} {i d : Nat} {oi : Oper} {v : Value} {fuel : Nat} {listed : Array Bool} {a : Act} {w : World} (hi : ops[i]? = some oi) (hd : oi.dst = some d)
    (hs : Region.noSelect ops = true) (hf : Region.free md ops listed i = true) (hr : (Region.ready md ops listed).contains i = true)
    (hQ : ∀ c a w, Q (.panic c) (a.put (some d) v) w → Q (.panic c) a w) (hy : YieldsIf P ops S oi v a) (hS : S w)
    (h : wpAnyH P md ops Q S fuel (listed.setIfInBounds i true) (a.put (some d) v) w) : wpAnyH P md ops Q S (fuel + 1) listed a w :=
  wpAnyH_take hi hs hf hr (by rw [hd]; exact hQ) hy hS (by rw [hd]; exact h)
theorem toL_eq {s t : ByteArray} : (s.toList == t.toList) = true ↔ s = t := by
  rw [beq_iff_eq, ByteArray.toList_eq, ByteArray.toList_eq]
  constructor
  · intro h
    obtain ⟨⟨x⟩⟩ := s
    obtain ⟨⟨y⟩⟩ := t
    simpa using h
  · rintro rfl
    rfl
theorem sign_test {s : ByteArray} {c k j : Nat} {p r : List Nat} (HP : Hid (put c = p)) (HR : Hid ((byt s).drop k = r)) (hc : Sg c) :
    (!(str p).toList == (s.extract k (k + j)).toList) = false ↔ Sg c ∧ put c = r.take j := by
  have hp : ∀ x ∈ p, x < 256 := by rw [← HP.out]; exact put_lt hc
  have e : byt (s.extract k (k + j)) = r.take j := by rw [byt_ext, List.drop_take, HR.out, Nat.add_sub_cancel_left]
  rw [Bool.not_eq_false', toL_eq, HP.out]
  constructor
  · intro h; exact ⟨hc, by rw [← e, ← h, byt_str hp]⟩
  · rintro ⟨_, h⟩; apply byt_inj; rw [byt_str hp, e, h]
theorem nb_bd (b : Nat) : 1 ≤ nb b ∧ nb b ≤ 4 := by
  unfold nb; split; · omega
  split; · omega
  split <;> omega
set_option maxRecDepth 100000 in
set_option maxHeartbeats 4000000 in
theorem rsigns_any (s : ByteArray) (w : World) (hs : s.size ≤ 1000000000) : Calls Tryz.prog 31 #[.string s] w (SigsPost s w) := by
  obtain ⟨i0, hi, hz0, hz1, hz2⟩ := info_parts info_i
  go_enter Tryz.func31, Tryz.ntmps31
  go_wp2
  go_loopw [4, 5] (fun v i wr => ∃ (k : Nat) (cs : List Nat), i = .int .i64 k ∧ SigsRel s w k cs v wr) (fun _ i _ => s.size - (intOf i).toNat)
  case atStart => exact ⟨0, [], rfl, Read.start s, World.ownsRow_nil _ _ _ _, Below.refl _ _⟩
  case round =>
    obtain ⟨k, cs, rfl, hrel⟩ := hrel
    obtain ⟨wo, hwo⟩ : ∃ wo : World, wo = wr := ⟨_, rfl⟩
    subst hwo
    have hk := hrel.rd.le
    have HR := Lib.hid hrel
    clear hrel
    by_cases hlt : k < s.size
    · obtain ⟨b, hb⟩ : ∃ b, s[k].toNat = b := ⟨_, rfl⟩
      have hb256 : b < 256 := by rw [← hb]; exact s[k].toNat_lt
      have hb0 := byt_dropD s k 0 hlt
      simp only [Nat.add_zero] at hb0
      rw [hb] at hb0
      have HB0 := Lib.hid hb0
      have hrl : ((byt s).drop k).length = s.size - k := by rw [List.length_drop, byt_len]
      have HRL := Lib.hid hrl
      clear hb0 hrl
      obtain ⟨r, hr⟩ : ∃ r, (byt s).drop k = r := ⟨_, rfl⟩
      rw [hr] at HB0 HRL
      have HRR := Lib.hid hr
      have no : sgl r = 0 → ∀ wx, Below w.heap.size wo wx → SigsPost s w (.returned (.tuple #[.slice none 0 0, .bool false])) wx := fun h0 wx hx => SigsPost.no (HR.out.rd.stop hlt (by rw [HRR.out]; exact h0)) (HR.out.bel.trans hx)
      have NO := Lib.hid no
      clear hr no
      by_cases b1 : 248 ≤ b
      · go_wp2
        exact bodyPost_ret (v := .tuple #[.slice none 0 0, .bool false]) (by simp [results, Tryz.results31, go_sem]) rfl (NO.out (no_sign (by rw [HB0.out]; rintro ⟨_, _⟩; omega)) _ (Below.refl _ _))
      by_cases b2 : 128 ≤ b ∧ b < 192
      · obtain ⟨b3, b4⟩ := b2
        go_wp2
        exact bodyPost_ret (v := .tuple #[.slice none 0 0, .bool false]) (by simp [results, Tryz.results31, go_sem]) rfl (NO.out (no_sign (by rw [HB0.out]; rintro ⟨_, _, _⟩; omega)) _ (Below.refl _ _))
      have hbok : b < 128 ∨ 192 ≤ b := by omega
      have HBOK := Lib.hid hbok
      clear b2 hbok
      go_upto_region 6 with (fail)
      go_cut [25] (fun s25 wx => wo = wx ∧ ∃ q : Bool, s25 = .bool q ∧ Hid (q = decide (240 ≤ b)))
      case first =>
        by_cases g1 : 240 ≤ b
        · go_wp2
          go_meet
          exact ⟨rfl, _, rfl, Lib.hid (by simp [g1]; omega)⟩
        · go_wp2
          go_meet
          exact ⟨rfl, _, rfl, Lib.hid (by simp [g1])⟩
      case rest =>
      obtain ⟨rfl, q, rfl, HQ⟩ := hcut
      go_upto_if 25 with (fail)
      go_cut [7, 8] (fun s7 s8 wx => wo = wx ∧ ∃ (n : Nat) (x : Int), s7 = .int .i64 n ∧ s8 = .int .i64 x ∧ Hid (n = nb b) ∧ Hid (x = c0 b))
      case first =>
        have HBK := HBOK.out
        have hq := HQ.out
        by_cases g1 : 240 ≤ b
        · simp only [g1, decide_true] at hq
          subst hq
          go_wp2
          go_meet
          exact ⟨rfl, 4, (b : Int) - 240, rfl, rfl, Lib.hid (by unfold nb; rw [if_pos g1]), Lib.hid (by unfold c0; rw [if_pos g1]; omega)⟩
        simp only [g1, decide_false] at hq
        subst hq
        by_cases g2 : 224 ≤ b
        · go_wp2
          go_meet
          exact ⟨rfl, 3, (b : Int) - 224, rfl, rfl, Lib.hid (by unfold nb; rw [if_neg g1, if_pos g2]), Lib.hid (by unfold c0; rw [if_neg g1, if_pos g2]; omega)⟩
        by_cases g3 : 192 ≤ b
        · go_wp2
          go_meet
          exact ⟨rfl, 2, (b : Int) - 192, rfl, rfl, Lib.hid (by unfold nb; rw [if_neg g1, if_neg g2, if_pos g3]), Lib.hid (by unfold c0; rw [if_neg g1, if_neg g2, if_pos g3]; omega)⟩
        · go_wp2
          go_meet
          exact ⟨rfl, 1, (b : Int), rfl, rfl, Lib.hid (by unfold nb; rw [if_neg g1, if_neg g2, if_neg g3]), Lib.hid (by unfold c0; rw [if_neg g1, if_neg g2, if_neg g3])⟩
      case rest =>
        obtain ⟨rfl, n, x0, rfl, rfl, HN, HX0⟩ := hcut
        have hn14 : 1 ≤ n ∧ n ≤ 4 := by rw [HN.out]; exact nb_bd b
        obtain ⟨hn1, hn4⟩ := hn14
        go_upto_region 12 with (fail)
        go_cut [53] (fun s53 wx => wo = wx ∧ ∃ q : Bool, s53 = .bool q ∧ Hid (q = decide (s.size < k + n)))
        case first =>
          rcases HBOK.out with g | g <;> by_cases hl : s.size < k + n <;> go_wp2 <;> go_meet
          all_goals exact ⟨rfl, _, rfl, Lib.hid (by rw [Bool.eq_iff_iff]; simp only [Bool.or_eq_true, decide_eq_true_eq]; omega)⟩
        case rest =>
        obtain ⟨rfl, q, rfl, HQ⟩ := hcut
        have hq := HQ.out
        by_cases hl : s.size < k + n
        · simp only [hl, decide_true] at hq
          subst hq
          go_wp2
          exact bodyPost_ret (v := .tuple #[.slice none 0 0, .bool false]) (by simp [results, Tryz.results31, go_sem]) rfl (NO.out (no_sign (by rw [HB0.out, ← HN.out, HRL.out]; rintro ⟨_, _, _, _⟩; omega)) _ (Below.refl _ _))
        simp only [hl, decide_false] at hq
        subst hq
        go_wp2
        go_loop [8, 9, 10] (fun c j d => ∃ (j' : Nat) (x : Int), j = .int .i64 j' ∧ c = .int .i64 x ∧ 1 ≤ j' ∧ j' ≤ n ∧ Hid (x = acc r j') ∧ Hid (Ct r j')) (fun _ j _ => n - (intOf j).toNat)
        case atStart => exact ⟨1, x0, rfl, rfl, by omega, by omega, Lib.hid (by rw [HX0.out]; show _ = ((c0 _ : Nat) : Int); rw [HB0.out]), Lib.hid (Ct.one _)⟩
        case round =>
          obtain ⟨j, x, rfl, rfl, hj1, hj2, HX, HCT⟩ := hrel
          have hxb : 0 ≤ x ∧ x ≤ 100000000 := by have := acc_bd (by rw [HB0.out]; have := HBOK.out; omega) HCT.out hj1 (by omega); have := HX.out; omega
          obtain ⟨hx0, hx1⟩ := hxb
          by_cases hj : j < n
          · obtain ⟨d, hd⟩ : ∃ d, s[k + j].toNat = d := ⟨_, rfl⟩
            have hd256 : d < 256 := by rw [← hd]; exact s[k + j].toNat_lt
            have hdr := byt_dropD s k j (by omega)
            rw [HRR.out, hd] at hdr
            have HD := Lib.hid hdr
            clear hdr
            by_cases d1 : d < 128
            · go_wp2
              exact bodyPost_ret (v := .tuple #[.slice none 0 0, .bool false]) (by simp [results, Tryz.results31, go_sem]) rfl (NO.out (no_sign (by rw [HB0.out, ← HN.out]; rintro ⟨_, _, _, h, _⟩; have := h j hj1 hj; rw [HD.out] at this; omega)) _ (Below.refl _ _))
            by_cases d2 : 191 < d
            · go_wp2
              exact bodyPost_ret (v := .tuple #[.slice none 0 0, .bool false]) (by simp [results, Tryz.results31, go_sem]) rfl (NO.out (no_sign (by rw [HB0.out, ← HN.out]; rintro ⟨_, _, _, h, _⟩; have := h j hj1 hj; rw [HD.out] at this; omega)) _ (Below.refl _ _))
            · go_wp2
              go_round
              case rel => exact ⟨j + 1, 64 * x + d - 128, by go_num, rfl, by omega, by omega, Lib.hid (by rw [acc_succ r j hj1, HD.out]; have := HX.out; omega), Lib.hid (HCT.out.snoc (by rw [HD.out]; omega) (by rw [HD.out]; omega))⟩
              case measure => simp [intOf]; omega
          · obtain rfl : j = n := by omega
            go_upto_region 21 with (fail)
            obtain ⟨c, hc⟩ : ∃ c : Nat, x = c := ⟨x.toNat, by omega⟩
            subst hc
            have hu4 : SigsRel s w k cs u4 wo := HR.out
            go_cut [97] (fun s97 wx => SigsRel s w k cs u4 wx ∧ Below w.heap.size wo wx ∧ ∃ q : Bool, s97 = .bool q ∧ Hid (q = false ↔ Sg c ∧ put c = r.take j))
            case first =>
              by_cases e1 : 1114111 < (c : Int)
              · have e1' : decide (1114111 < (c : Int)) = true := by simp; omega
                go_quiet (fail)
                go_wp2
                go_meet
                exact ⟨⟨hu4.rd, own_drewN hu4.own _, bel_drewN hu4.bel _⟩, bel_drewN (Below.refl _ _) _, _, rfl, Lib.hid (by unfold Sg; simp; omega)⟩
              have e1' : decide (1114111 < (c : Int)) = false := by simp; omega
              by_cases e2 : 55296 ≤ (c : Int) ∧ (c : Int) < 57344
              · have e2' : decide (55296 ≤ (c : Int)) = true := by simp; omega
                have e3' : decide ((c : Int) < 57344) = true := by simp; omega
                go_quiet (fail)
                go_wp2
                go_meet
                exact ⟨⟨hu4.rd, own_drewN hu4.own _, bel_drewN hu4.bel _⟩, bel_drewN (Below.refl _ _) _, _, rfl, Lib.hid (by unfold Sg; simp; omega)⟩
              have hsg : Sg c := by unfold Sg; omega
              have hpl := put_len c
              obtain ⟨p, hp⟩ : ∃ p, put c = p := ⟨_, rfl⟩
              have hpa := fun w => put_any c w (by omega)
              rw [hp] at hpa hpl
              have HP := Lib.hid hp
              clear hp
              have hcv := fun w => conv_put_drew w p p.length rfl (by unfold maxLen; omega)
              have hsum : IntKind.i64.wrap ((k : Int) + (j : Int)) = (k : Int) + (j : Int) := IntWalk.i64_in _ (by omega)
              have h19a : (0 : Int) ≤ (k : Int) + (j : Int) := by omega
              have h19b : (k : Int) + (j : Int) ≤ (s.size : Int) := by omega
              have h19c : (k : Int) ≤ (k : Int) + (j : Int) := by omega
              have h19d : ((k : Int) + (j : Int)).toNat = k + j := by omega
              by_cases hx55 : 55296 ≤ (c : Int)
              · have hx56 : decide (55296 ≤ (c : Int)) = true := by simp; omega
                have hx57 : decide ((c : Int) < 57344) = false := by simp; omega
                refine wp_region_held_drew (S := fun _ => True) (by kernel_rfl) trivial (fun hHeld => ?_)
                refine take_put (i := 0) (d := 76) (oi := _) (v := ?v0) rfl rfl (by kernel_rfl) (by kernel_rfl) (by kernel_rfl) (fun _ _ _ h => h) (Or.inl ⟨by rfl, ?y0⟩) hHeld ?r0
                case y0 => (intro w hSw; (try dsimp only at hSw); go_simp; try with_reducible rfl)
                simp only [Act.put, List.setIfInBounds_toArray, List.set_cons_zero, List.set_cons_succ]
                refine take_put (i := 1) (d := 77) (oi := _) (v := ?v1) rfl rfl (by kernel_rfl) (by kernel_rfl) (by kernel_rfl) (fun _ _ _ h => h) (Or.inl ⟨by rfl, ?y1⟩) hHeld ?r1
                case y1 => (intro w hSw; (try dsimp only at hSw); go_simp; try with_reducible rfl)
                simp only [Act.put, List.setIfInBounds_toArray, List.set_cons_zero, List.set_cons_succ]
                refine take_put (i := 2) (d := 78) (oi := _) (v := ?v2) rfl rfl (by kernel_rfl) (by kernel_rfl) (by kernel_rfl) (fun _ _ _ h => h) (Or.inl ⟨by rfl, ?y2⟩) hHeld ?r2
                case y2 => (intro w hSw; (try dsimp only at hSw); go_simp; try with_reducible rfl)
                simp only [Act.put, List.setIfInBounds_toArray, List.set_cons_zero, List.set_cons_succ]
                refine take_put (i := 3) (d := 79) (oi := _) (v := ?v3) rfl rfl (by kernel_rfl) (by kernel_rfl) (by kernel_rfl) (fun _ _ _ h => h) (Or.inl ⟨by rfl, ?y3⟩) hHeld ?r3
                case y3 => (intro w hSw; (try dsimp only at hSw); go_simp; try with_reducible rfl)
                simp only [Act.put, List.setIfInBounds_toArray, List.set_cons_zero, List.set_cons_succ]
                refine take_put (i := 4) (d := 80) (oi := _) (v := ?v4) rfl rfl (by kernel_rfl) (by kernel_rfl) (by kernel_rfl) (fun _ _ _ h => h) (Or.inl ⟨by rfl, ?y4⟩) hHeld ?r4
                case y4 => (intro w hSw; (try dsimp only at hSw); go_simp; try with_reducible rfl)
                simp only [Act.put, List.setIfInBounds_toArray, List.set_cons_zero, List.set_cons_succ]
                refine take_put (i := 5) (d := 81) (oi := _) (v := ?v5) rfl rfl (by kernel_rfl) (by kernel_rfl) (by kernel_rfl) (fun _ _ _ h => h) (Or.inl ⟨by rfl, ?y5⟩) hHeld ?r5
                case y5 => (intro w hSw; (try dsimp only at hSw); go_simp; try with_reducible rfl)
                simp only [Act.put, List.setIfInBounds_toArray, List.set_cons_zero, List.set_cons_succ]
                refine take_put (i := 6) (d := 82) (oi := _) (v := ?v6) rfl rfl (by kernel_rfl) (by kernel_rfl) (by kernel_rfl) (fun _ _ _ h => h) (Or.inl ⟨by rfl, ?y6⟩) hHeld ?r6
                case y6 => (intro w hSw; (try dsimp only at hSw); go_simp; try with_reducible rfl)
                simp only [Act.put, List.setIfInBounds_toArray, List.set_cons_zero, List.set_cons_succ]
                refine take_put (i := 7) (d := 83) (oi := _) (v := ?v7) rfl rfl (by kernel_rfl) (by kernel_rfl) (by kernel_rfl) (fun _ _ _ h => h) (Or.inl ⟨by rfl, ?y7⟩) hHeld ?r7
                case y7 => (intro w hSw; (try dsimp only at hSw); go_simp; try with_reducible rfl)
                simp only [Act.put, List.setIfInBounds_toArray, List.set_cons_zero, List.set_cons_succ]
                refine take_put (i := 8) (d := 84) (oi := _) (v := ?v8) rfl rfl (by kernel_rfl) (by kernel_rfl) (by kernel_rfl) (fun _ _ _ h => h) (Or.inl ⟨by rfl, ?y8⟩) hHeld ?r8
                case y8 => (intro w hSw; (try dsimp only at hSw); go_simp; try with_reducible rfl)
                simp only [Act.put, List.setIfInBounds_toArray, List.set_cons_zero, List.set_cons_succ]
                refine take_put (i := 9) (d := 85) (oi := _) (v := ?v9) rfl rfl (by kernel_rfl) (by kernel_rfl) (by kernel_rfl) (fun _ _ _ h => h) (Or.inl ⟨by rfl, ?y9⟩) hHeld ?r9
                case y9 => (intro w hSw; (try dsimp only at hSw); go_simp; try with_reducible rfl)
                simp only [Act.put, List.setIfInBounds_toArray, List.set_cons_zero, List.set_cons_succ]
                refine take_put (i := 10) (d := 86) (oi := _) (v := ?v10) rfl rfl (by kernel_rfl) (by kernel_rfl) (by kernel_rfl) (fun _ _ _ h => h) (Or.inl ⟨by rfl, ?y10⟩) hHeld ?r10
                case y10 => (intro w hSw; (try dsimp only at hSw); go_simp; try with_reducible rfl)
                simp only [Act.put, List.setIfInBounds_toArray, List.set_cons_zero, List.set_cons_succ]
                refine take_put (i := 11) (d := 87) (oi := _) (v := ?v11) rfl rfl (by kernel_rfl) (by kernel_rfl) (by kernel_rfl) (fun _ _ _ h => h) (Or.inl ⟨by rfl, ?y11⟩) hHeld ?r11
                case y11 => (intro w hSw; (try dsimp only at hSw); go_simp; try with_reducible rfl)
                simp only [Act.put, List.setIfInBounds_toArray, List.set_cons_zero, List.set_cons_succ]
                refine take_put (i := 14) (d := 90) (oi := _) (v := ?v14) rfl rfl (by kernel_rfl) (by kernel_rfl) (by kernel_rfl) (fun _ _ _ h => h) (Or.inl ⟨by rfl, ?y14⟩) hHeld ?r14
                case y14 => (intro w hSw; (try dsimp only at hSw); go_simp; try with_reducible rfl)
                simp only [Act.put, List.setIfInBounds_toArray, List.set_cons_zero, List.set_cons_succ]
                refine take_put (i := 15) (d := 91) (oi := _) (v := ?v15) rfl rfl (by kernel_rfl) (by kernel_rfl) (by kernel_rfl) (fun _ _ _ h => h) (Or.inl ⟨by rfl, ?y15⟩) hHeld ?r15
                case y15 => (intro w hSw; (try dsimp only at hSw); go_simp; try with_reducible rfl)
                simp only [Act.put, List.setIfInBounds_toArray, List.set_cons_zero, List.set_cons_succ]
                refine take_put (i := 16) (d := 92) (oi := _) (v := ?v16) rfl rfl (by kernel_rfl) (by kernel_rfl) (by kernel_rfl) (fun _ _ _ h => h) (Or.inl ⟨by rfl, ?y16⟩) hHeld ?r16
                case y16 => (intro w hSw; (try dsimp only at hSw); go_simp; try with_reducible rfl)
                simp only [Act.put, List.setIfInBounds_toArray, List.set_cons_zero, List.set_cons_succ]
                refine take_put (i := 17) (d := 93) (oi := _) (v := ?v17) rfl rfl (by kernel_rfl) (by kernel_rfl) (by kernel_rfl) (fun _ _ _ h => h) (Or.inl ⟨by rfl, ?y17⟩) hHeld ?r17
                case y17 => (intro w hSw; (try dsimp only at hSw); go_simp; try with_reducible rfl)
                simp only [Act.put, List.setIfInBounds_toArray, List.set_cons_zero, List.set_cons_succ]
                refine take_put (i := 18) (d := 94) (oi := _) (v := ?v18) rfl rfl (by kernel_rfl) (by kernel_rfl) (by kernel_rfl) (fun _ _ _ h => h) (Or.inl ⟨by rfl, ?y18⟩) hHeld ?r18
                case y18 => (intro w hSw; (try dsimp only at hSw); go_simp; try with_reducible rfl)
                simp only [Act.put, List.setIfInBounds_toArray, List.set_cons_zero, List.set_cons_succ]
                refine take_put (i := 19) (d := 95) (oi := _) (v := ?v19) rfl rfl (by kernel_rfl) (by kernel_rfl) (by kernel_rfl) (fun _ _ _ h => h) (Or.inl ⟨by rfl, ?y19⟩) hHeld ?r19
                case y19 => (intro w hSw; (try dsimp only at hSw); go_simp; try with_reducible rfl)
                simp only [Act.put, List.setIfInBounds_toArray, List.set_cons_zero, List.set_cons_succ]
                refine wpAnyH_ready (rs := [12]) (by kernel_rfl) (by simp) (AllReadyH.cons (o := _) rfl (fun K hK => ?_) AllReadyH.nil)
                go_simp
                refine (hpa _).mono ?_
                rintro e w' ⟨rfl, rfl⟩
                (try dsimp only)
                refine hK.out _ _ trivial (fun hHeld => ?_)
                clear hK K
                refine wpAnyH_ready (rs := [13]) (by kernel_rfl) (by simp) (AllReadyH.cons (o := _) rfl (fun K hK => ?_) AllReadyH.nil)
                go_simp
                refine hK.out _ _ trivial (fun hHeld => ?_)
                clear hK K
                refine take_put (i := 20) (d := 96) (oi := _) (v := ?v20) rfl rfl (by kernel_rfl) (by kernel_rfl) (by kernel_rfl) (fun _ _ _ h => h) (Or.inl ⟨by rfl, ?y20⟩) hHeld ?r20
                case y20 => (intro w hSw; (try dsimp only at hSw); go_simp; try with_reducible rfl)
                simp only [Act.put, List.setIfInBounds_toArray, List.set_cons_zero, List.set_cons_succ]
                refine take_put (i := 21) (d := 97) (oi := _) (v := ?v21) rfl rfl (by kernel_rfl) (by kernel_rfl) (by kernel_rfl) (fun _ _ _ h => h) (Or.inl ⟨by rfl, ?y21⟩) hHeld ?r21
                case y21 => (intro w hSw; (try dsimp only at hSw); go_simp; try with_reducible rfl)
                simp only [Act.put, List.setIfInBounds_toArray, List.set_cons_zero, List.set_cons_succ]
                refine wpAnyH_done (by kernel_rfl) ?_ _
                go_wp2
                go_meet
                exact ⟨⟨hu4.rd, hu4.own.alloc _, (hu4.bel.alloc hu4.bel.size _).drew⟩, ((Below.refl _ _).alloc hu4.bel.size _).drew, _, rfl, Lib.hid (sign_test HP HRR hsg)⟩
              · have hx56 : decide (55296 ≤ (c : Int)) = false := by simp; omega
                refine wp_region_held_drew (S := fun _ => True) (by kernel_rfl) trivial (fun hHeld => ?_)
                refine take_put (i := 0) (d := 76) (oi := _) (v := ?v0b) rfl rfl (by kernel_rfl) (by kernel_rfl) (by kernel_rfl) (fun _ _ _ h => h) (Or.inl ⟨by rfl, ?y0b⟩) hHeld ?r0b
                case y0b => (intro w hSw; (try dsimp only at hSw); go_simp; try with_reducible rfl)
                simp only [Act.put, List.setIfInBounds_toArray, List.set_cons_zero, List.set_cons_succ]
                refine take_put (i := 1) (d := 77) (oi := _) (v := ?v1b) rfl rfl (by kernel_rfl) (by kernel_rfl) (by kernel_rfl) (fun _ _ _ h => h) (Or.inl ⟨by rfl, ?y1b⟩) hHeld ?r1b
                case y1b => (intro w hSw; (try dsimp only at hSw); go_simp; try with_reducible rfl)
                simp only [Act.put, List.setIfInBounds_toArray, List.set_cons_zero, List.set_cons_succ]
                refine take_put (i := 2) (d := 78) (oi := _) (v := ?v2b) rfl rfl (by kernel_rfl) (by kernel_rfl) (by kernel_rfl) (fun _ _ _ h => h) (Or.inl ⟨by rfl, ?y2b⟩) hHeld ?r2b
                case y2b => (intro w hSw; (try dsimp only at hSw); go_simp; try with_reducible rfl)
                simp only [Act.put, List.setIfInBounds_toArray, List.set_cons_zero, List.set_cons_succ]
                refine take_put (i := 3) (d := 79) (oi := _) (v := ?v3b) rfl rfl (by kernel_rfl) (by kernel_rfl) (by kernel_rfl) (fun _ _ _ h => h) (Or.inl ⟨by rfl, ?y3b⟩) hHeld ?r3b
                case y3b => (intro w hSw; (try dsimp only at hSw); go_simp; try with_reducible rfl)
                simp only [Act.put, List.setIfInBounds_toArray, List.set_cons_zero, List.set_cons_succ]
                refine take_put (i := 4) (d := 80) (oi := _) (v := ?v4b) rfl rfl (by kernel_rfl) (by kernel_rfl) (by kernel_rfl) (fun _ _ _ h => h) (Or.inl ⟨by rfl, ?y4b⟩) hHeld ?r4b
                case y4b => (intro w hSw; (try dsimp only at hSw); go_simp; try with_reducible rfl)
                simp only [Act.put, List.setIfInBounds_toArray, List.set_cons_zero, List.set_cons_succ]
                refine take_put (i := 5) (d := 81) (oi := _) (v := ?v5b) rfl rfl (by kernel_rfl) (by kernel_rfl) (by kernel_rfl) (fun _ _ _ h => h) (Or.inl ⟨by rfl, ?y5b⟩) hHeld ?r5b
                case y5b => (intro w hSw; (try dsimp only at hSw); go_simp; try with_reducible rfl)
                simp only [Act.put, List.setIfInBounds_toArray, List.set_cons_zero, List.set_cons_succ]
                refine take_put (i := 6) (d := 82) (oi := _) (v := undef) rfl rfl (by kernel_rfl) (by kernel_rfl) (by kernel_rfl) (fun _ _ _ h => h) (Or.inr ⟨by rfl, rfl⟩) hHeld ?r6b
                simp only [Act.put, List.setIfInBounds_toArray, List.set_cons_zero, List.set_cons_succ]
                refine take_put (i := 7) (d := 83) (oi := _) (v := undef) rfl rfl (by kernel_rfl) (by kernel_rfl) (by kernel_rfl) (fun _ _ _ h => h) (Or.inr ⟨by rfl, rfl⟩) hHeld ?r7b
                simp only [Act.put, List.setIfInBounds_toArray, List.set_cons_zero, List.set_cons_succ]
                refine take_put (i := 8) (d := 84) (oi := _) (v := ?v8b) rfl rfl (by kernel_rfl) (by kernel_rfl) (by kernel_rfl) (fun _ _ _ h => h) (Or.inl ⟨by rfl, ?y8b⟩) hHeld ?r8b
                case y8b => (intro w hSw; (try dsimp only at hSw); go_simp; try with_reducible rfl)
                simp only [Act.put, List.setIfInBounds_toArray, List.set_cons_zero, List.set_cons_succ]
                refine take_put (i := 9) (d := 85) (oi := _) (v := ?v9b) rfl rfl (by kernel_rfl) (by kernel_rfl) (by kernel_rfl) (fun _ _ _ h => h) (Or.inl ⟨by rfl, ?y9b⟩) hHeld ?r9b
                case y9b => (intro w hSw; (try dsimp only at hSw); go_simp; try with_reducible rfl)
                simp only [Act.put, List.setIfInBounds_toArray, List.set_cons_zero, List.set_cons_succ]
                refine take_put (i := 10) (d := 86) (oi := _) (v := ?v10b) rfl rfl (by kernel_rfl) (by kernel_rfl) (by kernel_rfl) (fun _ _ _ h => h) (Or.inl ⟨by rfl, ?y10b⟩) hHeld ?r10b
                case y10b => (intro w hSw; (try dsimp only at hSw); go_simp; try with_reducible rfl)
                simp only [Act.put, List.setIfInBounds_toArray, List.set_cons_zero, List.set_cons_succ]
                refine take_put (i := 11) (d := 87) (oi := _) (v := ?v11b) rfl rfl (by kernel_rfl) (by kernel_rfl) (by kernel_rfl) (fun _ _ _ h => h) (Or.inl ⟨by rfl, ?y11b⟩) hHeld ?r11b
                case y11b => (intro w hSw; (try dsimp only at hSw); go_simp; try with_reducible rfl)
                simp only [Act.put, List.setIfInBounds_toArray, List.set_cons_zero, List.set_cons_succ]
                refine take_put (i := 14) (d := 90) (oi := _) (v := ?v14b) rfl rfl (by kernel_rfl) (by kernel_rfl) (by kernel_rfl) (fun _ _ _ h => h) (Or.inl ⟨by rfl, ?y14b⟩) hHeld ?r14b
                case y14b => (intro w hSw; (try dsimp only at hSw); go_simp; try with_reducible rfl)
                simp only [Act.put, List.setIfInBounds_toArray, List.set_cons_zero, List.set_cons_succ]
                refine take_put (i := 15) (d := 91) (oi := _) (v := ?v15b) rfl rfl (by kernel_rfl) (by kernel_rfl) (by kernel_rfl) (fun _ _ _ h => h) (Or.inl ⟨by rfl, ?y15b⟩) hHeld ?r15b
                case y15b => (intro w hSw; (try dsimp only at hSw); go_simp; try with_reducible rfl)
                simp only [Act.put, List.setIfInBounds_toArray, List.set_cons_zero, List.set_cons_succ]
                refine take_put (i := 16) (d := 92) (oi := _) (v := ?v16b) rfl rfl (by kernel_rfl) (by kernel_rfl) (by kernel_rfl) (fun _ _ _ h => h) (Or.inl ⟨by rfl, ?y16b⟩) hHeld ?r16b
                case y16b => (intro w hSw; (try dsimp only at hSw); go_simp; try with_reducible rfl)
                simp only [Act.put, List.setIfInBounds_toArray, List.set_cons_zero, List.set_cons_succ]
                refine take_put (i := 17) (d := 93) (oi := _) (v := ?v17b) rfl rfl (by kernel_rfl) (by kernel_rfl) (by kernel_rfl) (fun _ _ _ h => h) (Or.inl ⟨by rfl, ?y17b⟩) hHeld ?r17b
                case y17b => (intro w hSw; (try dsimp only at hSw); go_simp; try with_reducible rfl)
                simp only [Act.put, List.setIfInBounds_toArray, List.set_cons_zero, List.set_cons_succ]
                refine take_put (i := 18) (d := 94) (oi := _) (v := ?v18b) rfl rfl (by kernel_rfl) (by kernel_rfl) (by kernel_rfl) (fun _ _ _ h => h) (Or.inl ⟨by rfl, ?y18b⟩) hHeld ?r18b
                case y18b => (intro w hSw; (try dsimp only at hSw); go_simp; try with_reducible rfl)
                simp only [Act.put, List.setIfInBounds_toArray, List.set_cons_zero, List.set_cons_succ]
                refine take_put (i := 19) (d := 95) (oi := _) (v := ?v19b) rfl rfl (by kernel_rfl) (by kernel_rfl) (by kernel_rfl) (fun _ _ _ h => h) (Or.inl ⟨by rfl, ?y19b⟩) hHeld ?r19b
                case y19b => (intro w hSw; (try dsimp only at hSw); go_simp; try with_reducible rfl)
                simp only [Act.put, List.setIfInBounds_toArray, List.set_cons_zero, List.set_cons_succ]
                refine wpAnyH_ready (rs := [12]) (by kernel_rfl) (by simp) (AllReadyH.cons (o := _) rfl (fun K hK => ?_) AllReadyH.nil)
                go_simp
                refine (hpa _).mono ?_
                rintro e w' ⟨rfl, rfl⟩
                (try dsimp only)
                refine hK.out _ _ trivial (fun hHeld => ?_)
                clear hK K
                refine wpAnyH_ready (rs := [13]) (by kernel_rfl) (by simp) (AllReadyH.cons (o := _) rfl (fun K hK => ?_) AllReadyH.nil)
                go_simp
                refine hK.out _ _ trivial (fun hHeld => ?_)
                clear hK K
                refine take_put (i := 20) (d := 96) (oi := _) (v := ?v20b) rfl rfl (by kernel_rfl) (by kernel_rfl) (by kernel_rfl) (fun _ _ _ h => h) (Or.inl ⟨by rfl, ?y20b⟩) hHeld ?r20b
                case y20b => (intro w hSw; (try dsimp only at hSw); go_simp; try with_reducible rfl)
                simp only [Act.put, List.setIfInBounds_toArray, List.set_cons_zero, List.set_cons_succ]
                refine take_put (i := 21) (d := 97) (oi := _) (v := ?v21b) rfl rfl (by kernel_rfl) (by kernel_rfl) (by kernel_rfl) (fun _ _ _ h => h) (Or.inl ⟨by rfl, ?y21b⟩) hHeld ?r21b
                case y21b => (intro w hSw; (try dsimp only at hSw); go_simp; try with_reducible rfl)
                simp only [Act.put, List.setIfInBounds_toArray, List.set_cons_zero, List.set_cons_succ]
                refine wpAnyH_done (by kernel_rfl) ?_ _
                go_wp2
                go_meet
                exact ⟨⟨hu4.rd, hu4.own.alloc _, (hu4.bel.alloc hu4.bel.size _).drew⟩, ((Below.refl _ _).alloc hu4.bel.size _).drew, _, rfl, Lib.hid (sign_test HP HRR hsg)⟩
            case rest =>
              obtain ⟨hrx, hbx, q, rfl, HQ⟩ := hcut
              cases q with
              | true =>
                go_wp2
                exact bodyPost_ret (v := .tuple #[.slice none 0 0, .bool false]) (by simp [results, Tryz.results31, go_sem]) rfl (NO.out (no_sign (by
                  rw [HB0.out, ← HN.out]
                  rintro ⟨_, _, _, _, h5, h6⟩
                  have e : acc r j = c := by have := HX.out; omega
                  rw [e] at h5 h6
                  have := HQ.out.2 ⟨h5, h6⟩
                  cases this)) _ hbx)
              | false =>
                have HSG := Lib.hid (HQ.out.1 rfl)
                have HRX := Lib.hid hrx
                have hcsl : cs.length ≤ k := hrx.rd.len.1
                clear HQ hrx
                go_wp2_with (at_builtin; refine wpList_append_own _ rfl _ _ 47 rfl w.heap.size 3 i0 (.int .i64 0) 1 8 Tryz.underlying47 hi hz0 hz1 hz2 rfl (by decide) _ _ _ rfl (HRX.out.own.alloc _) ⟨wc.heap.size, 0, none⟩ 1 1 [.int .i64 (c : Int)] rfl rfl ?c1 ?c2 ?c3 ?c4 ?c5 ?_)
                case c2 => first | rfl | (intro u hu; simp at hu; subst hu; rfl)
                case c3 => unfold maxLen; omega
                case c4 => omega
                case c5 => have := HRX.out.bel.size; simp; omega
                intro v' w1 hown' hgrow _
                have hfin : SigsRel s w (k + j) (cs ++ [c]) v' w1 := by
                  have e := dec_yes HSG.out.1 (r := r) (by
                    have e2 := congrArg List.length HSG.out.2
                    rw [List.length_take, HRL.out] at e2
                    rw [show (put c).length = j by omega]; exact HSG.out.2)
                  have e3 : (put c).length = j := by
                    have e2 := congrArg List.length HSG.out.2
                    rw [List.length_take, HRL.out] at e2
                    omega
                  have h1 := HRX.out.rd.step (by rw [HRR.out, e.1]; omega)
                  rw [HRR.out, e.1, e.2, e3] at h1
                  refine ⟨h1, ?_, ?_⟩
                  · rw [inl_snoc, List.length_append]; exact hown'
                  · exact (HRX.out.bel.alloc HRX.out.bel.size _).grown hgrow (by have := HRX.out.bel.size; simp; omega) (fun q hq => (HRX.out.own.lt q hq).1)
                have HFIN := Lib.hid hfin
                clear hfin hgrow hown'
                go_wp2
                go_roundw
                case rel => exact ⟨k + j, _, by go_num, HFIN.out⟩
                case measure => simp [intOf]; omega
    · have HD := Lib.hid (HR.out.rd.done hlt)
      have HOWN := Lib.hid HR.out.own
      go_wp2
      refine bodyPost_ret (v := .tuple #[u4, .bool true]) (by simp [results, Tryz.results31, go_sem]) rfl ⟨_, by rw [vldB_some HD.out], ?_, HR.out.bel⟩
      rw [sgsOf_some HD.out]; exact HOWN.out
end Ut
end Go.Proofs.YtpddkchnogfjkaaGreatDoor
