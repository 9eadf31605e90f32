/- Layer 13: LexBlanks, of every query and any blanks ahead. -/
import Derived.Test.YtpddkchnogfjkaaDoorLxBlankM
import Derived.Test.YtpddkchnogfjkaaDoorUtRune
import Derived.Lib.AppendStr
namespace Go.Proofs.YtpddkchnogfjkaaDoor
open Go.RowKit
namespace Lx
open _root_.Go.Proofs.YtpddkchnogfjkaaDoor.Nm (bT)
open _root_.Go.Proofs.YtpddkchnogfjkaaDoor.Ut (Buf Grew cel cel_app cel_len cel_one cells_put info_b own_ne_it conv_own str)
theorem own_keep {w w' : World} {B e z n : Nat} {v : Value} {xs : List Value} (hb : Below w.heap.size w w') (h : w.ownsRow B e z v n xs) : w'.ownsRow B e z v n xs := by
  refine ⟨h.1, ?_⟩
  rcases h.2 with h0 | ⟨g, cap, cur, hv, hB, hg, rest⟩
  · exact .inl h0
  · exact .inr ⟨g, cap, cur, hv, hB, (hb.block g (Array.getElem?_eq_some_iff.1 hg).1).trans hg, rest⟩
/-- a slice of bytes that reads as a list -/
def By8 (w : World) (v : Value) (xs : List Nat) : Prop :=
  ∃ ao cap, v = .slice ao xs.length cap ∧ (∀ d ∈ xs, d < 256) ∧ (0 < xs.length → ∃ k o, ao = some ⟨k, o, none⟩ ∧ k < w.heap.size ∧ ∀ (j d : Nat), xs[j]? = some d → w.cell? ⟨k, o + j, none⟩ = some (.int .u8 (d : Nat)))
theorem By8.on {a b : World} {v : Value} {l : List Nat} (h : By8 a v l) (hb : Below a.heap.size a b) : By8 b v l := by
  obtain ⟨ao, cap, h1, h2, h⟩ := h
  exact ⟨ao, cap, h1, h2, fun h0 => by
    obtain ⟨k, o, h5, hk, h⟩ := h h0
    exact ⟨k, o, h5, Nat.lt_of_lt_of_le hk hb.size, fun j d hj => (hb.cell (p := ⟨k, o + j, none⟩) hk).trans (h j d hj)⟩⟩
theorem lxs_eplace : ∀ (n p : Nat) (r : List UInt8) (a e : Nat), r.length ≤ n → lxs numN strS p r = .error (a, e) → a ≤ p + r.length := by
  intro n
  induction n with
  | zero =>
    intro p r a e h hl
    obtain rfl : r = [] := List.length_eq_zero_iff.1 (by omega)
    rw [lxs_end numN strS _ rfl] at hl; cases hl
  | succ n ih =>
    intro p r a e h hl
    have hb := blk_le false r
    by_cases h0 : r.drop (blk false r) = []
    · rw [lxs_end numN strS _ h0] at hl; cases hl
    · cases ht : tok numN strS (r.drop (blk false r)) with
      | error z =>
        rw [lxs_err numN strS _ h0 ht] at hl
        obtain ⟨rfl, _⟩ := Prod.mk.inj (Except.error.inj hl)
        omega
      | ok z =>
        obtain ⟨k, t, v, q⟩ := z
        have hp := tok_pos numN strS ht
        rw [List.length_drop] at hp
        rw [lxs_ok numN strS _ ht] at hl
        cases hr : lxs numN strS (p + blk false r + q) (r.drop (blk false r + q)) with
        | ok l2 => rw [hr] at hl; cases hl
        | error z =>
          rw [hr] at hl
          have := ih _ _ z.1 z.2 (by rw [List.length_drop]; omega) hr
          rw [List.length_drop] at this
          have h2 := Except.error.inj hl
          rw [← show z.1 = a by rw [h2]]
          omega
theorem ans_at {q : ByteArray} {l : List Tk} {p e : Nat} (h : ansT q = (l, p, e)) : p ≤ q.size := by
  have e1 : q.data.toList.length = q.size := by simp
  unfold ansT at h
  split at h
  · simp only [Prod.mk.injEq] at h; omega
  · cases hl : lxs numN strS 0 q.data.toList with
    | error z =>
      rw [hl] at h
      simp only [Prod.mk.injEq] at h
      have := lxs_eplace _ 0 _ z.1 z.2 (Nat.le_refl _) hl
      omega
    | ok l2 => rw [hl] at h; simp only [Prod.mk.injEq] at h; omega
theorem grewT {B : Nat} {w w' : World} {v v' : Value} {l m : List Nat} {n : Nat} (h : Buf B w v l) (hn : n = l.length + m.length) (ho : w'.ownsRow B 5 1 v' n (cel l ++ cel m)) (hg : w.grownBy w' v.ownBlock) : Grew B w w' v' (l ++ m) := by
  have hb : Below B w w' := (Below.refl B w).grown hg h.le h.lt
  refine ⟨⟨?_, Nat.le_trans h.le hb.size⟩, hb, ?_⟩
  · rw [cel_app, List.length_append, ← hn]; exact ho
  · intro k s pos hk
    have hlt : k < w.heap.size := (Array.getElem?_eq_some_iff.1 hk).1
    exact (hg.block k hlt (own_ne_it h.own hk)).trans hk
theorem own_form {w : World} {B e n : Nat} {v : Value} {xs : List Value} (h : w.ownsRow B e 1 v n xs) : ∃ ao cap, v = .slice ao n cap := by
  rcases h.2 with ⟨rfl, hn⟩ | ⟨g, cap, cur, rfl, _⟩
  · exact ⟨none, 0, by rw [show n = 0 from hn]⟩
  · exact ⟨_, _, rfl⟩
theorem pc4 {d : Nat} (h : d % 5 = 4) : pcN d = [35, 32, 97, 32, 36, 32, 34, 10] := by unfold pcN; rw [if_pos h]
theorem pc0 {d : Nat} (h : d % 5 = 0) : pcN d = [32] := by unfold pcN; rw [if_neg (by omega), h]; rfl
theorem pc1 {d : Nat} (h : d % 5 = 1) : pcN d = [9] := by unfold pcN; rw [if_neg (by omega), h]; rfl
theorem pc2 {d : Nat} (h : d % 5 = 2) : pcN d = [10] := by unfold pcN; rw [if_neg (by omega), h]; rfl
theorem pc3 {d : Nat} (h : d % 5 = 3) : pcN d = [13] := by unfold pcN; rw [if_neg (by omega), h]; rfl
set_option maxRecDepth 100000 in
set_option maxHeartbeats 4000000 in
theorem lexBlanks_any (q : ByteArray) (v0 : Value) (xs : List Nat) (w : World) (hx0 : xs.length ≤ maxLen) (hby : By8 w v0 xs) :
    Calls Tryd.prog 4 #[.string q, v0] w fun e w' => e = .returned (.bool true) ∧ Below w.heap.size w w' := by
  unfold maxLen at hx0
  have hlv := lives_any
  have HBY := Lib.hid hby
  obtain ⟨ao, cap, rfl, h256, hcells⟩ := hby
  by_cases hs : q.size ≤ 2000 ∧ xs.length ≤ 20
  · obtain ⟨hq, hx⟩ := hs
    have hT := tokens_c
    obtain ⟨i0, hi, hz0, hz1, hz2⟩ := info_parts info_b
    have H256 := Lib.hid h256
    clear hcells h256
    go_enter Tryd.func4, Tryd.ntmps4
    go_wp2_with (fail)
    go_loopw [5, 6] (fun v iv wr => ∃ i : Nat, iv = .int .i64 (i : Nat) ∧ i ≤ xs.length ∧ Hid (Buf w.heap.size wr v (bs (xs.take i))) ∧ Hid (Below w.heap.size w wr)) (fun _ iv _ => xs.length - (intOf iv).toNat)
    case atStart => exact ⟨0, rfl, by omega, Lib.hid ⟨World.ownsRow_nil _ _ _ _, Nat.le_refl _⟩, Lib.hid (Below.refl _ _)⟩
    case round =>
      obtain ⟨i, rfl, hi2, HBU, HBE⟩ := hrel
      by_cases hlt : i < xs.length
      · obtain ⟨d, hd⟩ : ∃ d, xs[i]? = some d := ⟨xs[i], List.getElem?_eq_getElem hlt⟩
        have hd256 := H256.out d (List.mem_of_getElem? hd)
        have hbl : (bs (xs.take i)).length ≤ 160 := by
          have := bs_len (xs.take i)
          rw [List.length_take] at this
          omega
        have hcell : ∃ k o, ao = some ⟨k, o, none⟩ ∧ wr.cell? ⟨k, o + i, none⟩ = some (.int .u8 (d : Nat)) := by
          obtain ⟨ao', cap', h3, _, h5⟩ := HBY.out
          cases h3
          obtain ⟨k, o, h6, hk, h7⟩ := h5 (by omega)
          exact ⟨k, o, h6, (HBE.out.cell (p := ⟨k, o + i, none⟩) hk).trans (h7 i d hd)⟩
        obtain ⟨bk, o, rfl, hcell⟩ := hcell
        have HN : ∀ m, pcN d = m → bs (xs.take (i + 1)) = bs (xs.take i) ++ m := fun m hm => by
          rw [List.take_add_one, hd, Option.toList_some, bs_snoc, hm]
        have hlt2 : (i : Int) < (xs.length : Int) := by omega
        have hd5 : (0 : Int) ≤ (d : Int) := by omega
        clear hd
        by_cases h4 : d % 5 = 4
        · have HN4 := Lib.hid (HN _ (pc4 h4))
          have e4 : (d : Int) % 5 = 4 := by omega
          have e5 : (d : Int).tmod 5 = 4 := by rw [Int.tmod_eq_emod_of_nonneg hd5]; exact e4
          clear HN
          go_wp2_with (at_builtin; refine Lib.wpList_append_own_string _ rfl _ _ 26 9 rfl w.heap.size 5 i0 Tryd.underlying26 Tryd.underlying9 hi hz0 hz1 hz2 _ _ _ rfl HBU.out.own ⟨#[35, 32, 97, 32, 36, 32, 34, 10]⟩ rfl ?a34 ?b34 ?c34 ?d34)
          case a34 => show _ + 8 ≤ _; unfold maxLen; omega
          case b34 => show _ + 8 ≤ _; omega
          case c34 => exact HBU.out.le
          case d34 =>
            intro v' w2 hown' hgrow _
            have hg := grewT HBU.out (m := [35, 32, 97, 32, 36, 32, 34, 10]) rfl hown' hgrow
            go_wp2
            go_roundw
            case rel => exact ⟨i + 1, by go_num, by omega, Lib.hid (by rw [HN4.out]; exact hg.buf), Lib.hid (HBE.out.trans hg.bel)⟩
            case measure => simp [intOf]; omega
        · have h5 : d % 5 = 0 ∨ d % 5 = 1 ∨ d % 5 = 2 ∨ d % 5 = 3 := by omega
          rcases h5 with h5 | h5 | h5 | h5
          · have HN4 := Lib.hid (HN _ (pc0 h5))
            have e4 : (d : Int) % 5 = 0 := by omega
            have e5 : (d : Int).tmod 5 = 0 := by rw [Int.tmod_eq_emod_of_nonneg hd5]; exact e4
            clear HN
            go_wp2_with (at_builtin; refine wpList_append_own _ rfl _ _ 26 rfl w.heap.size 5 i0 (.int .u8 0) 1 1 Tryd.underlying26 hi hz0 hz1 hz2 rfl (by decide) _ _ _ rfl (HBU.out.own.alloc _) ⟨wr.heap.size, 0, none⟩ 1 1 (cel [32]) rfl rfl ?d1 ?d2 ?d3 ?d4 ?d5 ?d6)
            case d1 => exact cells_put wr _
            case d2 => exact cel_one _
            case d3 => unfold maxLen; omega
            case d4 => omega
            case d5 => have := HBU.out.le; simp; omega
            case d6 =>
              intro v' w2 hown' hgrow _
              have hg := HBU.out.grew (m := [32]) rfl hown' hgrow
              go_wp2
              go_roundw
              case rel => exact ⟨i + 1, by go_num, by omega, Lib.hid (by rw [HN4.out]; exact hg.buf), Lib.hid (HBE.out.trans hg.bel)⟩
              case measure => simp [intOf]; omega
          · have HN4 := Lib.hid (HN _ (pc1 h5))
            have e4 : (d : Int) % 5 = 1 := by omega
            have e5 : (d : Int).tmod 5 = 1 := by rw [Int.tmod_eq_emod_of_nonneg hd5]; exact e4
            clear HN
            go_wp2_with (at_builtin; refine wpList_append_own _ rfl _ _ 26 rfl w.heap.size 5 i0 (.int .u8 0) 1 1 Tryd.underlying26 hi hz0 hz1 hz2 rfl (by decide) _ _ _ rfl (HBU.out.own.alloc _) ⟨wr.heap.size, 0, none⟩ 1 1 (cel [9]) rfl rfl ?d1 ?d2 ?d3 ?d4 ?d5 ?d6)
            case d1 => exact cells_put wr _
            case d2 => exact cel_one _
            case d3 => unfold maxLen; omega
            case d4 => omega
            case d5 => have := HBU.out.le; simp; omega
            case d6 =>
              intro v' w2 hown' hgrow _
              have hg := HBU.out.grew (m := [9]) rfl hown' hgrow
              go_wp2
              go_roundw
              case rel => exact ⟨i + 1, by go_num, by omega, Lib.hid (by rw [HN4.out]; exact hg.buf), Lib.hid (HBE.out.trans hg.bel)⟩
              case measure => simp [intOf]; omega
          · have HN4 := Lib.hid (HN _ (pc2 h5))
            have e4 : (d : Int) % 5 = 2 := by omega
            have e5 : (d : Int).tmod 5 = 2 := by rw [Int.tmod_eq_emod_of_nonneg hd5]; exact e4
            clear HN
            go_wp2_with (at_builtin; refine wpList_append_own _ rfl _ _ 26 rfl w.heap.size 5 i0 (.int .u8 0) 1 1 Tryd.underlying26 hi hz0 hz1 hz2 rfl (by decide) _ _ _ rfl (HBU.out.own.alloc _) ⟨wr.heap.size, 0, none⟩ 1 1 (cel [10]) rfl rfl ?d1 ?d2 ?d3 ?d4 ?d5 ?d6)
            case d1 => exact cells_put wr _
            case d2 => exact cel_one _
            case d3 => unfold maxLen; omega
            case d4 => omega
            case d5 => have := HBU.out.le; simp; omega
            case d6 =>
              intro v' w2 hown' hgrow _
              have hg := HBU.out.grew (m := [10]) rfl hown' hgrow
              go_wp2
              go_roundw
              case rel => exact ⟨i + 1, by go_num, by omega, Lib.hid (by rw [HN4.out]; exact hg.buf), Lib.hid (HBE.out.trans hg.bel)⟩
              case measure => simp [intOf]; omega
          · have HN4 := Lib.hid (HN _ (pc3 h5))
            have e4 : (d : Int) % 5 = 3 := by omega
            have e5 : (d : Int).tmod 5 = 3 := by rw [Int.tmod_eq_emod_of_nonneg hd5]; exact e4
            clear HN
            go_wp2_with (at_builtin; refine wpList_append_own _ rfl _ _ 26 rfl w.heap.size 5 i0 (.int .u8 0) 1 1 Tryd.underlying26 hi hz0 hz1 hz2 rfl (by decide) _ _ _ rfl (HBU.out.own.alloc _) ⟨wr.heap.size, 0, none⟩ 1 1 (cel [13]) rfl rfl ?d1 ?d2 ?d3 ?d4 ?d5 ?d6)
            case d1 => exact cells_put wr _
            case d2 => exact cel_one _
            case d3 => unfold maxLen; omega
            case d4 => omega
            case d5 => have := HBU.out.le; simp; omega
            case d6 =>
              intro v' w2 hown' hgrow _
              have hg := HBU.out.grew (m := [13]) rfl hown' hgrow
              go_wp2
              go_roundw
              case rel => exact ⟨i + 1, by go_num, by omega, Lib.hid (by rw [HN4.out]; exact hg.buf), Lib.hid (HBE.out.trans hg.bel)⟩
              case measure => simp [intOf]; omega
      · have hbl : (bs xs).length ≤ 160 := by have := bs_len xs; omega
        rw [List.take_of_length_le (by omega)] at HBU
        obtain ⟨ao2, cap2, rfl⟩ := own_form HBU.out.own
        have hge : (xs.length : Int) ≤ (i : Int) := by omega
        obtain ⟨c, hcc⟩ : ∃ c, str (bs xs) ++ q = c := ⟨_, rfl⟩
        have hc : c.data.toList = (bs xs).map Nat.toUInt8 ++ q.data.toList := by rw [← hcc]; simp [str, ByteArray.data_append]
        have hcs : c.size ≤ 1000000000 := by
          have h1 : ∀ x : ByteArray, x.data.toList.length = x.size := fun x => by simp
          have h1 := h1 c
          rw [hc, List.length_append, List.length_map] at h1
          have e1 : q.data.toList.length = q.size := by simp
          omega
        obtain ⟨sb, hsb⟩ : ∃ s, str (bs xs) = s := ⟨_, rfl⟩
        have hsz : sb.size ≤ 160 := by
          have h1 : sb.data.toList.length = sb.size := by simp
          rw [← h1, ← hsb]
          simp only [str, List.toList_toArray, List.length_map]
          exact hbl
        rw [hsb] at hcc
        have HSB := Lib.hid hsb
        have HCC := Lib.hid hcc
        have HA : AnsR q (ansT q).1 (ansT q).2.1 (ansT q).2.2 := ⟨rfl, by omega⟩
        generalize (ansT q).1 = l at HA
        generalize (ansT q).2.1 = p at HA
        generalize (ansT q).2.2 = er at HA
        have HBL := blank_ans hc hq hx HA.out
        obtain ⟨n, hn⟩ : ∃ n, (bs xs).length = n := ⟨_, rfl⟩
        rw [hn] at HBL hbl ⊢
        have hpl : p ≤ 2000 := Nat.le_trans (ans_at HA.out) hq
        clear hc hcc hsb
        go_upto_region 11 with (fail)
        go_upto_region 12 with (go_at_call 11; refine (hT _ _ _ _ _ HA).mono ?_; rintro e w1 ⟨k1, v1, rfl, t1⟩; have HT1 := Lib.hid t1; have HK1 := Lib.hid k1; obtain ⟨ao1, cap1, rfl, -, -⟩ := t1; clear k1)
        have hcv := conv_own (own_keep HK1.out HBU.out.own)
        rw [hn, HSB.out] at hcv
        rcases HBL with ⟨rfl, rfl, hC⟩ | ⟨he, rfl, hC⟩
        · have HC : AnsR c (l.map (Tk.by n)) 0 0 := ⟨hC, hcs⟩
          go_upto_region 13 with (go_at_call 11; rw [HCC.out]; refine (hT _ _ _ _ _ HC).mono ?_; rintro e w2 ⟨k2, v2, rfl, t2⟩; have HT2 := Lib.hid t2; have HK2 := Lib.hid k2; obtain ⟨ao2, cap2, rfl, -, -⟩ := t2; clear k2)
          have hl1 := ans_len HA.out
          have HPL := Lib.hid (ans_place HA.out)
          have HW1 := Lib.hid (HT1.out.on HK2.out)
          have HBF := Lib.hid (bT (bT HBE.out HK1.out) HK2.out)
          rw [List.length_map] at HT2
          go_wp2_with fail
          go_loopw [14] (fun jv wz => ∃ j : Nat, jv = .int .i64 (j : Nat) ∧ j ≤ l.length ∧ Hid (Below w.heap.size w wz) ∧ Hid (Tks wz (.slice ao1 l.length cap1) l) ∧ Hid (Tks wz (.slice ao2 l.length cap2) (l.map (Tk.by n)))) (fun jv _ => l.length - (intOf jv).toNat)
          case atStart => exact ⟨0, rfl, by omega, HBF, HW1, HT2⟩
          case round =>
            clear HBF HW1 HT2 HT1 HK1 HK2 hcv HBU HBE
            obtain ⟨j, rfl, hj, HBF, HW1, HW2⟩ := hrel
            by_cases hlj : j < l.length
            · obtain ⟨x, hx2⟩ : ∃ x, l[j]? = some x := ⟨l[j], List.getElem?_eq_getElem hlj⟩
              have hxp : x.p ≤ 2000 := Nat.le_trans (HPL.out x (List.mem_of_getElem? hx2)) hq
              have hlj2 : (j : Int) < (l.length : Int) := by omega
              have hm2 : (l.map (Tk.by n))[j]? = some (Tk.by n x) := by rw [List.getElem?_map, hx2]; rfl
              obtain ⟨ao', cap', h3, h4, h5⟩ := HW1.out
              cases h3
              obtain ⟨b1, o1, rfl, hb1, hcl⟩ := h5 (by omega)
              obtain ⟨a0, a1, a2, a3, a4⟩ := hcl j _ hx2
              clear h5 hcl
              obtain ⟨ao', cap', h3, h4, h5⟩ := HW2.out
              rw [List.length_map] at h3 h5
              cases h3
              obtain ⟨b2, o2, rfl, hb2, hcl⟩ := h5 (by omega)
              obtain ⟨d0, d1, d2, d3, d4⟩ := hcl j _ hm2
              simp only [Tk.by] at d0 d1 d2 d3 d4
              rw [show ((x.p + n : Nat) : Int) = (x.p : Int) + n by omega] at d4
              have g3 : (x.p : Int) + n - x.p = n := by omega
              clear h5 hcl hx2 hm2
              go_wp2_with fail
              go_quiet (fail)
              go_wp2_with fail
              go_roundw
              case rel => exact ⟨j + 1, by go_num, by omega, Lib.hid (bT HBF.out (below_drewN _ nq)), Lib.hid (HW1.out.drewN nq), Lib.hid (HW2.out.drewN nq)⟩
              case measure => simp [intOf]; omega
            · have hge2 : (l.length : Int) ≤ (j : Int) := by omega
              go_wp2_with (go_at_call 6; refine (hlv _).mono ?_; rintro e w6 ⟨rfl, b6⟩)
              go_ret
              exact ⟨rfl, bT HBF.out b6⟩
        · have HC : AnsR c [] (p + n) er := ⟨hC, hcs⟩
          go_upto_region 13 with (go_at_call 11; rw [HCC.out]; refine (hT _ _ _ _ _ HC).mono ?_; rintro e w2 ⟨k2, v2, rfl, t2⟩; obtain ⟨ao2, cap2, rfl, -, -⟩ := t2)
          have g1 : ((er : Int) != 0) = true := by simp; omega
          have g2 : ((er : Int) == 0) = false := by simp; omega
          have g3 : (p : Int) + n - p = n := by omega
          go_wp2_with (go_at_call 6; refine (hlv _).mono ?_; rintro e w6 ⟨rfl, b6⟩)
          go_ret
          exact ⟨rfl, bT (bT (bT HBE.out HK1.out) k2) b6⟩
  · by_cases hq : q.size ≤ 2000
    · have g1 : 20 < (xs.length : Int) := by omega
      have g2 : ¬ 2000 < (q.size : Int) := by omega
      go_enter Tryd.func4, Tryd.ntmps4
      go_wp2_with (go_at_call 6; refine (hlv _).mono ?_; rintro e w6 ⟨rfl, b6⟩)
      go_ret
      exact ⟨rfl, b6⟩
    · have g2 : 2000 < (q.size : Int) := by omega
      go_enter Tryd.func4, Tryd.ntmps4
      go_wp2_with (go_at_call 6; refine (hlv _).mono ?_; rintro e w6 ⟨rfl, b6⟩)
      all_goals first | exact absurd ‹some undef = some (Value.bool _)› (by unfold undef; simp) | skip
      all_goals go_ret
      all_goals exact ⟨rfl, b6⟩
end Lx
end Go.Proofs.YtpddkchnogfjkaaDoor
