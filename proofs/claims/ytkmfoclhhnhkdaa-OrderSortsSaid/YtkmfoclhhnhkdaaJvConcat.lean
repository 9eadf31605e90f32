/- slices.Grow of nothing, slices.Concat of three rows: of values, of texts. -/
import Derived.Test.YtkmfoclhhnhkdaaJvSame
import Derived.Lib.AppendZeros
import Derived.Laws.AppendOwnNone
namespace Go.Proofs.Ytkmfoclhhnhkdaa
open Go.RowKit
namespace Jv
open _root_.Go.Proofs.Ytkmfoclhhnhkdaa.Nm
/-- a slice that reads as so many elements of sz cells each -/
def Cs (sz : Nat) (w : World) (v : Value) (n : Nat) (cs : List Value) : Prop :=
  cs.length = n * sz ∧ (∀ u ∈ cs, u.oneCell' = true) ∧ ∃ ao cap, v = .slice ao n cap ∧ n ≤ cap ∧ cap ≤ maxLen ∧ (ao = none → n = 0 ∧ cap = 0) ∧ ∀ a, ao = some a → (∀ j u, cs[j]? = some u → w.cell? (a.add j) = some u) ∧ (0 < n → a.block < w.heap.size)
theorem Cs.on {sz n : Nat} {a b : World} {v : Value} {cs : List Value} (h : Cs sz a v n cs) (hb : Below a.heap.size a b) : Cs sz b v n cs := by
  obtain ⟨h1, h2, ao, cap, h3, h4, h5, h6, h7⟩ := h
  refine ⟨h1, h2, ao, cap, h3, h4, h5, h6, fun d hd => ⟨fun j u hj => ?_, fun hn => Nat.lt_of_lt_of_le ((h7 d hd).2 hn) hb.size⟩⟩
  have hlt := World.block_lt_of_cell? a _ ((h7 d hd).1 j u hj)
  exact (hb.cell hlt).trans ((h7 d hd).1 j u hj)
theorem add_at (k o j : Nat) : (⟨k, o, none⟩ : Addr).add j = ⟨k, o + j, none⟩ := by simp [Addr.add]
theorem own_cs {sz n B : Nat} {e : TypeId} {w : World} {v : Value} {cs : List Value} (h : w.ownsRow B e sz v n cs) (h1 : ∀ u ∈ cs, u.oneCell' = true) : Cs sz w v n cs := by
  rcases h.2 with ⟨rfl, rfl⟩ | ⟨g, cap, cur, rfl, hb, hg, hn, hc, hs, ht⟩
  · exact ⟨h.1, h1, none, 0, rfl, Nat.le_refl _, by decide, fun _ => ⟨rfl, rfl⟩, fun a ha => by cases ha⟩
  · refine ⟨h.1, h1, _, cap, rfl, hn, hc, fun h => (by cases h), fun a ha => ?_⟩
    obtain rfl := Option.some.inj ha
    exact ⟨World.ownsRow.cells h rfl, fun _ => (Array.getElem?_eq_some_iff.1 hg).1⟩
theorem Cs.nilS {sz n cap : Nat} {w : World} {cs : List Value} (h : Cs sz w (.slice none n cap) n cs) : n = 0 ∧ cap = 0 ∧ cs = [] := by
  obtain ⟨p1, _, ao, cp, p2, _, _, p3, _⟩ := h
  injection p2 with p4 p5 p6
  obtain ⟨p7, p8⟩ := p3 p4.symm
  exact ⟨p7, by omega, List.length_eq_zero_iff.1 (by rw [p1, p7, Nat.zero_mul])⟩
theorem Cs.at {sz n cap : Nat} {w : World} {cs : List Value} {ad : Addr} (h : Cs sz w (.slice (some ad) n cap) n cs) : ∀ j u, cs[j]? = some u → w.cell? (ad.add j) = some u := by
  obtain ⟨p1, _, ao, cp, p2, _, _, p3, p9⟩ := h
  injection p2 with p4 p5 p6
  exact (p9 ad p4.symm).1
/-- a slice that stands in blocks from B on -/
def AtNew (B : Nat) (v : Value) : Prop := ∃ ao n c, v = .slice ao n c ∧ ∀ a, ao = some a → B ≤ a.block
theorem AtNew.mono {A B : Nat} {v : Value} (h : AtNew B v) (hA : A ≤ B) : AtNew A v := by
  obtain ⟨ao, n, c, h1, h2⟩ := h
  exact ⟨ao, n, c, h1, fun a ha => Nat.le_trans hA (h2 a ha)⟩
theorem own_new {sz n B : Nat} {e : TypeId} {w : World} {v : Value} {cs : List Value} (h : w.ownsRow B e sz v n cs) : AtNew B v := by
  rcases h.2 with ⟨rfl, rfl⟩ | ⟨g, cap, cur, rfl, hb, hg, hn, hc, hs, ht⟩
  · exact ⟨none, 0, 0, rfl, fun a h => by cases h⟩
  · exact ⟨_, n, cap, rfl, fun a h => by obtain rfl := Option.some.inj h; exact hb⟩
/-- what a grown row leaves of what was there -/
theorem own_bel {sz n B : Nat} {e : TypeId} {w a b : World} {v : Value} {cs : List Value} (h : Below w.heap.size w a) (ho : a.ownsRow B e sz v n cs) (hB : w.heap.size ≤ B) (hg : a.grownBy b v.ownBlock) : Below w.heap.size w b :=
  h.grown hg h.size (fun p hp => Nat.le_trans hB (World.ownsRow.lt ho p hp).1)
set_option maxRecDepth 100000 in
theorem infoV : (Try.prog.info? 27).map (fun i => (i.zero, i.size, i.bytes)) = some (some (.agg #[.int .i64 0, .int .i64 0, .int .i64 0, .string ⟨#[]⟩, .slice none 0 0, .slice none 0 0]), 6, 88) := by kernel_rfl
theorem infoS : (Try.prog.info? 9).map (fun i => (i.zero, i.size, i.bytes)) = some (some (.string ⟨#[]⟩), 1, 16) := by kernel_rfl
set_option maxRecDepth 100000 in
set_option maxHeartbeats 2000000 in
theorem growV (n : Nat) (w : World) (h0 : 0 < n) (hn : n * 88 ≤ 140737488355328) :
    Calls Try.prog 85 #[.slice none 0 0, .int .i64 (n : Nat)] w fun e w' => ∃ g cap, e = .returned (.slice (some ⟨g, 0, none⟩) 0 cap) ∧ w'.ownsRow w.heap.size 27 6 (.slice (some ⟨g, 0, none⟩) 0 cap) 0 [] ∧ Below w.heap.size w w' := by
  obtain ⟨i0, hi, hz0, hz1, hz2⟩ := info_parts infoV
  have hr : ∀ ty, (Builtin.append_ #[24, 3] ty #[.slice none 0 0, .int .i64 (n : Nat)]).run Try.prog w = .ok (.slice (some ⟨w.heap.size, 0, none⟩) n (grownCap w n 0 27)) (w.drew.alloc (.cells (Builtin.zeroCells (Value.cells (.agg #[.int .i64 0, .int .i64 0, .int .i64 0, .string ⟨#[]⟩, .slice none 0 0, .slice none 0 0])) n ++ Builtin.zeroCells (Value.cells (.agg #[.int .i64 0, .int .i64 0, .int .i64 0, .string ⟨#[]⟩, .slice none 0 0, .slice none 0 0])) (grownCap w n 0 27 - n)) 27)) := fun ty => by
    have := Lib.run_append_nil_zeros w 24 3 ty 27 i0 _ .i64 .i64 Try.underlying24 Try.underlying3 hi hz0 n h0 (by omega) (by omega) (by rw [hz2]; omega)
    exact this
  obtain ⟨C, hC⟩ : ∃ C, grownCap w n 0 27 = C := ⟨_, rfl⟩
  have hge := grownCap_ge w n 0 27
  have hle := grownCap_le_maxLen w n 0 27 (by unfold maxLen; omega)
  rw [hC] at hr hge hle
  have hcells : (Builtin.zeroCells (Value.cells (.agg #[.int .i64 0, .int .i64 0, .int .i64 0, .string ⟨#[]⟩, .slice none 0 0, .slice none 0 0])) n ++ Builtin.zeroCells (Value.cells (.agg #[.int .i64 0, .int .i64 0, .int .i64 0, .string ⟨#[]⟩, .slice none 0 0, .slice none 0 0])) (C - n)).size = C * 6 := by
    rw [Array.size_append, size_zeroCells, size_zeroCells]
    show n * 6 + (C - n) * 6 = C * 6
    omega
  obtain ⟨Z, hZ⟩ : ∃ Z, Builtin.zeroCells (Value.cells (.agg #[.int .i64 0, .int .i64 0, .int .i64 0, .string ⟨#[]⟩, .slice none 0 0, .slice none 0 0])) n ++ Builtin.zeroCells (Value.cells (.agg #[.int .i64 0, .int .i64 0, .int .i64 0, .string ⟨#[]⟩, .slice none 0 0, .slice none 0 0])) (C - n) = Z := ⟨_, rfl⟩
  rw [hZ] at hr hcells
  have hle' := hle
  unfold maxLen at hle'
  have HR := Lib.hid hr
  have HCE := Lib.hid hcells
  have hn2 : ¬ (n : Int) < 0 := by omega
  have hn3 : (n : Int) > 0 := by omega
  clear hr hi hz0 hz1 hz2 hC hZ hcells
  go_enter Try.func85, Try.ntmps85
  go_wp2_with (at_builtin; refine Lib.wpList_append_run _ rfl _ _ _ _ rfl _ _ rfl rfl _ _ (HR.out _) ?_)
  go_ret
  exact ⟨w.heap.size, C, rfl, (World.ownsRow_made (base := w.heap.size) w Z C (Nat.le_refl _) hle HCE.out).drew, ((Below.refl _ _).alloc (Nat.le_refl _) _).drew⟩
set_option maxRecDepth 100000 in
set_option maxHeartbeats 2000000 in
theorem growS (n : Nat) (w : World) (h0 : 0 < n) (hn : n * 16 ≤ 140737488355328) :
    Calls Try.prog 86 #[.slice none 0 0, .int .i64 (n : Nat)] w fun e w' => ∃ g cap, e = .returned (.slice (some ⟨g, 0, none⟩) 0 cap) ∧ w'.ownsRow w.heap.size 9 1 (.slice (some ⟨g, 0, none⟩) 0 cap) 0 [] ∧ Below w.heap.size w w' := by
  obtain ⟨i0, hi, hz0, hz1, hz2⟩ := info_parts infoS
  have hr : ∀ ty, (Builtin.append_ #[25, 3] ty #[.slice none 0 0, .int .i64 (n : Nat)]).run Try.prog w = .ok (.slice (some ⟨w.heap.size, 0, none⟩) n (grownCap w n 0 9)) (w.drew.alloc (.cells (Builtin.zeroCells (Value.cells (.string ⟨#[]⟩)) n ++ Builtin.zeroCells (Value.cells (.string ⟨#[]⟩)) (grownCap w n 0 9 - n)) 9)) := fun ty => by
    have := Lib.run_append_nil_zeros w 25 3 ty 9 i0 _ .i64 .i64 Try.underlying25 Try.underlying3 hi hz0 n h0 (by omega) (by omega) (by rw [hz2]; omega)
    exact this
  obtain ⟨C, hC⟩ : ∃ C, grownCap w n 0 9 = C := ⟨_, rfl⟩
  have hge := grownCap_ge w n 0 9
  have hle := grownCap_le_maxLen w n 0 9 (by unfold maxLen; omega)
  rw [hC] at hr hge hle
  have hcells : (Builtin.zeroCells (Value.cells (.string ⟨#[]⟩)) n ++ Builtin.zeroCells (Value.cells (.string ⟨#[]⟩)) (C - n)).size = C * 1 := by
    rw [Array.size_append, size_zeroCells, size_zeroCells]
    show n * 1 + (C - n) * 1 = C * 1
    omega
  obtain ⟨Z, hZ⟩ : ∃ Z, Builtin.zeroCells (Value.cells (.string ⟨#[]⟩)) n ++ Builtin.zeroCells (Value.cells (.string ⟨#[]⟩)) (C - n) = Z := ⟨_, rfl⟩
  rw [hZ] at hr hcells
  have hle' := hle
  unfold maxLen at hle'
  have HR := Lib.hid hr
  have HCE := Lib.hid hcells
  have hn2 : ¬ (n : Int) < 0 := by omega
  have hn3 : (n : Int) > 0 := by omega
  clear hr hi hz0 hz1 hz2 hC hZ hcells
  go_enter Try.func86, Try.ntmps86
  go_wp2_with (at_builtin; refine Lib.wpList_append_run _ rfl _ _ _ _ rfl _ _ rfl rfl _ _ (HR.out _) ?_)
  go_ret
  exact ⟨w.heap.size, C, rfl, (World.ownsRow_made (base := w.heap.size) w Z C (Nat.le_refl _) hle HCE.out).drew, ((Below.refl _ _).alloc (Nat.le_refl _) _).drew⟩
set_option maxRecDepth 100000 in
set_option maxHeartbeats 8000000 in
theorem concatV (k : Nat) (va vb vc : Value) (na nb nc : Nat) (ca cb cc : List Value) (w : World) (ha : Cs 6 w va na ca) (hb : Cs 6 w vb nb cb) (hc : Cs 6 w vc nc cc)
    (k0 : w.cell? ⟨k, 0, none⟩ = some va) (k1 : w.cell? ⟨k, 1, none⟩ = some vb) (k2 : w.cell? ⟨k, 2, none⟩ = some vc) (h0 : 0 < na + nb + nc) (hn : (na + nb + nc) * 88 ≤ 140737488355328) :
    Calls Try.prog 68 #[.slice (some ⟨k, 0, none⟩) 3 3] w fun e w' => ∃ v', e = .returned v' ∧ Cs 6 w' v' (na + nb + nc) (ca ++ (cb ++ cc)) ∧ Below w.heap.size w w' ∧ AtNew w.heap.size v' := by
  obtain ⟨i0, hi, hz0, hz1, hz2⟩ := info_parts infoV
  have HA := Lib.hid ha
  have HB := Lib.hid hb
  have HC := Lib.hid hc
  obtain ⟨_, _, aa, acap, rfl, hac, hacm, han, haa⟩ := ha
  obtain ⟨_, _, ab, bcap, rfl, hbc, hbcm, hbn, hbb⟩ := hb
  obtain ⟨_, _, ac, ccap, rfl, hcc, hccm, hcn, hcc2⟩ := hc
  obtain ⟨n1, hn1⟩ : ∃ n1, n1 = na + nb := ⟨_, rfl⟩
  obtain ⟨n2, hn2⟩ : ∃ n2, n2 = na + nb + nc := ⟨_, rfl⟩
  have l1 : n1 ≤ na + nb := by omega
  have l2 : na + nb ≤ n1 := by omega
  have l3 : n2 ≤ n1 + nc := by omega
  have l4 : n1 + nc ≤ n2 := by omega
  have l5 : n2 ≤ 1599289640401 := by omega
  have l6 : 0 < n2 := by omega
  have hg := fun w => growV n2 w l6 (by omega)
  have HGR := Lib.hid hg
  have HN1 := Lib.hid hn1
  have HN2 := Lib.hid hn2
  rw [← hn2]
  have HN := Lib.hid hn
  have HK := Lib.hid (And.intro (World.block_lt_of_cell? w _ k0) (And.intro k0 (And.intro k1 k2)))
  clear han haa hbn hbb hcn hcc2 hg hn1 hn2 h0 hn
  go_enter Try.func68, Try.ntmps68
  go_wp2_with fail
  go_loop [3, 11] (fun sv iv => (sv = .int .i64 0 ∧ iv = .int .i64 0) ∨ (sv = .int .i64 (na : Nat) ∧ iv = .int .i64 1) ∨ (sv = .int .i64 (n1 : Nat) ∧ iv = .int .i64 2) ∨ (sv = .int .i64 (n2 : Nat) ∧ iv = .int .i64 3)) (fun _ iv => 3 - (intOf iv).toNat)
  case atStart => exact .inl ⟨rfl, rfl⟩
  case round =>
    obtain ⟨hkb, k0, k1, k2⟩ := HK.out
    rcases hrel with ⟨rfl, rfl⟩ | ⟨rfl, rfl⟩ | ⟨rfl, rfl⟩ | ⟨rfl, rfl⟩
    · go_wp2_with fail
      go_round
      case rel => exact .inr (.inl ⟨by go_num, rfl⟩)
      case measure => simp [intOf]
    · go_wp2_with fail
      go_round
      case rel => exact .inr (.inr (.inl ⟨congrArg (Value.int .i64) (by omega), rfl⟩))
      case measure => simp [intOf]
    · go_wp2_with fail
      go_round
      case rel => exact .inr (.inr (.inr ⟨congrArg (Value.int .i64) (by omega), rfl⟩))
      case measure => simp [intOf]
    · go_wp2_with (go_at_call 85; refine (HGR.out _).mono ?_; rintro e w1 ⟨g, cap, rfl, hown, b1⟩)
      have HO := Lib.hid hown
      have HB1 := Lib.hid b1
      clear hown b1 k0 k1 k2
      go_loopw [6, 27] (fun vv iv wr => ∃ (j n : Nat) (cs : List Value), iv = .int .i64 (j : Nat) ∧ Hid ((j = 0 ∧ n = 0 ∧ cs = []) ∨ (j = 1 ∧ n = na ∧ cs = ca) ∨ (j = 2 ∧ n = n1 ∧ cs = ca ++ cb) ∨ (j = 3 ∧ n = n2 ∧ cs = ca ++ cb ++ cc)) ∧ Hid (wr.ownsRow w.heap.size 27 6 vv n cs) ∧ Hid (Below w.heap.size w wr)) (fun _ iv _ => 3 - (intOf iv).toNat)
      case atStart => exact ⟨0, 0, [], rfl, Lib.hid (.inl ⟨rfl, rfl, rfl⟩), HO, HB1⟩
      case round =>
        clear HO HB1
        obtain ⟨j, n, cs, rfl, HJ, HO, HW⟩ := hrel
        have hbs := HW.out.size
        rcases HJ.out with ⟨rfl, hn', hcs'⟩ | ⟨rfl, hn', hcs'⟩ | ⟨rfl, hn', hcs'⟩ | ⟨rfl, hn', hcs'⟩
        · have HCS := Lib.hid (And.intro hn' hcs')
          have c0 := (HW.out.cell (p := ⟨k, 0, none⟩) HK.out.1).trans HK.out.2.1
          have hnn : n ≤ 0 := by omega
          have hnl : n + na ≤ n2 := by omega
          clear hn' hcs'
          cases aa with
          | none =>
            obtain ⟨p1, p2, p3⟩ := Cs.nilS HA.out
            subst p1 p2 p3
            go_wp2_with (at_builtin; refine wpList_append_own_none rfl _ _ 24 rfl w.heap.size 27 i0 6 Try.underlying24 hi _ _ _ rfl HO.out rfl ?_)
            go_roundw
            case rel => exact ⟨1, n, cs, by go_num, Lib.hid (.inr (.inl ⟨rfl, by have := HCS.out.1; omega, by rw [HCS.out.2]⟩)), HO, HW⟩
            case measure => simp [intOf]
          | some ad =>
            have hat := Lib.hid (Cs.at (Cs.on HA.out HW.out))
            go_wp2_with (at_builtin; refine wpList_append_own _ rfl _ _ 24 rfl w.heap.size 27 i0 _ 6 88 Try.underlying24 hi hz0 hz1 hz2 rfl (by decide) _ _ _ rfl HO.out ad na _ ca rfl HA.out.1 hat.out HA.out.2.1 ?d01 ?d02 hbs ?d03)
            case d01 => unfold maxLen; omega
            case d02 => omega
            case d03 =>
              intro v' w2 hown' hgrow _
              have HO' := Lib.hid hown'
              have HW' := Lib.hid (own_bel HW.out HO.out (Nat.le_refl _) hgrow)
              clear hown' hgrow
              go_wp2_with fail
              go_roundw
              case rel => exact ⟨1, n + na, cs ++ ca, by go_num, Lib.hid (.inr (.inl ⟨rfl, by have := HCS.out.1; omega, by rw [HCS.out.2, List.nil_append]⟩)), HO', HW'⟩
              case measure => simp [intOf]
        · have HCS := Lib.hid (And.intro hn' hcs')
          have c1 := (HW.out.cell (p := ⟨k, 1, none⟩) HK.out.1).trans HK.out.2.2.1
          have hnn : n ≤ na := by omega
          have hnl : n + nb ≤ n2 := by omega
          clear hn' hcs'
          cases ab with
          | none =>
            obtain ⟨p1, p2, p3⟩ := Cs.nilS HB.out
            subst p1 p2 p3
            go_wp2_with (at_builtin; refine wpList_append_own_none rfl _ _ 24 rfl w.heap.size 27 i0 6 Try.underlying24 hi _ _ _ rfl HO.out rfl ?_)
            go_roundw
            case rel => exact ⟨2, n, cs, by go_num, Lib.hid (.inr (.inr (.inl ⟨rfl, by have := HCS.out.1; omega, by rw [HCS.out.2, List.append_nil]⟩))), HO, HW⟩
            case measure => simp [intOf]
          | some ad =>
            have hat := Lib.hid (Cs.at (Cs.on HB.out HW.out))
            go_wp2_with (at_builtin; refine wpList_append_own _ rfl _ _ 24 rfl w.heap.size 27 i0 _ 6 88 Try.underlying24 hi hz0 hz1 hz2 rfl (by decide) _ _ _ rfl HO.out ad nb _ cb rfl HB.out.1 hat.out HB.out.2.1 ?d11 ?d12 hbs ?d13)
            case d11 => unfold maxLen; omega
            case d12 => omega
            case d13 =>
              intro v' w2 hown' hgrow _
              have HO' := Lib.hid hown'
              have HW' := Lib.hid (own_bel HW.out HO.out (Nat.le_refl _) hgrow)
              clear hown' hgrow
              go_wp2_with fail
              go_roundw
              case rel => exact ⟨2, n + nb, cs ++ cb, by go_num, Lib.hid (.inr (.inr (.inl ⟨rfl, by have := HCS.out.1; omega, by rw [HCS.out.2]⟩))), HO', HW'⟩
              case measure => simp [intOf]
        · have HCS := Lib.hid (And.intro hn' hcs')
          have c2 := (HW.out.cell (p := ⟨k, 2, none⟩) HK.out.1).trans HK.out.2.2.2
          have hnn : n ≤ n1 := by omega
          have hnl : n + nc ≤ n2 := by omega
          clear hn' hcs'
          cases ac with
          | none =>
            obtain ⟨p1, p2, p3⟩ := Cs.nilS HC.out
            subst p1 p2 p3
            go_wp2_with (at_builtin; refine wpList_append_own_none rfl _ _ 24 rfl w.heap.size 27 i0 6 Try.underlying24 hi _ _ _ rfl HO.out rfl ?_)
            go_roundw
            case rel => exact ⟨3, n, cs, by go_num, Lib.hid (.inr (.inr (.inr ⟨rfl, by have := HCS.out.1; omega, by rw [HCS.out.2, List.append_nil]⟩))), HO, HW⟩
            case measure => simp [intOf]
          | some ad =>
            have hat := Lib.hid (Cs.at (Cs.on HC.out HW.out))
            go_wp2_with (at_builtin; refine wpList_append_own _ rfl _ _ 24 rfl w.heap.size 27 i0 _ 6 88 Try.underlying24 hi hz0 hz1 hz2 rfl (by decide) _ _ _ rfl HO.out ad nc _ cc rfl HC.out.1 hat.out HC.out.2.1 ?d21 ?d22 hbs ?d23)
            case d21 => unfold maxLen; omega
            case d22 => omega
            case d23 =>
              intro v' w2 hown' hgrow _
              have HO' := Lib.hid hown'
              have HW' := Lib.hid (own_bel HW.out HO.out (Nat.le_refl _) hgrow)
              clear hown' hgrow
              go_wp2_with fail
              go_roundw
              case rel => exact ⟨3, n + nc, cs ++ cc, by go_num, Lib.hid (.inr (.inr (.inr ⟨rfl, by have := HCS.out.1; omega, by rw [HCS.out.2]⟩))), HO', HW'⟩
              case measure => simp [intOf]
        · have HCS := Lib.hid (And.intro hn' hcs')
          clear hn' hcs'
          go_wp2_with fail
          go_ret
          refine ⟨u6, rfl, ?_, HW.out, own_new HO.out⟩
          have ho := HO.out
          rw [HCS.out.1, HCS.out.2, List.append_assoc] at ho
          refine own_cs ho (fun u hu => ?_)
          rcases List.mem_append.1 hu with hu | hu
          · exact HA.out.2.1 u hu
          · rcases List.mem_append.1 hu with hu | hu
            · exact HB.out.2.1 u hu
            · exact HC.out.2.1 u hu
set_option maxRecDepth 100000 in
set_option maxHeartbeats 8000000 in
theorem concatS (k : Nat) (va vb vc : Value) (na nb nc : Nat) (ca cb cc : List Value) (w : World) (ha : Cs 1 w va na ca) (hb : Cs 1 w vb nb cb) (hc : Cs 1 w vc nc cc)
    (k0 : w.cell? ⟨k, 0, none⟩ = some va) (k1 : w.cell? ⟨k, 1, none⟩ = some vb) (k2 : w.cell? ⟨k, 2, none⟩ = some vc) (h0 : 0 < na + nb + nc) (hn : (na + nb + nc) * 16 ≤ 140737488355328) :
    Calls Try.prog 69 #[.slice (some ⟨k, 0, none⟩) 3 3] w fun e w' => ∃ v', e = .returned v' ∧ Cs 1 w' v' (na + nb + nc) (ca ++ (cb ++ cc)) ∧ Below w.heap.size w w' ∧ AtNew w.heap.size v' := by
  obtain ⟨i0, hi, hz0, hz1, hz2⟩ := info_parts infoS
  have HA := Lib.hid ha
  have HB := Lib.hid hb
  have HC := Lib.hid hc
  obtain ⟨_, _, aa, acap, rfl, hac, hacm, han, haa⟩ := ha
  obtain ⟨_, _, ab, bcap, rfl, hbc, hbcm, hbn, hbb⟩ := hb
  obtain ⟨_, _, ac, ccap, rfl, hcc, hccm, hcn, hcc2⟩ := hc
  obtain ⟨n1, hn1⟩ : ∃ n1, n1 = na + nb := ⟨_, rfl⟩
  obtain ⟨n2, hn2⟩ : ∃ n2, n2 = na + nb + nc := ⟨_, rfl⟩
  have l1 : n1 ≤ na + nb := by omega
  have l2 : na + nb ≤ n1 := by omega
  have l3 : n2 ≤ n1 + nc := by omega
  have l4 : n1 + nc ≤ n2 := by omega
  have l5 : n2 ≤ 8796093022208 := by omega
  have l6 : 0 < n2 := by omega
  have hg := fun w => growS n2 w l6 (by omega)
  have HGR := Lib.hid hg
  have HN1 := Lib.hid hn1
  have HN2 := Lib.hid hn2
  rw [← hn2]
  have HN := Lib.hid hn
  have HK := Lib.hid (And.intro (World.block_lt_of_cell? w _ k0) (And.intro k0 (And.intro k1 k2)))
  clear han haa hbn hbb hcn hcc2 hg hn1 hn2 h0 hn
  go_enter Try.func69, Try.ntmps69
  go_wp2_with fail
  go_loop [3, 11] (fun sv iv => (sv = .int .i64 0 ∧ iv = .int .i64 0) ∨ (sv = .int .i64 (na : Nat) ∧ iv = .int .i64 1) ∨ (sv = .int .i64 (n1 : Nat) ∧ iv = .int .i64 2) ∨ (sv = .int .i64 (n2 : Nat) ∧ iv = .int .i64 3)) (fun _ iv => 3 - (intOf iv).toNat)
  case atStart => exact .inl ⟨rfl, rfl⟩
  case round =>
    obtain ⟨hkb, k0, k1, k2⟩ := HK.out
    rcases hrel with ⟨rfl, rfl⟩ | ⟨rfl, rfl⟩ | ⟨rfl, rfl⟩ | ⟨rfl, rfl⟩
    · go_wp2_with fail
      go_round
      case rel => exact .inr (.inl ⟨by go_num, rfl⟩)
      case measure => simp [intOf]
    · go_wp2_with fail
      go_round
      case rel => exact .inr (.inr (.inl ⟨congrArg (Value.int .i64) (by omega), rfl⟩))
      case measure => simp [intOf]
    · go_wp2_with fail
      go_round
      case rel => exact .inr (.inr (.inr ⟨congrArg (Value.int .i64) (by omega), rfl⟩))
      case measure => simp [intOf]
    · go_wp2_with (go_at_call 86; refine (HGR.out _).mono ?_; rintro e w1 ⟨g, cap, rfl, hown, b1⟩)
      have HO := Lib.hid hown
      have HB1 := Lib.hid b1
      clear hown b1 k0 k1 k2
      go_loopw [6, 27] (fun vv iv wr => ∃ (j n : Nat) (cs : List Value), iv = .int .i64 (j : Nat) ∧ Hid ((j = 0 ∧ n = 0 ∧ cs = []) ∨ (j = 1 ∧ n = na ∧ cs = ca) ∨ (j = 2 ∧ n = n1 ∧ cs = ca ++ cb) ∨ (j = 3 ∧ n = n2 ∧ cs = ca ++ cb ++ cc)) ∧ Hid (wr.ownsRow w.heap.size 9 1 vv n cs) ∧ Hid (Below w.heap.size w wr)) (fun _ iv _ => 3 - (intOf iv).toNat)
      case atStart => exact ⟨0, 0, [], rfl, Lib.hid (.inl ⟨rfl, rfl, rfl⟩), HO, HB1⟩
      case round =>
        clear HO HB1
        obtain ⟨j, n, cs, rfl, HJ, HO, HW⟩ := hrel
        have hbs := HW.out.size
        rcases HJ.out with ⟨rfl, hn', hcs'⟩ | ⟨rfl, hn', hcs'⟩ | ⟨rfl, hn', hcs'⟩ | ⟨rfl, hn', hcs'⟩
        · have HCS := Lib.hid (And.intro hn' hcs')
          have c0 := (HW.out.cell (p := ⟨k, 0, none⟩) HK.out.1).trans HK.out.2.1
          have hnn : n ≤ 0 := by omega
          have hnl : n + na ≤ n2 := by omega
          clear hn' hcs'
          cases aa with
          | none =>
            obtain ⟨p1, p2, p3⟩ := Cs.nilS HA.out
            subst p1 p2 p3
            go_wp2_with (at_builtin; refine wpList_append_own_none rfl _ _ 25 rfl w.heap.size 9 i0 1 Try.underlying25 hi _ _ _ rfl HO.out rfl ?_)
            go_roundw
            case rel => exact ⟨1, n, cs, by go_num, Lib.hid (.inr (.inl ⟨rfl, by have := HCS.out.1; omega, by rw [HCS.out.2]⟩)), HO, HW⟩
            case measure => simp [intOf]
          | some ad =>
            have hat := Lib.hid (Cs.at (Cs.on HA.out HW.out))
            go_wp2_with (at_builtin; refine wpList_append_own _ rfl _ _ 25 rfl w.heap.size 9 i0 _ 1 16 Try.underlying25 hi hz0 hz1 hz2 rfl (by decide) _ _ _ rfl HO.out ad na _ ca rfl HA.out.1 hat.out HA.out.2.1 ?d01 ?d02 hbs ?d03)
            case d01 => unfold maxLen; omega
            case d02 => omega
            case d03 =>
              intro v' w2 hown' hgrow _
              have HO' := Lib.hid hown'
              have HW' := Lib.hid (own_bel HW.out HO.out (Nat.le_refl _) hgrow)
              clear hown' hgrow
              go_wp2_with fail
              go_roundw
              case rel => exact ⟨1, n + na, cs ++ ca, by go_num, Lib.hid (.inr (.inl ⟨rfl, by have := HCS.out.1; omega, by rw [HCS.out.2, List.nil_append]⟩)), HO', HW'⟩
              case measure => simp [intOf]
        · have HCS := Lib.hid (And.intro hn' hcs')
          have c1 := (HW.out.cell (p := ⟨k, 1, none⟩) HK.out.1).trans HK.out.2.2.1
          have hnn : n ≤ na := by omega
          have hnl : n + nb ≤ n2 := by omega
          clear hn' hcs'
          cases ab with
          | none =>
            obtain ⟨p1, p2, p3⟩ := Cs.nilS HB.out
            subst p1 p2 p3
            go_wp2_with (at_builtin; refine wpList_append_own_none rfl _ _ 25 rfl w.heap.size 9 i0 1 Try.underlying25 hi _ _ _ rfl HO.out rfl ?_)
            go_roundw
            case rel => exact ⟨2, n, cs, by go_num, Lib.hid (.inr (.inr (.inl ⟨rfl, by have := HCS.out.1; omega, by rw [HCS.out.2, List.append_nil]⟩))), HO, HW⟩
            case measure => simp [intOf]
          | some ad =>
            have hat := Lib.hid (Cs.at (Cs.on HB.out HW.out))
            go_wp2_with (at_builtin; refine wpList_append_own _ rfl _ _ 25 rfl w.heap.size 9 i0 _ 1 16 Try.underlying25 hi hz0 hz1 hz2 rfl (by decide) _ _ _ rfl HO.out ad nb _ cb rfl HB.out.1 hat.out HB.out.2.1 ?d11 ?d12 hbs ?d13)
            case d11 => unfold maxLen; omega
            case d12 => omega
            case d13 =>
              intro v' w2 hown' hgrow _
              have HO' := Lib.hid hown'
              have HW' := Lib.hid (own_bel HW.out HO.out (Nat.le_refl _) hgrow)
              clear hown' hgrow
              go_wp2_with fail
              go_roundw
              case rel => exact ⟨2, n + nb, cs ++ cb, by go_num, Lib.hid (.inr (.inr (.inl ⟨rfl, by have := HCS.out.1; omega, by rw [HCS.out.2]⟩))), HO', HW'⟩
              case measure => simp [intOf]
        · have HCS := Lib.hid (And.intro hn' hcs')
          have c2 := (HW.out.cell (p := ⟨k, 2, none⟩) HK.out.1).trans HK.out.2.2.2
          have hnn : n ≤ n1 := by omega
          have hnl : n + nc ≤ n2 := by omega
          clear hn' hcs'
          cases ac with
          | none =>
            obtain ⟨p1, p2, p3⟩ := Cs.nilS HC.out
            subst p1 p2 p3
            go_wp2_with (at_builtin; refine wpList_append_own_none rfl _ _ 25 rfl w.heap.size 9 i0 1 Try.underlying25 hi _ _ _ rfl HO.out rfl ?_)
            go_roundw
            case rel => exact ⟨3, n, cs, by go_num, Lib.hid (.inr (.inr (.inr ⟨rfl, by have := HCS.out.1; omega, by rw [HCS.out.2, List.append_nil]⟩))), HO, HW⟩
            case measure => simp [intOf]
          | some ad =>
            have hat := Lib.hid (Cs.at (Cs.on HC.out HW.out))
            go_wp2_with (at_builtin; refine wpList_append_own _ rfl _ _ 25 rfl w.heap.size 9 i0 _ 1 16 Try.underlying25 hi hz0 hz1 hz2 rfl (by decide) _ _ _ rfl HO.out ad nc _ cc rfl HC.out.1 hat.out HC.out.2.1 ?d21 ?d22 hbs ?d23)
            case d21 => unfold maxLen; omega
            case d22 => omega
            case d23 =>
              intro v' w2 hown' hgrow _
              have HO' := Lib.hid hown'
              have HW' := Lib.hid (own_bel HW.out HO.out (Nat.le_refl _) hgrow)
              clear hown' hgrow
              go_wp2_with fail
              go_roundw
              case rel => exact ⟨3, n + nc, cs ++ cc, by go_num, Lib.hid (.inr (.inr (.inr ⟨rfl, by have := HCS.out.1; omega, by rw [HCS.out.2]⟩))), HO', HW'⟩
              case measure => simp [intOf]
        · have HCS := Lib.hid (And.intro hn' hcs')
          clear hn' hcs'
          go_wp2_with fail
          go_ret
          refine ⟨u6, rfl, ?_, HW.out, own_new HO.out⟩
          have ho := HO.out
          rw [HCS.out.1, HCS.out.2, List.append_assoc] at ho
          refine own_cs ho (fun u hu => ?_)
          rcases List.mem_append.1 hu with hu | hu
          · exact HA.out.2.1 u hu
          · rcases List.mem_append.1 hu with hu | hu
            · exact HB.out.2.1 u hu
            · exact HC.out.2.1 u hu
end Jv
end Go.Proofs.Ytkmfoclhhnhkdaa
