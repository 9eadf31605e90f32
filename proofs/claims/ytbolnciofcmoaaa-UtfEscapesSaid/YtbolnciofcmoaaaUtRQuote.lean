/- What the document's Quote answers, of any signs. -/
import Derived.Test.YtbolnciofcmoaaaUtRSigns
import Derived.Test.YtbolnciofcmoaaaUtRune
import Derived.Test.YtbolnciofcmoaaaUtQuoLow
import Derived.Lib.AppendStr
import Derived.Deep.RegionHeld3
namespace Go.Proofs.Ytbolnciofcmoaaa
open Go.RowKit
namespace Ut
theorem Buf.grewS {B : Nat} {w w' : World} {v v' : Value} {l m : List Nat} {n : Nat} (h : Buf B w v l) (hn : n = l.length + m.length) (ho : w'.ownsRow B 5 1 v' n (cel l ++ cel m)) (hg : w.grownBy w' v.ownBlock) : Grew B w w' v' (l ++ m) := by
  have hb : Below B w w' := (Below.refl B w).grown hg h.le h.lt
  refine ⟨⟨?_, Nat.le_trans h.le hb.size⟩, hb, ?_⟩
  · rw [cel_app, List.length_append, ← hn]; exact ho
  · intro k s pos hk
    have hlt : k < w.heap.size := (Array.getElem?_eq_some_iff.1 hk).1
    exact (hg.block k hlt (own_ne_it h.own hk)).trans hk
/-- how far the document's Quote has come -/
structure RQRel (cs : List Nat) (w : World) (k : Nat) (v : Value) (wr : World) : Prop where
  buf : Buf w.heap.size wr v (34 :: quos (cs.take k))
  bel : Below w.heap.size w wr
theorem RQRel.next {cs : List Nat} {w wr w' : World} {k c : Nat} {v v' : Value} (h : RQRel cs w k v wr) (hc : cs[k]? = some c) (hg : Grew w.heap.size wr w' v' (34 :: quos (cs.take k) ++ quo c)) : RQRel cs w (k + 1) v' w' := by
  refine ⟨?_, h.bel.trans hg.bel⟩
  rw [List.take_add_one, hc, Option.toList_some, quos_snoc]
  exact hg.buf
theorem RQRel.len {cs : List Nat} {w wr : World} {k : Nat} {v : Value} (_ : RQRel cs w k v wr) (hn : cs.length ≤ 1000000000) : (34 :: quos (cs.take k)).length ≤ 10000000000 := by
  have := quos_len (cs.take k)
  rw [List.length_take] at this
  rw [List.length_cons]; omega
theorem dig_hx {d : Nat} (h : d < 16) : (({ data := #[48, 49, 50, 51, 52, 53, 54, 55, 56, 57, 97, 98, 99, 100, 101, 102] } : ByteArray)[d]'(show d < 16 from h)).toNat = hx d := by
  have : ∀ d (h : d < 16), (({ data := #[48, 49, 50, 51, 52, 53, 54, 55, 56, 57, 97, 98, 99, 100, 101, 102] } : ByteArray)[d]'(show d < 16 from h)).toNat = hx d := by decide
  exact this d h
set_option maxRecDepth 100000 in
set_option maxHeartbeats 4000000 in
theorem rquote_some (cs : List Nat) (g cap : Nat) (w : World) (hcs : Sgs cs) (hn : cs.length ≤ 1000000000) (hcell : ∀ (j : Nat) u, (inl cs)[j]? = some u → w.cell? ⟨g, j, none⟩ = some u) (hg : g < w.heap.size) :
    Calls Try.prog 15 #[.slice (some ⟨g, 0, none⟩) cs.length cap] w fun e w' => e = .returned (.string (str (quoted cs))) ∧ Below w.heap.size w w' := by
  obtain ⟨i0, hi, hz0, hz1, hz2⟩ := info_parts info_b
  have HC0 := Lib.hid hcell
  have HSG := Lib.hid hcs
  clear hcell hcs
  go_enter Try.func15, Try.ntmps15
  go_wp2
  go_loopw [4, 5, 6, 7] (fun v i _ _ wr => ∃ k : Nat, i = .int .i64 k ∧ k ≤ cs.length ∧ RQRel cs w k v wr) (fun _ i _ _ _ => cs.length - (intOf i).toNat)
  case atStart => exact ⟨0, rfl, by omega, ⟨put_own w w.heap.size [34] (Nat.le_refl _) (by decide), by simp⟩, (Below.refl _ _).alloc (Nat.le_refl _) _⟩
  case round =>
    obtain ⟨k, rfl, hk, hr⟩ := hrel
    have HR := Lib.hid hr
    have hlen := hr.len hn
    clear hr
    by_cases hlt : k < cs.length
    · obtain ⟨c, hc⟩ : ∃ c, cs[k]? = some c := ⟨cs[k], List.getElem?_eq_getElem hlt⟩
      have HC := Lib.hid hc
      have hsg : Sg c := HSG.out c (List.mem_of_getElem? hc)
      have hsg' := hsg
      unfold Sg at hsg'
      have hcl : wr.cell? ⟨g, k, none⟩ = some (.int .i64 (c : Nat)) := by
        rw [HR.out.bel.cell (p := ⟨g, k, none⟩) hg]
        exact HC0.out k _ (by unfold inl; rw [List.getElem?_map, hc]; rfl)
      clear hc
      by_cases s34 : c = 34
      · subst s34
        go_wp2_with (at_builtin; refine Lib.wpList_append_own_string _ rfl _ _ 26 9 rfl w.heap.size 5 i0 Try.underlying26 Try.underlying9 hi hz0 hz1 hz2 _ _ _ rfl HR.out.buf.own ⟨#[92, 34]⟩ rfl ?a34 ?b34 ?c34 ?d34)
        case a34 => show _ + 2 ≤ _; unfold maxLen; omega
        case b34 => show _ + 2 ≤ _; omega
        case c34 => exact HR.out.buf.le
        case d34 =>
          intro v' w2 hown' hgrow _
          go_wp2
          go_roundw
          case rel => exact ⟨k + 1, by go_num, by omega, HR.out.next HC.out (HR.out.buf.grewS (m := [92, 34]) rfl hown' hgrow)⟩
          case measure => simp [intOf]; omega
      by_cases s92 : c = 92
      · subst s92
        go_wp2_with (at_builtin; refine Lib.wpList_append_own_string _ rfl _ _ 26 9 rfl w.heap.size 5 i0 Try.underlying26 Try.underlying9 hi hz0 hz1 hz2 _ _ _ rfl HR.out.buf.own ⟨#[92, 92]⟩ rfl ?a92 ?b92 ?c92 ?d92)
        case a92 => show _ + 2 ≤ _; unfold maxLen; omega
        case b92 => show _ + 2 ≤ _; omega
        case c92 => exact HR.out.buf.le
        case d92 =>
          intro v' w2 hown' hgrow _
          go_wp2
          go_roundw
          case rel => exact ⟨k + 1, by go_num, by omega, HR.out.next HC.out (HR.out.buf.grewS (m := [92, 92]) rfl hown' hgrow)⟩
          case measure => simp [intOf]; omega
      by_cases s8 : c = 8
      · subst s8
        go_wp2_with (at_builtin; refine Lib.wpList_append_own_string _ rfl _ _ 26 9 rfl w.heap.size 5 i0 Try.underlying26 Try.underlying9 hi hz0 hz1 hz2 _ _ _ rfl HR.out.buf.own ⟨#[92, 98]⟩ rfl ?a8 ?b8 ?c8 ?d8)
        case a8 => show _ + 2 ≤ _; unfold maxLen; omega
        case b8 => show _ + 2 ≤ _; omega
        case c8 => exact HR.out.buf.le
        case d8 =>
          intro v' w2 hown' hgrow _
          go_wp2
          go_roundw
          case rel => exact ⟨k + 1, by go_num, by omega, HR.out.next HC.out (HR.out.buf.grewS (m := [92, 98]) rfl hown' hgrow)⟩
          case measure => simp [intOf]; omega
      by_cases s9 : c = 9
      · subst s9
        go_wp2_with (at_builtin; refine Lib.wpList_append_own_string _ rfl _ _ 26 9 rfl w.heap.size 5 i0 Try.underlying26 Try.underlying9 hi hz0 hz1 hz2 _ _ _ rfl HR.out.buf.own ⟨#[92, 116]⟩ rfl ?a9 ?b9 ?c9 ?d9)
        case a9 => show _ + 2 ≤ _; unfold maxLen; omega
        case b9 => show _ + 2 ≤ _; omega
        case c9 => exact HR.out.buf.le
        case d9 =>
          intro v' w2 hown' hgrow _
          go_wp2
          go_roundw
          case rel => exact ⟨k + 1, by go_num, by omega, HR.out.next HC.out (HR.out.buf.grewS (m := [92, 116]) rfl hown' hgrow)⟩
          case measure => simp [intOf]; omega
      by_cases s10 : c = 10
      · subst s10
        go_wp2_with (at_builtin; refine Lib.wpList_append_own_string _ rfl _ _ 26 9 rfl w.heap.size 5 i0 Try.underlying26 Try.underlying9 hi hz0 hz1 hz2 _ _ _ rfl HR.out.buf.own ⟨#[92, 110]⟩ rfl ?a10 ?b10 ?c10 ?d10)
        case a10 => show _ + 2 ≤ _; unfold maxLen; omega
        case b10 => show _ + 2 ≤ _; omega
        case c10 => exact HR.out.buf.le
        case d10 =>
          intro v' w2 hown' hgrow _
          go_wp2
          go_roundw
          case rel => exact ⟨k + 1, by go_num, by omega, HR.out.next HC.out (HR.out.buf.grewS (m := [92, 110]) rfl hown' hgrow)⟩
          case measure => simp [intOf]; omega
      by_cases s12 : c = 12
      · subst s12
        go_wp2_with (at_builtin; refine Lib.wpList_append_own_string _ rfl _ _ 26 9 rfl w.heap.size 5 i0 Try.underlying26 Try.underlying9 hi hz0 hz1 hz2 _ _ _ rfl HR.out.buf.own ⟨#[92, 102]⟩ rfl ?a12 ?b12 ?c12 ?d12)
        case a12 => show _ + 2 ≤ _; unfold maxLen; omega
        case b12 => show _ + 2 ≤ _; omega
        case c12 => exact HR.out.buf.le
        case d12 =>
          intro v' w2 hown' hgrow _
          go_wp2
          go_roundw
          case rel => exact ⟨k + 1, by go_num, by omega, HR.out.next HC.out (HR.out.buf.grewS (m := [92, 102]) rfl hown' hgrow)⟩
          case measure => simp [intOf]; omega
      by_cases s13 : c = 13
      · subst s13
        go_wp2_with (at_builtin; refine Lib.wpList_append_own_string _ rfl _ _ 26 9 rfl w.heap.size 5 i0 Try.underlying26 Try.underlying9 hi hz0 hz1 hz2 _ _ _ rfl HR.out.buf.own ⟨#[92, 114]⟩ rfl ?a13 ?b13 ?c13 ?d13)
        case a13 => show _ + 2 ≤ _; unfold maxLen; omega
        case b13 => show _ + 2 ≤ _; omega
        case c13 => exact HR.out.buf.le
        case d13 =>
          intro v' w2 hown' hgrow _
          go_wp2
          go_roundw
          case rel => exact ⟨k + 1, by go_num, by omega, HR.out.next HC.out (HR.out.buf.grewS (m := [92, 114]) rfl hown' hgrow)⟩
          case measure => simp [intOf]; omega
      have HQ := Lib.hid (⟨s34, s92, s8, s9, s10, s12, s13⟩ : c ≠ 34 ∧ c ≠ 92 ∧ c ≠ 8 ∧ c ≠ 9 ∧ c ≠ 10 ∧ c ≠ 12 ∧ c ≠ 13)
      have e34 : ((c : Int) == 34) = false := by simp; omega
      have e92 : ((c : Int) == 92) = false := by simp; omega
      have e8 : ((c : Int) == 8) = false := by simp; omega
      have e9 : ((c : Int) == 9) = false := by simp; omega
      have e10 : ((c : Int) == 10) = false := by simp; omega
      have e12 : ((c : Int) == 12) = false := by simp; omega
      have e13 : ((c : Int) == 13) = false := by simp; omega
      clear s34 s92 s8 s9 s10 s12 s13
      by_cases h32 : c < 32
      · obtain ⟨a, ha⟩ : ∃ a, c / 16 = a := ⟨_, rfl⟩
        obtain ⟨d, hd⟩ : ∃ d, c % 16 = d := ⟨_, rfl⟩
        have ha2 : a < 2 := by omega
        have hd16 : d < 16 := by omega
        have hqa : (c : Int) / 16 = (a : Nat) := by omega
        have hqd : (c : Int) % 16 = (d : Nat) := by omega
        have ha0 : (0 : Int) ≤ (a : Int) := by omega
        have ha1 : (a : Int) < 16 := by omega
        have hd0 : (0 : Int) ≤ (d : Int) := by omega
        have hd1 : (d : Int) < 16 := by omega
        have hwa : IntKind.i64.wrap (a : Int) = (a : Int) := IntWalk.i64_in _ (by omega)
        have hwd : IntKind.i64.wrap (d : Int) = (d : Int) := IntWalk.i64_in _ (by omega)
        have hqd2 : (c : Int).tmod 16 = (d : Nat) := by rw [Int.tmod_eq_emod_of_nonneg (by omega)]; omega
        have ha4 : a < 16 := by omega
        have hq : quo c = [92, 117, 48, 48, ({ data := #[48, 49, 50, 51, 52, 53, 54, 55, 56, 57, 97, 98, 99, 100, 101, 102] } : ByteArray)[a].toNat, ({ data := #[48, 49, 50, 51, 52, 53, 54, 55, 56, 57, 97, 98, 99, 100, 101, 102] } : ByteArray)[d].toNat] := by
          rw [quo_low h32 HQ.out.2.2.1 HQ.out.2.2.2.1 HQ.out.2.2.2.2.1 HQ.out.2.2.2.2.2.1 HQ.out.2.2.2.2.2.2, ha, hd, dig_hx ha4, dig_hx hd16]
        have HQ2 := Lib.hid hq
        clear hq ha hd
        go_wp2
        go_region_held3 (fun _ => True) (first | trivial) ((refine step_append_mine rfl _ _ rfl w.heap.size _ _ rfl (HR.out.buf.own.alloc _) (by have := HR.out.buf.le; simp; omega) (by omega) ⟨wr.heap.size, 0, none⟩ [92, 117, 48, 48, ({ data := #[48, 49, 50, 51, 52, 53, 54, 55, 56, 57, 97, 98, 99, 100, 101, 102] } : ByteArray)[a].toNat, ({ data := #[48, 49, 50, 51, 52, 53, 54, 55, 56, 57, 97, 98, 99, 100, 101, 102] } : ByteArray)[d].toNat] 6 rfl (by simp) (cells_put wr _) ?_; intro v' w2 hown' hgrow))
        all_goals
          go_wp2
          go_roundw
          case rel => exact ⟨k + 1, by go_num, by omega, HR.out.next HC.out (by rw [HQ2.out]; exact HR.out.buf.grewD rfl hown' hgrow)⟩
          case measure => simp [intOf]; omega
      · have hpa := fun w => put_any c w (by omega)
        have hq : quo c = put c := quo_put h32 HQ.out.1 HQ.out.2.1
        have hpl := put_len c
        obtain ⟨p, hp⟩ : ∃ p, put c = p := ⟨_, rfl⟩
        rw [hp] at hpa hq hpl
        have HQ2 := Lib.hid hq
        clear hp hq
        go_wp2_with (first | (go_at_call 10; refine (hpa _).mono ?_; rintro e w' ⟨rfl, rfl⟩) | (at_builtin; refine wpList_append_own _ rfl _ _ 26 rfl w.heap.size 5 i0 (.int .u8 0) 1 1 Try.underlying26 hi hz0 hz1 hz2 rfl (by decide) _ _ _ rfl (HR.out.buf.own.alloc _) ⟨wr.heap.size, 0, none⟩ p.length p.length (cel p) rfl (by rw [cel_len]; omega) ?p1 ?p2 ?p3 ?p4 ?p5 ?p6))
        case p1 => exact cells_put wr _
        case p2 => exact cel_one _
        case p3 => unfold maxLen; omega
        case p4 => omega
        case p5 => have := HR.out.buf.le; simp; omega
        case p6 =>
          intro v' w2 hown' hgrow _
          go_wp2
          go_roundw
          case rel => exact ⟨k + 1, by go_num, by omega, HR.out.next HC.out (by rw [HQ2.out]; exact HR.out.buf.grew rfl hown' hgrow)⟩
          case measure => simp [intOf]; omega
    · obtain rfl : k = cs.length := by omega
      have hbf := HR.out.buf
      rw [List.take_length] at hbf
      have HBF := Lib.hid hbf
      have hlq := quos_len cs
      clear hbf
      go_wp2_with (at_builtin; refine wpList_append_own _ rfl _ _ 26 rfl w.heap.size 5 i0 (.int .u8 0) 1 1 Try.underlying26 hi hz0 hz1 hz2 rfl (by decide) _ _ _ rfl (HBF.out.own.alloc _) ⟨wr.heap.size, 0, none⟩ 1 1 (cel [34]) rfl rfl ?d1 ?d2 ?d3 ?d4 ?d5 ?d6)
      case d1 => exact cells_put wr _
      case d2 => exact cel_one _
      case d3 => rw [List.length_cons]; unfold maxLen; omega
      case d4 => rw [List.length_cons]; omega
      case d5 => have := HR.out.buf.le; simp; omega
      case d6 =>
        intro v3 w3 hown3 hgrow3 _
        have hg3 := HBF.out.grew (m := [34]) rfl hown3 hgrow3
        have hcv := conv_own hg3.buf.own
        clear hown3 hgrow3
        go_wp2
        go_ret
        exact ⟨rfl, HR.out.bel.trans hg3.bel⟩
set_option maxRecDepth 100000 in
set_option maxHeartbeats 1000000 in
theorem rquote_nil (w : World) :
    Calls Try.prog 15 #[.slice none 0 0] w fun e w' => e = .returned (.string (str (quoted []))) ∧ Below w.heap.size w w' := by
  obtain ⟨i0, hi, hz0, hz1, hz2⟩ := info_parts info_b
  go_enter Try.func15, Try.ntmps15
  go_wp2
  go_loopw [4, 5, 6, 7] (fun v i _ _ wr => i = .int .i64 0 ∧ Hid (RQRel [] w 0 v wr)) (fun _ _ _ _ _ => 0)
  case atStart => exact ⟨rfl, Lib.hid ⟨⟨put_own w w.heap.size [34] (Nat.le_refl _) (by decide), by simp⟩, (Below.refl _ _).alloc (Nat.le_refl _) _⟩⟩
  case round =>
    obtain ⟨rfl, HR⟩ := hrel
    go_wp2_with (at_builtin; refine wpList_append_own _ rfl _ _ 26 rfl w.heap.size 5 i0 (.int .u8 0) 1 1 Try.underlying26 hi hz0 hz1 hz2 rfl (by decide) _ _ _ rfl (HR.out.buf.own.alloc _) ⟨wr.heap.size, 0, none⟩ 1 1 (cel [34]) rfl rfl ?d1 ?d2 ?d3 ?d4 ?d5 ?d6)
    case d1 => exact cells_put wr _
    case d2 => exact cel_one _
    case d3 => decide
    case d4 => decide
    case d5 => have := HR.out.buf.le; simp; omega
    case d6 =>
      intro v3 w3 hown3 hgrow3 _
      have hg3 := HR.out.buf.grew (m := [34]) rfl hown3 hgrow3
      have hcv := conv_own hg3.buf.own
      clear hown3 hgrow3
      go_wp2
      go_ret
      exact ⟨rfl, HR.out.bel.trans hg3.bel⟩
theorem rquote_any (cs : List Nat) (v : Value) (B : Nat) (w : World) (hcs : Sgs cs) (hn : cs.length ≤ 1000000000) (hown : w.ownsRow B 3 1 v cs.length (inl cs)) :
    Calls Try.prog 15 #[v] w fun e w' => e = .returned (.string (str (quoted cs))) ∧ Below w.heap.size w w' := by
  rcases hown.2 with ⟨rfl, hz⟩ | ⟨g, cap, cur, rfl, _, hgg, _⟩
  · obtain rfl := List.length_eq_zero_iff.1 hz
    exact rquote_nil w
  · refine rquote_some cs g cap w hcs hn (fun j u hj => ?_) (Array.getElem?_eq_some_iff.1 hgg).1
    have := hown.cells rfl j u hj
    have hadd : (⟨g, 0, none⟩ : Addr).add j = ⟨g, j, none⟩ := by unfold Addr.add; split <;> simp_all
    rw [hadd] at this
    exact this
end Ut
end Go.Proofs.Ytbolnciofcmoaaa
