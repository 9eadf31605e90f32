/- What the law AuthDown does: it answers true. -/
import Derived.Test.YtmfdclnepmgmlaaAuLives
namespace Go.Proofs.Ytmfdclnepmgmlaa
open Go.RowKit
namespace Lv
theorem leqB_iff {n : Nat} {r : Nat → Nat → Bool} {a b : Int} : leqB n r a b = true ↔ ∃ x y : Nat, a = x ∧ b = y ∧ x < n ∧ y < n ∧ r x y = true := by
  unfold leqB inI
  simp only [Bool.and_eq_true, decide_eq_true_eq]
  constructor
  · rintro ⟨⟨⟨h1, h2⟩, h3, h4⟩, h5⟩
    exact ⟨a.toNat, b.toNat, by omega, by omega, by omega, by omega, h5⟩
  · rintro ⟨x, y, rfl, rfl, h1, h2, h3⟩
    exact ⟨⟨⟨by omega, by omega⟩, by omega, by omega⟩, h3⟩
theorem covB_down {n : Nat} {r : Nat → Nat → Bool} {l : List Int} (o : Ord r n) {a b : Int} (h : leqB n r a b = true) (hb : covB n r l b = true) : covB n r l a = true := by
  unfold covB at hb ⊢
  rw [List.any_eq_true] at hb ⊢
  obtain ⟨c, hc, h2⟩ := hb
  obtain ⟨x, y, rfl, rfl, hx, hy, h3⟩ := leqB_iff.1 h
  obtain ⟨y', z, hyy, rfl, _, hz, h4⟩ := leqB_iff.1 h2
  obtain rfl : y = y' := by omega
  exact ⟨_, hc, leqB_iff.2 ⟨x, z, rfl, rfl, hx, hz, o.trans x y z hx hy hz h3 h4⟩⟩
theorem covB_self {n : Nat} {r : Nat → Nat → Bool} {l : List Int} (o : Ord r n) {x : Int} {k : Nat} (hx : l[k]? = some x) (h : inI x n = true) : covB n r l x = true := by
  refine covB_yes hx ?_
  unfold inI at h
  simp only [Bool.and_eq_true, decide_eq_true_eq] at h
  exact leqB_iff.2 ⟨x.toNat, x.toNat, by omega, by omega, by omega, by omega, o.refl _ (by omega)⟩
set_option maxHeartbeats 2000000 in
set_option maxRecDepth 100000 in
theorem down_any (n : Int) (v : Value) (ps : List Prin) (s : ByteArray) (w : World) (hp : PrinsAt w v ps) (hl : ps.length ≤ maxLen) :
    Calls Try.prog 5 #[.int .i64 n, v, .string s] w fun e w' => e = .returned (.bool true) ∧ Below w.heap.size w w' := by
  obtain ⟨pa, cap, rfl, hcap, _⟩ := hp.form
  go_enter Try.func5, Try.ntmps5
  go_wp2_with fail
  refine (sort_any n _).mono ?_
  generalize (n % 6).toNat = kk
  rintro e w1 ⟨hb1, vn, vb, rfl, hn, hpp⟩
  have HN := Lib.hid hn
  have HPP := Lib.hid hpp
  clear hn hpp
  go_wp2_with fail
  refine (new_sort kk vn vb _ _ HN.out HPP.out).mono ?_
  rintro e w2 ⟨hb2, g, rfl, hg, hL⟩
  have k2 := bt hb1 hb2
  have HL2 := Lib.hid hL
  have HP2 := Lib.hid (hp.go k2)
  clear hb1 hb2 HN HPP hL hp hg
  have n8 := sz_le kk
  have HO := Lib.hid (sr_ord kk)
  go_wp2_with fail
  refine (alight_any _ ps _ HP2.out hl).mono ?_
  rintro e w' ⟨rfl, rfl⟩
  cases hli : alB ps
  · go_wp2_with fail
    refine (alives_any _).mono ?_
    rintro e w3 ⟨rfl, hb3⟩
    go_wp2
    go_ret
    exact ⟨rfl, bt k2 hb3⟩
  · go_wp2
    go_loopw [9, 10] (fun i _ wr => ∃ a : Nat, a ≤ sz kk ∧ i = .int .i64 a ∧ Below w2.heap.size w2 wr) (fun i _ _ => sz kk - (intOf i).toNat)
    case atStart => exact ⟨0, by omega, rfl, Below.refl _ _⟩
    case round =>
      obtain ⟨a, ha, rfl, kb⟩ := hrel
      obtain ⟨wo, rfl⟩ : ∃ wo : World, wo = wr := ⟨_, rfl⟩
      have HL3 := Lib.hid (HL2.out.go kb)
      have HP3 := Lib.hid (HP2.out.go kb)
      by_cases hlt : a < sz kk
      · go_wp2_with (go_at_call 18; refine (size_any _ _ _ _ _ _ _ _ _ HL3.out).mono ?_; rintro e w' ⟨rfl, rfl⟩)
        go_loopw [10] (fun i wr => ∃ b : Nat, b ≤ sz kk ∧ i = .int .i64 b ∧ Below wo.heap.size wo wr) (fun i _ => sz kk - (intOf i).toNat)
        case atStart => exact ⟨0, by omega, rfl, Below.refl _ _⟩
        case round =>
          obtain ⟨b, hb, rfl, kc⟩ := hrel
          have HL4 := Lib.hid (HL3.out.go kc)
          have HP4 := Lib.hid (HP3.out.go kc)
          by_cases hlt2 : b < sz kk
          · go_wp2_with (go_at_call 18; refine (size_any _ _ _ _ _ _ _ _ _ HL4.out).mono ?_; rintro e w' ⟨rfl, rfl⟩)
            refine (leq_any _ _ _ _ _ _ _ _ _ _ _ HL4.out n8).mono ?_
            rintro e w' ⟨rfl, rfl⟩
            cases q1 : leqB (sz kk) (sr kk) a b
            · go_wp2
              go_roundw
              case rel => exact ⟨b + 1, by omega, by go_num, kc⟩
              case measure => simp [intOf]; omega
            · go_wp2_with fail
              refine (over_any _ ps s b _ HL4.out n8 HP4.out hl).mono ?_
              rintro e w5 ⟨rfl, hb5⟩
              have k5 := bt kc hb5
              cases q2 : covB (sz kk) (sr kk) (overL ps s) b
              · go_wp2
                go_roundw
                case rel => exact ⟨b + 1, by omega, by go_num, k5⟩
                case measure => simp [intOf]; omega
              · have q3 := covB_down HO.out q1 q2
                go_wp2_with fail
                refine (over_any _ ps s a _ (HL4.out.go hb5) n8 (HP4.out.go hb5) hl).mono ?_
                rintro e w6 ⟨rfl, hb6⟩
                have k6 := bt k5 hb6
                go_wp2
                go_roundw
                case rel => exact ⟨b + 1, by omega, by go_num, k6⟩
                case measure => simp [intOf]; omega
          · obtain rfl : b = sz kk := by omega
            go_wp2_with (go_at_call 18; refine (size_any _ _ _ _ _ _ _ _ _ HL4.out).mono ?_; rintro e w' ⟨rfl, rfl⟩)
            go_roundw
            case rel => exact ⟨a + 1, by omega, by go_num, bt kb kc⟩
            case measure => simp [intOf]; omega
      · obtain rfl : a = sz kk := by omega
        have k3 := bt k2 kb
        go_wp2_with (go_at_call 18; refine (size_any _ _ _ _ _ _ _ _ _ HL3.out).mono ?_; rintro e w' ⟨rfl, rfl⟩)
        refine (find_any' _ ps s _ HP3.out hl).mono ?_
        cases hf : fnd ps s with
        | none =>
          rintro e w4 ⟨rfl, hb4⟩
          dsimp only [Option.isSome, fndN]
          go_wp2
          go_loopw [13] (fun i wr => i = .int .i64 0 ∧ Below wo.heap.size wo wr) (fun i _ => 0)
          case atStart => exact ⟨rfl, hb4⟩
          case round =>
            obtain ⟨rfl, kc⟩ := hrel
            go_wp2_with fail
            refine (alives_any _).mono ?_
            rintro e w5 ⟨rfl, hb5⟩
            go_wp2
            go_ret
            exact ⟨rfl, bt (bt k3 kc) hb5⟩
        | some i =>
          obtain ⟨l, hx⟩ := fnd_is hf
          have ho := overL_some hf hx
          have hi := (List.getElem?_eq_some_iff.1 hx).1
          obtain ⟨pa', cap', hv, _, hc⟩ := HP3.out.form
          cases hv
          obtain ⟨b, off, u, rfl, c1, c2, hu, hs⟩ := hc i _ hx
          clear hc hx
          dsimp only at ho c1 c2 hu
          obtain ⟨ua, ucap, rfl, hul, hcu⟩ := hu.form
          have HU := Lib.hid hcu
          clear hu hcu
          have hl' := hl
          unfold maxLen at hul hl'
          rintro e w4 ⟨rfl, hb4⟩
          dsimp only [Option.isSome, fndN]
          go_wp2
          go_loopw [13] (fun i wr => ∃ k : Nat, k ≤ l.length ∧ i = .int .i64 k ∧ Below wo.heap.size wo wr) (fun i _ => l.length - (intOf i).toNat)
          case atStart => exact ⟨0, by omega, rfl, hb4⟩
          case round =>
            obtain ⟨k, hk, rfl, kc⟩ := hrel
            have e1 := cellB kc c1
            have e2 := cellB kc c2
            by_cases hlt : k < l.length
            · obtain ⟨x, hx⟩ : ∃ x, l[k]? = some x := ⟨_, List.getElem?_eq_getElem hlt⟩
              obtain ⟨bu, offu, rfl, c3⟩ := HU.out k _ hx
              have e3 := cellB kc c3
              clear c3
              have HX := Lib.hid hx
              clear hx
              have HL4 := Lib.hid (HL3.out.go kc)
              have HP4 := Lib.hid (HP3.out.go kc)
              cases q1 : inI x (sz kk)
              · go_wp2_with (go_at_call 20; refine (is_any _ _ _ _ _ _ _ _ _ _ HL4.out).mono ?_; rintro e w' ⟨rfl, rfl⟩)
                go_roundw
                case rel => exact ⟨k + 1, by omega, by go_num, kc⟩
                case measure => simp [intOf]; omega
              · have q2 : covB (sz kk) (sr kk) (overL ps s) x = true := by rw [ho]; exact covB_self HO.out HX.out q1
                clear ho
                go_wp2_with (go_at_call 20; refine (is_any _ _ _ _ _ _ _ _ _ _ HL4.out).mono ?_; rintro e w' ⟨rfl, rfl⟩)
                refine (over_any _ ps s x _ HL4.out n8 HP4.out hl).mono ?_
                rintro e w5 ⟨rfl, hb5⟩
                go_wp2
                go_roundw
                case rel => exact ⟨k + 1, by omega, by go_num, bt kc hb5⟩
                case measure => simp [intOf]; omega
            · obtain rfl : k = l.length := by omega
              go_wp2_with fail
              refine (alives_any _).mono ?_
              rintro e w5 ⟨rfl, hb5⟩
              go_wp2
              go_ret
              exact ⟨rfl, bt (bt k3 kc) hb5⟩
end Lv
end Go.Proofs.Ytmfdclnepmgmlaa
