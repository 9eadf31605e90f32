/- What the law AuthOver does: it answers true. -/
import Derived.Test.YtmfdclnepmgmlaaAuLives
import Derived.Test.YtmfdclnepmgmlaaLvTable
namespace Go.Proofs.Ytmfdclnepmgmlaa
open Go.RowKit
namespace Lv
/-- is the level a below one of the first k of l? -/
def covTo (n : Nat) (r : Nat → Nat → Bool) (l : List Int) (a : Int) (k : Nat) : Bool := (l.take k).any fun b => leqB n r a b
theorem covTo_succ {n : Nat} {r : Nat → Nat → Bool} {l : List Int} {a : Int} {k : Nat} {x : Int} (hx : l[k]? = some x) : covTo n r l a (k + 1) = (covTo n r l a k || leqB n r a x) := by
  unfold covTo
  rw [List.take_add_one, hx]
  simp
theorem covTo_all (n : Nat) (r : Nat → Nat → Bool) (l : List Int) (a : Int) : covTo n r l a l.length = covB n r l a := by
  unfold covTo covB
  rw [List.take_length]
theorem reach_le (n : Nat) (r : Nat → Nat → Bool) (l : List Int) : ∀ (d a : Nat), ∃ t, reachL n r l (a + d) = reachL n r l a ++ t
  | 0, a => ⟨[], by simp⟩
  | d + 1, a => by
    obtain ⟨t, ht⟩ := reach_le n r l d a
    rw [← Nat.add_assoc, reachL_succ, ht]
    split
    · exact ⟨t ++ [a + d], by rw [List.append_assoc]⟩
    · exact ⟨t, rfl⟩
theorem reach_get {n : Nat} {r : Nat → Nat → Bool} {l : List Int} {a m : Nat} (ha : a < m) (h : covB n r l (a : Int) = true) : (reachL n r l m)[(reachL n r l a).length]? = some a := by
  obtain ⟨t, ht⟩ := reach_le n r l (m - (a + 1)) (a + 1)
  rw [show a + 1 + (m - (a + 1)) = m by omega] at ht
  rw [ht, reachL_succ, if_pos h]
  simp
theorem leqB_tab {n : Nat} {r : Nat → Nat → Bool} {a y : Nat} (ha : a < n) (hy : y < n) : leqB n r (a : Int) (y : Int) = r a y := by
  unfold leqB
  simp [inI, ha, hy]
theorem leqB_out {n : Nat} {r : Nat → Nat → Bool} {a x : Int} (h : x < 0 ∨ (n : Int) ≤ x) : leqB n r a x = false := by
  unfold leqB
  have : inI x n = false := by
    unfold inI
    simp
    omega
  rw [this]
  simp
theorem cov_out {n : Nat} {r : Nat → Nat → Bool} {l : List Int} {a : Int} (h : a < 0 ∨ (n : Int) ≤ a) : covB n r l a = false := by
  refine covB_no fun i x _ _ => ?_
  unfold leqB
  have : inI a n = false := by
    unfold inI
    simp
    omega
  rw [this]
  rfl
theorem fnd_nn (o : Option Nat) : decide (0 ≤ fndI o) = o.isSome := by
  cases o with
  | none => rfl
  | some k => exact decide_eq_true (show (0 : Int) ≤ (k : Int) by omega)
set_option maxHeartbeats 4000000 in
set_option maxRecDepth 100000 in
theorem aover_any (n : Int) (v : Value) (ps : List Prin) (s : ByteArray) (w : World) (hp : PrinsAt w v ps) (hl : ps.length ≤ maxLen) :
    Calls Try.prog 4 #[.int .i64 n, v, .string s] w fun e w' => e = .returned (.bool true) ∧ Below w.heap.size w w' := by
  obtain ⟨pa, cap, rfl, hcap, _⟩ := hp.form
  go_enter Try.func4, Try.ntmps4
  go_wp2_with fail
  refine (alight_any _ ps _ hp hl).mono ?_
  rintro e w' ⟨rfl, rfl⟩
  cases hli : alB ps
  · go_wp2_with fail
    refine (alives_any _).mono ?_
    rintro e w3 ⟨rfl, hb3⟩
    go_wp2
    go_ret
    exact ⟨rfl, hb3⟩
  · go_wp2_with fail
    refine (sort_any n _).mono ?_
    generalize (n % 6).toNat = kk
    rintro e w1 ⟨hb1, vn, vb, rfl, hn, hpp⟩
    obtain ⟨an, capn, rfl, _, _⟩ := hn.form
    obtain ⟨ab, capb, rfl, _⟩ := hpp.form
    have n8 := sz_le kk
    have n1 := sz_pos kk
    have hb2 : Below w1.heap.size w1 (w1.alloc (Obj.cells #[Value.slice an (sn kk).length capn, Value.slice ab (sp kk).length capb, Value.slice none 0 0] 28)) := (Below.refl _ _).alloc (Nat.le_refl _) _
    have f0 := al_new w1 (Obj.cells #[Value.slice an (sn kk).length capn, Value.slice ab (sp kk).length capb, Value.slice none 0 0] 28)
    have HN := Lib.hid (hn.go hb2)
    have HPP := Lib.hid (hpp.go hb2)
    have F0 := Lib.hid f0
    clear hn hpp f0
    go_wp2_with fail
    refine (new_sort kk _ _ _ _ HN.out HPP.out).mono ?_
    rintro e w2 ⟨hb3, g, rfl, hg, hL⟩
    have k2 := bt (bt hb1 hb2) hb3
    have HL2 := Lib.hid hL
    have HN2 := Lib.hid (HN.out.go hb3)
    have HPP2 := Lib.hid (HPP.out.go hb3)
    have F2 := bkeep hb3 F0.out
    have q0 := cell_of_row w2 w1.heap.size 0 _ _ _ F2
    have q1 := cell_of_row w2 w1.heap.size 1 _ _ _ F2
    have q2 := cell_of_row w2 w1.heap.size 2 _ _ _ F2
    clear hb1 hb2 hb3 HN HPP hL hg F0 F2
    go_wp2_with fail
    refine (table_any _ _ _ (sn kk) (sp kk) _ HN2.out HPP2.out n1 n8 (sort_good kk).pairs).mono ?_
    rintro e w3 ⟨hb3, tv, rfl, htab⟩
    have htab : TabAt w3 tv (sz kk) (sr kk) := htab
    obtain ⟨gt, capt, R, C, rfl, ht⟩ := htab.form
    have k3 := bt k2 hb3
    have HT3 := Lib.hid ht
    have HL3 := Lib.hid (HL2.out.go hb3)
    have HP3 := Lib.hid (hp.go k3)
    clear hb3 htab ht HL2 HN2 HPP2 q0 q1 q2 hp
    go_wp2_with fail
    refine (rfind_any _ ps s _ HP3.out hl).mono ?_
    rintro e w' ⟨rfl, rfl⟩
    go_wp2_with fail
    refine (find_any' _ ps s _ HP3.out hl).mono ?_
    rintro e w4 ⟨rfl, hb4⟩
    have k4 := bt k3 hb4
    have HT4 := Lib.hid (tab_go HT3.out hb4)
    have HL4 := Lib.hid (HL3.out.go hb4)
    have HP4 := Lib.hid (HP3.out.go hb4)
    clear HT3 HL3 HP3 hb4 k3
    have hreach := fun (w : World) (h1 : SLat w g kk) h2 => reach_any (g := g) (Value.slice pa ps.length cap) ps s w h1 n8 h2 hl
    have hover := fun (a : Int) (w : World) (h1 : SLat w g kk) h2 => over_any (g := g) (Value.slice pa ps.length cap) ps s a w h1 n8 h2 hl
    cases hf : fnd ps s with
    | none =>
      have ho := overL_none hf
      rw [ho] at hreach hover
      have HR := Lib.hid hreach
      have HV := Lib.hid hover
      clear ho hreach hover
      dsimp only [Option.isSome, fndN, fndI]
      go_wp2_with fail
      refine (HR.out _ HL4.out HP4.out).mono ?_
      rw [reachL_nil]
      rintro e w5 ⟨hb5, rv, rfl, hrv⟩
      obtain ⟨ra, rc, rfl⟩ : ∃ ra rc, rv = .slice ra 0 rc := by
        rcases hrv with ⟨_, rfl⟩ | ⟨g5, cap5, rfl, _⟩
        · exact ⟨_, _, rfl⟩
        · exact ⟨_, _, rfl⟩
      clear hrv
      have k5 := bt k4 hb5
      have HT5 := Lib.hid (tab_go HT4.out hb5)
      have HL5 := Lib.hid (HL4.out.go hb5)
      have HP5 := Lib.hid (HP4.out.go hb5)
      clear HT4 HL4 HP4 hb5 k4
      go_wp2
      go_loopw [15, 16, 17, 18, 19] (fun i a _ _ _ wr => ∃ c : Nat, c ≤ sz kk ∧ a = .int .i64 c ∧ i = .int .i64 0 ∧ Below w5.heap.size w5 wr) (fun _ a _ _ _ _ => sz kk - (intOf a).toNat)
      case atStart => exact ⟨0, by omega, rfl, rfl, Below.refl _ _⟩
      case round =>
        obtain ⟨c, hc, rfl, rfl, kb⟩ := hrel
        obtain ⟨wo, rfl⟩ : ∃ wo : World, wo = wr := ⟨_, rfl⟩
        have HL6 := Lib.hid (HL5.out.go kb)
        have HP6 := Lib.hid (HP5.out.go kb)
        by_cases hlt : c < sz kk
        · go_wp2
          go_loop [17, 18, 19] (fun u i _ => u = .bool false ∧ i = .int .i64 0) (fun _ _ _ => 0)
          case atStart => exact ⟨rfl, rfl⟩
          case round =>
            obtain ⟨rfl, rfl⟩ := hrel
            go_wp2_with fail
            refine (HV.out _ _ HL6.out HP6.out).mono ?_
            rintro e w7 ⟨rfl, hb7⟩
            rw [show covB (sz kk) (sr kk) [] (c : Int) = false from rfl]
            go_wp2
            go_roundw
            case rel => exact ⟨c + 1, by omega, by go_num, rfl, bt kb hb7⟩
            case measure => simp [intOf]; omega
        · obtain rfl : c = sz kk := by omega
          go_wp2_with fail
          refine (HV.out _ _ HL6.out HP6.out).mono ?_
          rw [show ∀ a, covB (sz kk) (sr kk) [] a = false from fun _ => rfl]
          rintro e w7 ⟨rfl, hb7⟩
          go_wp2_with fail
          refine (HV.out _ _ (HL6.out.go hb7) (HP6.out.go hb7)).mono ?_
          rw [show ∀ a, covB (sz kk) (sr kk) [] a = false from fun _ => rfl]
          rintro e w8 ⟨rfl, hb8⟩
          go_wp2_with fail
          refine (alives_any _).mono ?_
          rintro e w9 ⟨rfl, hb9⟩
          go_wp2
          go_ret
          exact ⟨rfl, bt (bt (bt (bt k5 kb) hb7) hb8) hb9⟩
    | some i =>
      obtain ⟨l, hx⟩ := fnd_is hf
      have ho := overL_some hf hx
      have hi := (List.getElem?_eq_some_iff.1 hx).1
      dsimp only at ho
      rw [ho] at hreach hover
      have HR := Lib.hid hreach
      have HV := Lib.hid hover
      clear ho hreach hover
      obtain ⟨pa', cap', hv, _, hc⟩ := HP4.out.form
      cases hv
      obtain ⟨b, off, u, rfl, c1, c2, hu, hs⟩ := hc i _ hx
      clear hc hx
      dsimp only at c1 c2 hu
      obtain ⟨ua, ucap, rfl, hul, hcu⟩ := hu.form
      have HU := Lib.hid hcu
      clear hu hcu
      have hl' := hl
      unfold maxLen at hul hl'
      have d0 : decide ((0 : Int) ≤ (i : Int)) = true := by simp
      dsimp only [Option.isSome, fndN, fndI]
      go_wp2_with fail
      refine (HR.out _ HL4.out HP4.out).mono ?_
      rintro e w5 ⟨hb5, rv, rfl, hrv⟩
      obtain ⟨ra, rc, rfl, hrc⟩ : ∃ ra rc, rv = .slice ra (reachL (sz kk) (sr kk) l (sz kk)).length rc ∧ ∀ i (x : Nat), (reachL (sz kk) (sr kk) l (sz kk))[i]? = some x → ∃ g, ra = some ⟨g, 0, none⟩ ∧ w5.cell? ⟨g, i, none⟩ = some (.int .i64 x) := by
        rcases hrv with ⟨h0, rfl⟩ | ⟨g5, cap5, rfl, h5⟩
        · exact ⟨none, 0, by rw [h0]; rfl, fun i x h => by rw [h0] at h; simp at h⟩
        · exact ⟨_, _, rfl, fun i x h => ⟨_, rfl, h5 i x h⟩⟩
      clear hrv
      have HRC := Lib.hid hrc
      have k5 := bt k4 hb5
      have HT5 := Lib.hid (tab_go HT4.out hb5)
      have HL5 := Lib.hid (HL4.out.go hb5)
      have HP5 := Lib.hid (HP4.out.go hb5)
      have c1' := cellB hb5 c1
      have c2' := cellB hb5 c2
      have hu5 : ∀ i x, l[i]? = some x → ∃ b off, ua = some ⟨b, off, none⟩ ∧ w5.cell? ⟨b, off + i, none⟩ = some (.int .i64 x) := fun i x hx => by
        obtain ⟨b', off', h1, h2⟩ := HU.out i x hx
        exact ⟨b', off', h1, cellB hb5 h2⟩
      have HU5 := Lib.hid hu5
      clear hu5
      clear HT4 HL4 HP4 hb5 k4 hrc c1 c2 HU HR
      have hlenL := reachL_len (sz kk) (sr kk) l (sz kk)
      have hget : ∀ c : Nat, c < sz kk → covB (sz kk) (sr kk) l (c : Int) = true → (reachL (sz kk) (sr kk) l (sz kk))[(reachL (sz kk) (sr kk) l c).length]? = some c := fun c hc h => reach_get hc h
      have HG := Lib.hid hget
      clear hget
      go_wp2
      go_loopw [15, 16, 17, 18, 19] (fun i a _ _ _ wr => ∃ c : Nat, c ≤ sz kk ∧ a = .int .i64 c ∧ i = .int .i64 ((reachL (sz kk) (sr kk) l c).length : Nat) ∧ Below w5.heap.size w5 wr) (fun _ a _ _ _ _ => sz kk - (intOf a).toNat)
      case atStart => exact ⟨0, by omega, rfl, rfl, Below.refl _ _⟩
      case round =>
        obtain ⟨c, hc, rfl, rfl, kb⟩ := hrel
        obtain ⟨wo, rfl⟩ : ∃ wo : World, wo = wr := ⟨_, rfl⟩
        have HL6 := Lib.hid (HL5.out.go kb)
        have HP6 := Lib.hid (HP5.out.go kb)
        have e1 := cellB kb c1'
        have e2 := cellB kb c2'
        by_cases hlt : c < sz kk
        · have hsucc := reachL_succ (sz kk) (sr kk) l c
          have HSU := Lib.hid hsucc
          clear hsucc
          have hlenC := reachL_len (sz kk) (sr kk) l c
          go_wp2
          go_loop [17, 18, 19] (fun u i _ => ∃ m : Nat, m ≤ l.length ∧ i = .int .i64 m ∧ u = .bool (covTo (sz kk) (sr kk) l (c : Int) m)) (fun _ i _ => l.length - (intOf i).toNat)
          case atStart => exact ⟨0, by omega, rfl, rfl⟩
          case round =>
            obtain ⟨m, hm, rfl, rfl⟩ := hrel
            by_cases hlt2 : m < l.length
            · obtain ⟨x, hx⟩ : ∃ x, l[m]? = some x := ⟨_, List.getElem?_eq_getElem hlt2⟩
              obtain ⟨bu, offu, rfl, c3⟩ := HU5.out m _ hx
              have e3 := cellB kb c3
              clear c3
              have hcs := covTo_succ (n := sz kk) (r := sr kk) (a := (c : Int)) hx
              have HCS := Lib.hid hcs
              clear hcs hx
              cases q : covTo (sz kk) (sr kk) l (c : Int) m
              · by_cases h0 : x < 0
                · have d1 : decide ((0 : Int) ≤ x) = false := by simp; omega
                  go_wp2
                  go_round
                  case rel => exact ⟨m + 1, by omega, by go_num, by rw [HCS.out, q, leqB_out (.inl h0)]; rfl⟩
                  case measure => simp [intOf]; omega
                · have d1 : decide ((0 : Int) ≤ x) = true := by simp; omega
                  by_cases h1 : (sz kk : Int) ≤ x
                  · have d2 : decide (x < (sz kk : Int)) = false := by simp; omega
                    go_wp2
                    go_round
                    case rel => exact ⟨m + 1, by omega, by go_num, by rw [HCS.out, q, leqB_out (.inr h1)]; rfl⟩
                    case measure => simp [intOf]; omega
                  · have d2 : decide (x < (sz kk : Int)) = true := by simp; omega
                    obtain ⟨y, rfl⟩ := Int.eq_ofNat_of_zero_le (show 0 ≤ x by omega)
                    have hy : y < sz kk := by omega
                    have r1 := cellB kb (HT5.out c hlt).1
                    have r2 := cellB kb ((HT5.out c hlt).2 y hy)
                    have hlt' : (c : Int) < (sz kk : Int) := by omega
                    have hlq := leqB_tab (r := sr kk) hlt hy
                    have HLQ := Lib.hid hlq
                    clear hlq
                    go_wp2
                    go_round
                    case rel => exact ⟨m + 1, by omega, by go_num, by rw [HCS.out, q, HLQ.out]; rfl⟩
                    case measure => simp [intOf]; omega
              · go_wp2
                go_round
                case rel => exact ⟨m + 1, by omega, by go_num, by rw [HCS.out, q]; rfl⟩
                case measure => simp [intOf]; omega
            · obtain rfl : m = l.length := by omega
              rw [covTo_all]
              go_wp2_with fail
              refine (HV.out _ _ HL6.out HP6.out).mono ?_
              rintro e w7 ⟨rfl, hb7⟩
              have k7 := bt kb hb7
              cases q : covB (sz kk) (sr kk) l (c : Int)
              · go_wp2
                go_roundw
                case rel => exact ⟨c + 1, by omega, by go_num, by rw [HSU.out, if_neg (by rw [q]; exact Bool.false_ne_true)], k7⟩
                case measure => simp [intOf]; omega
              · have hgc := HG.out c hlt q
                have hlc := (List.getElem?_eq_some_iff.1 hgc).1
                obtain ⟨gr, rfl, c4⟩ := HRC.out _ _ hgc
                have e4 := cellB k7 c4
                clear c4 hgc
                have hsz : (reachL (sz kk) (sr kk) l (c + 1)).length = (reachL (sz kk) (sr kk) l c).length + 1 := by rw [HSU.out, if_pos q]; simp
                have HSZ := Lib.hid hsz
                clear hsz
                have d3 : decide (((reachL (sz kk) (sr kk) l (sz kk)).length : Int) ≤ ((reachL (sz kk) (sr kk) l c).length : Int)) = false := by simp; omega
                go_wp2
                go_roundw
                case rel => exact ⟨c + 1, by omega, by go_num, by rw [HSZ.out]; go_num, k7⟩
                case measure => simp [intOf]; omega
        · obtain rfl : c = sz kk := by omega
          go_wp2_with fail
          refine (HV.out _ _ HL6.out HP6.out).mono ?_
          rw [cov_out (.inl (by decide))]
          rintro e w7 ⟨rfl, hb7⟩
          go_wp2_with fail
          refine (HV.out _ _ (HL6.out.go hb7) (HP6.out.go hb7)).mono ?_
          rw [cov_out (.inr (Int.le_refl _))]
          rintro e w8 ⟨rfl, hb8⟩
          go_wp2_with fail
          refine (alives_any _).mono ?_
          rintro e w9 ⟨rfl, hb9⟩
          go_wp2
          go_ret
          exact ⟨rfl, bt (bt (bt (bt k5 kb) hb7) hb8) hb9⟩
end Lv
end Go.Proofs.Ytmfdclnepmgmlaa
