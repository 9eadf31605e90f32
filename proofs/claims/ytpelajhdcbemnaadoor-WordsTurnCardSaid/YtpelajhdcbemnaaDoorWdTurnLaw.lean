/- WordsTurn walked: it answers true for every two texts. -/
import Derived.Test.YtpelajhdcbemnaaDoorWdTimes
import Derived.Test.YtpelajhdcbemnaaDoorWdTurn
import Derived.Test.YtpelajhdcbemnaaDoorUtRSigns
import Derived.Deep.DeepCutAuto
namespace Go.Proofs.YtpelajhdcbemnaaDoor
open Go.RowKit
namespace Wd
open _root_.Go.Proofs.YtpelajhdcbemnaaDoor.Ut
theorem self_eq (a : ByteArray) : (a.toList == a.toList) = true := by simp
theorem str_size (l : List Nat) : (str l).size = l.length := by unfold str; simp [ByteArray.size]
/-- where a part stands -/
theorem has_iff (l p : List UInt8) : hasL l p = true ↔ ∃ j : Nat, atL l p j = true := by
  unfold hasL Lib.contains
  rw [decide_eq_true_iff]
  rcases Lib.index_spec l p with ⟨h1, h2⟩ | ⟨i, h1, h2, h3, _⟩
  · constructor
    · intro h; omega
    · rintro ⟨j, hj⟩
      by_cases h : j ≤ l.length
      · rw [atL_occ h, h2 j h] at hj
        cases hj
      · unfold atL at hj
        have := of_decide_eq_true hj
        omega
  · constructor
    · intro _
      exact ⟨i, by rw [atL_occ h2]; exact h3⟩
    · intro _
      omega
theorem at_start (l p : List UInt8) : Lib.hasPrefix l p = atL l p 0 := by
  have := atL_occ (l := l) (p := p) (i := 0) (Nat.zero_le _)
  unfold Lib.occAt at this
  exact this.symm
theorem at_end (l p : List UInt8) : Lib.hasSuffix l p = atL l p ((l.length : Int) - p.length) := by
  unfold Lib.hasSuffix atL
  rw [Bool.eq_iff_iff, decide_eq_true_iff, List.isSuffixOf_iff_suffix]
  constructor
  · intro h
    have h1 := h.length_le
    obtain ⟨t, rfl⟩ := h
    refine ⟨by omega, by omega, ?_⟩
    rw [show (((t ++ p).length : Int) - p.length).toNat = t.length by rw [List.length_append]; omega, List.drop_left, List.take_length]
  · rintro ⟨h1, h2, h3⟩
    rw [List.take_of_length_le (by rw [List.length_drop]; omega)] at h3
    have := List.drop_suffix ((l.length : Int) - p.length).toNat l
    rw [h3] at this
    exact this
/-- a blank -/
def bl (x : UInt8) : Bool := [9, 10, 13, 32].contains x
theorem drop_all {P : UInt8 → Bool} : ∀ (a b : List UInt8), (∀ x ∈ a, P x = true) → (a ++ b).dropWhile P = b.dropWhile P
  | [], b, _ => rfl
  | x :: a, b, h => by
    rw [List.cons_append, List.dropWhile_cons, if_pos (h x (by simp))]
    exact drop_all a b (fun y hy => h y (by simp [hy]))
theorem drop_none {P : UInt8 → Bool} (b : List UInt8) (h : ∀ x, b.head? = some x → P x = false) : b.dropWhile P = b := by
  cases b with
  | nil => rfl
  | cons x b => rw [List.dropWhile_cons, if_neg (by rw [h x rfl]; simp)]
theorem trim_at (l : List UInt8) (f t : Nat) (hft : f ≤ t) (ht : t ≤ l.length) (h1 : ∀ (j : Nat) x, j < f → l[j]? = some x → bl x = true) (h2 : ∀ (j : Nat) x, t ≤ j → l[j]? = some x → bl x = true)
    (h3 : f < t → ∀ x, l[f]? = some x → bl x = false) (h4 : f < t → ∀ x, l[t - 1]? = some x → bl x = false) : trm l = (l.take t).drop f := by
  have hR : Lib.trimRightS l [9, 10, 13, 32] = ((l.take t).reverse.dropWhile bl).reverse := by
    unfold Lib.trimRightS
    have e : l.reverse = (l.drop t).reverse ++ (l.take t).reverse := by rw [← List.reverse_append, List.take_append_drop]
    show (l.reverse.dropWhile bl).reverse = _
    rw [e, drop_all]
    intro x hx
    rw [List.mem_reverse] at hx
    obtain ⟨j, hj, e⟩ := List.getElem_of_mem hx
    refine h2 (t + j) x (by omega) ?_
    rw [← List.getElem?_drop, List.getElem?_eq_getElem hj, e]
  unfold trm Lib.trimS Lib.trimLeftS
  rw [hR]
  show ((l.take t).reverse.dropWhile bl).reverse.dropWhile bl = _
  have hall : ∀ x ∈ l.take f, bl x = true := fun x hx => by
    obtain ⟨j, hj, e⟩ := List.getElem_of_mem hx
    rw [List.length_take] at hj
    refine h1 j x (by omega) ?_
    rw [← e, List.getElem_take, List.getElem?_eq_getElem (by omega)]
  by_cases h : f < t
  · rw [drop_none (l.take t).reverse, List.reverse_reverse]
    · have e : l.take t = l.take f ++ (l.take t).drop f := by
        conv => lhs; rw [← List.take_append_drop f (l.take t), List.take_take, Nat.min_eq_left hft]
      conv => lhs; rw [e]
      rw [drop_all _ _ hall, drop_none]
      intro x hx
      refine h3 h x ?_
      rw [List.head?_drop, List.getElem?_take, if_pos h] at hx
      exact hx
    · intro x hx
      refine h4 h x ?_
      rw [List.head?_reverse, List.getLast?_eq_getElem?, List.length_take, Nat.min_eq_left ht, List.getElem?_take, if_pos (by omega)] at hx
      exact hx
  · obtain rfl : f = t := by omega
    have e : ((l.take f).reverse.dropWhile bl) = [] := by
      have := drop_all (P := bl) (l.take f).reverse [] (fun x hx => hall x (by simpa using hx))
      rw [List.append_nil] at this
      rw [this]
      rfl
    rw [e, List.drop_of_length_le (by rw [List.length_take]; omega)]
    rfl
theorem tl_get (s : ByteArray) (k : Nat) (h : k < s.size) : (tl s)[k]? = some s[k] := by
  have h' : k < s.data.toList.length := by simpa using h
  unfold tl
  rw [List.getElem?_eq_getElem h']
  rfl
theorem bl_iff (x : UInt8) : bl x = true ↔ x.toNat = 32 ∨ x.toNat = 9 ∨ x.toNat = 10 ∨ x.toNat = 13 := by
  have : ∀ y : UInt8, (x = y) ↔ x.toNat = y.toNat := fun y => UInt8.toNat_inj.symm
  unfold bl
  simp [this]
  omega
theorem turned_get (s : ByteArray) (f : Nat → Nat) (hf : ∀ c, c < 256 → f c < 256) (k : Nat) (h : k < s.size) (h' : k < (str ((byt s).map f)).size) : ((str ((byt s).map f))[k]'h').toNat = f s[k].toNat := by
  have hb : ∀ x ∈ (byt s).map f, x < 256 := fun x hx => by
    rw [List.mem_map] at hx
    obtain ⟨y, hy, rfl⟩ := hx
    refine hf y ?_
    unfold byt at hy
    rw [List.mem_map] at hy
    obtain ⟨z, _, rfl⟩ := hy
    exact z.toNat_lt
  have h1 := byt_get _ k h'
  rw [byt_str hb, List.getElem?_map, byt_get s k h] at h1
  exact (Option.some.inj h1).symm
set_option maxRecDepth 100000 in
set_option maxHeartbeats 16000000 in
theorem wordsTurn_any (s p : ByteArray) (w : World) (hs : s.size ≤ maxLen) (hp : p.size ≤ maxLen) (hT : St w) :
    Calls Tryd.prog 5 #[.string s, .string p] w fun e w' => e = .returned (.bool true) ∧ Below w.heap.size w w' := by
  unfold maxLen at hs hp
  have HT := Lib.hid hT
  clear hT
  by_cases c1 : 3000 < s.size
  · go_enter Tryd.func5, Tryd.ntmps5
    go_wp2_with (go_at_call 8; refine (lives_any _ HT.out).mono ?_; rintro e w1 ⟨rfl, b1⟩)
    go_ret
    exact ⟨rfl, b1⟩
  by_cases c2 : 100 < p.size
  · go_enter Tryd.func5, Tryd.ntmps5
    go_wp2_with (go_at_call 8; refine (lives_any _ HT.out).mono ?_; rintro e w1 ⟨rfl, b1⟩)
    go_ret
    exact ⟨rfl, b1⟩
  go_enter Tryd.func5, Tryd.ntmps5
  go_upto_region 5 with (fail)
  go_loopw [5, 6] (fun b i wr => ∃ (k : Nat) (q : Bool), i = .int .i64 k ∧ k ≤ s.size + 1 ∧ b = .bool q ∧ wr = w ∧ Hid (q = true ↔ ∃ j : Nat, j < k ∧ atL (tl s) (tl p) j = true)) (fun _ i _ => s.size + 1 - (intOf i).toNat)
  case atStart => exact ⟨0, false, rfl, by omega, rfl, rfl, Lib.hid ⟨fun h => (by cases h), fun ⟨j, h, _⟩ => by omega⟩⟩
  case round =>
    obtain ⟨k, q, rfl, hk, rfl, rfl, HQ⟩ := hrel
    by_cases hlt : k + p.size ≤ s.size
    · have hat := at_any s p k wr (by omega) (by omega) (by omega) (by omega)
      obtain ⟨b, hb⟩ : ∃ b, atL (tl s) (tl p) k = b := ⟨_, rfl⟩
      rw [hb] at hat
      have HB := Lib.hid hb
      clear hb
      have HQ2 : Hid ((q || b) = true ↔ ∃ j : Nat, j < k + 1 ∧ atL (tl s) (tl p) j = true) := Lib.hid (by
        rw [Bool.or_eq_true, HQ.out]
        constructor
        · rintro (⟨j, h1, h2⟩ | h)
          · exact ⟨j, by omega, h2⟩
          · exact ⟨k, by omega, HB.out.trans h⟩
        · rintro ⟨j, h1, h2⟩
          by_cases e : j = k
          · subst e
            exact .inr (HB.out.symm.trans h2)
          · exact .inl ⟨j, by omega, h2⟩)
      cases q with
      | true =>
        go_wp2
        go_roundw
        case rel => exact ⟨k + 1, true, by go_num, by omega, by trivial, by trivial, HQ2⟩
        case measure => simp [intOf]; omega
      | false =>
        go_wp2_with (go_at_call 13; refine hat.mono ?_; rintro e w' ⟨rfl, rfl⟩)
        go_roundw
        case rel => exact ⟨k + 1, b, by go_num, by omega, by trivial, by trivial, HQ2⟩
        case measure => simp [intOf]; omega
    · have hqv : q = hasL (tl s) (tl p) := by
        rw [Bool.eq_iff_iff, HQ.out, has_iff]
        constructor
        · rintro ⟨j, _, h⟩
          exact ⟨j, h⟩
        · rintro ⟨j, h⟩
          have h1 := h
          unfold atL at h1
          have := of_decide_eq_true h1
          rw [tl_len, tl_len] at this
          exact ⟨j, by omega, h⟩
      have HQV := Lib.hid hqv
      clear hqv HQ
      have hup := upper_any s wr (by omega)
      have hlow := fun wx => lower_any s wx (by omega)
      obtain ⟨U, hU⟩ : ∃ U, str ((byt s).map (tn 97 65)) = U := ⟨_, rfl⟩
      obtain ⟨V, hV⟩ : ∃ V, str ((byt s).map (tn 65 97)) = V := ⟨_, rfl⟩
      have hUs : U.size = s.size := by rw [← hU, str_size, List.length_map, byt_len]
      have hVs : V.size = s.size := by rw [← hV, str_size, List.length_map, byt_len]
      have hUg : ∀ (k : Nat) (h : k < s.size) (h' : k < U.size), (U[k]'h').toNat = tn 97 65 s[k].toNat := by
        subst hU
        exact fun k h h' => turned_get s (tn 97 65) (fun c hc => tn_lt (by decide) hc) k h h'
      have hVg : ∀ (k : Nat) (h : k < s.size) (h' : k < V.size), (V[k]'h').toNat = tn 65 97 s[k].toNat := by
        subst hV
        exact fun k h h' => turned_get s (tn 65 97) (fun c hc => tn_lt (by decide) hc) k h h'
      rw [hU] at hup
      rw [hV] at hlow
      have HUG := Lib.hid hUg
      have HVG := Lib.hid hVg
      have HUS := Lib.hid hUs
      have HVS := Lib.hid hVs
      clear hUg hVg hU hV
      go_upto_region 12 with (first | (go_at_call 15; refine hup.mono ?_; rintro e w1 ⟨rfl, b1⟩) | (go_at_call 16; refine (hlow _).mono ?_; rintro e w2 ⟨rfl, b2⟩))
      have HB2 := Lib.hid (b1.trans (b2.mono b1.size))
      clear b1 b2 hup hlow hUs hVs
      go_loopw [9] (fun i wx => ∃ k : Nat, i = .int .i64 k ∧ k ≤ s.size ∧ wx = w2) (fun i _ => s.size - (intOf i).toNat)
      case atStart => exact ⟨0, rfl, by omega, rfl⟩
      case round =>
        obtain ⟨k, rfl, hk, rfl⟩ := hrel
        by_cases hlt2 : k < s.size
        · have hu := HUG.out k hlt2 (by rw [HUS.out]; exact hlt2)
          have hv := HVG.out k hlt2 (by rw [HVS.out]; exact hlt2)
          have hku : k < U.size := by rw [HUS.out]; exact hlt2
          have hkv : k < V.size := by rw [HVS.out]; exact hlt2
          have hc8 : s[k].toNat < 256 := s[k].toNat_lt
          obtain ⟨c, hc⟩ : ∃ c, s[k].toNat = c := ⟨_, rfl⟩
          rw [hc] at hu hv hc8
          by_cases d1 : 97 ≤ c ∧ c ≤ 122
          · obtain ⟨d1, d2⟩ := d1
            have hu2 : ((U[k].toNat : Nat) : Int) = (c : Int) - 32 := by rw [hu]; unfold tn; rw [if_neg (by omega)]; omega
            have hv2 : V[k].toNat = c := by rw [hv]; unfold tn; rw [if_pos (by omega)]
            clear hu hv
            go_wp2
            go_roundw
            case rel => exact ⟨k + 1, by go_num, by omega, by trivial⟩
            case measure => simp [intOf]; omega
          · by_cases d3 : 65 ≤ c ∧ c ≤ 90
            · obtain ⟨d3, d4⟩ := d3
              have hu2 : U[k].toNat = c := by rw [hu]; unfold tn; rw [if_pos (by omega)]
              have hv2 : ((V[k].toNat : Nat) : Int) = (c : Int) + 32 := by rw [hv]; unfold tn; rw [if_neg (by omega)]; omega
              clear hu hv d1
              go_wp2
              go_roundw
              case rel => exact ⟨k + 1, by go_num, by omega, by trivial⟩
              case measure => simp [intOf]; omega
            · have hu2 : U[k].toNat = c := by rw [hu]; unfold tn; rw [if_pos (by omega)]
              have hv2 : V[k].toNat = c := by rw [hv]; unfold tn; rw [if_pos (by omega)]
              have d5 : c < 65 ∨ (91 ≤ c ∧ c ≤ 96) ∨ 123 ≤ c := by omega
              clear hu hv d1 d3
              rcases d5 with d6 | ⟨d6, d7⟩ | d6
              · skip
                go_wp2
                go_roundw
                case rel => exact ⟨k + 1, by go_num, by omega, by trivial⟩
                case measure => simp [intOf]; omega
              · skip
                go_wp2
                go_roundw
                case rel => exact ⟨k + 1, by go_num, by omega, by trivial⟩
                case measure => simp [intOf]; omega
              · skip
                go_wp2
                go_roundw
                case rel => exact ⟨k + 1, by go_num, by omega, by trivial⟩
                case measure => simp [intOf]; omega
        · skip
          go_upto_region 23 with (fail)
          go_loopw [13] (fun i wx => ∃ f : Nat, i = .int .i64 f ∧ f ≤ s.size ∧ wx = wr ∧ Hid (∀ (j : Nat) x, j < f → (tl s)[j]? = some x → bl x = true)) (fun i _ => s.size - (intOf i).toNat)
          case atStart => exact ⟨0, rfl, by omega, rfl, Lib.hid (fun j x h => by omega)⟩
          case round =>
            obtain ⟨f, rfl, hf, rfl, HF⟩ := hrel
            go_upto_region 23 with (fail)
            go_cut [123] (fun v wx => wr = wx ∧ ∃ q : Bool, v = .bool q ∧ Hid ((q = true → f < s.size ∧ ∀ h : f < s.size, bl s[f] = true) ∧ (q = false → ∀ h : f < s.size, bl s[f] = false)))
            case first =>
              by_cases hlt3 : f < s.size
              · skip
                obtain ⟨c, hc⟩ : ∃ c, s[f].toNat = c := ⟨_, rfl⟩
                have hbl := bl_iff s[f]
                rw [hc] at hbl
                by_cases g32 : c = 32
                · have HBK : Hid (bl s[f] = true) := Lib.hid (hbl.2 (by omega))
                  clear hbl
                  subst g32
                  go_wp2
                  go_meet
                  exact ⟨rfl, true, rfl, Lib.hid ⟨fun _ => ⟨hlt3, fun _ => HBK.out⟩, fun h => by cases h⟩⟩
                by_cases g9 : c = 9
                · have HBK : Hid (bl s[f] = true) := Lib.hid (hbl.2 (by omega))
                  clear hbl
                  subst g9
                  have n32 : (((9 : Nat) : Int) == 32) = false := by decide
                  go_wp2
                  go_meet
                  exact ⟨rfl, true, rfl, Lib.hid ⟨fun _ => ⟨hlt3, fun _ => HBK.out⟩, fun h => by cases h⟩⟩
                by_cases g10 : c = 10
                · have HBK : Hid (bl s[f] = true) := Lib.hid (hbl.2 (by omega))
                  clear hbl
                  subst g10
                  have n32 : (((10 : Nat) : Int) == 32) = false := by decide
                  have n9 : (((10 : Nat) : Int) == 9) = false := by decide
                  go_wp2
                  go_meet
                  exact ⟨rfl, true, rfl, Lib.hid ⟨fun _ => ⟨hlt3, fun _ => HBK.out⟩, fun h => by cases h⟩⟩
                by_cases g13 : c = 13
                · have HBK : Hid (bl s[f] = true) := Lib.hid (hbl.2 (by omega))
                  clear hbl
                  subst g13
                  have n32 : (((13 : Nat) : Int) == 32) = false := by decide
                  have n9 : (((13 : Nat) : Int) == 9) = false := by decide
                  have n10 : (((13 : Nat) : Int) == 10) = false := by decide
                  go_wp2
                  go_meet
                  exact ⟨rfl, true, rfl, Lib.hid ⟨fun _ => ⟨hlt3, fun _ => HBK.out⟩, fun h => by cases h⟩⟩
                have HNB : Hid (bl s[f] = false) := Lib.hid (by rw [← Bool.not_eq_true, hbl]; omega)
                clear hbl
                have n32 : ((c : Int) == 32) = false := by rw [beq_eq_false_iff_ne]; omega
                have n9 : ((c : Int) == 9) = false := by rw [beq_eq_false_iff_ne]; omega
                have n10 : ((c : Int) == 10) = false := by rw [beq_eq_false_iff_ne]; omega
                have n13 : ((c : Int) == 13) = false := by rw [beq_eq_false_iff_ne]; omega
                go_wp2
                go_meet
                exact ⟨rfl, false, rfl, Lib.hid ⟨(fun h => by cases h), fun _ _ => HNB.out⟩⟩
              · go_wp2
                go_meet
                exact ⟨rfl, false, rfl, Lib.hid ⟨(fun h => by cases h), fun _ h => absurd h hlt3⟩⟩
            case rest =>
            obtain ⟨rfl, qq, rfl, HT3⟩ := hcut
            cases qq with
            | true =>
              obtain ⟨h1, h2⟩ := HT3.out.1 rfl
              have HF2 : Hid (∀ (j : Nat) x, j < f + 1 → (tl s)[j]? = some x → bl x = true) := Lib.hid (fun j x hj hx => by
                by_cases e : j = f
                · subst e
                  rw [tl_get s j h1] at hx
                  obtain rfl := Option.some.inj hx
                  exact h2 h1
                · exact HF.out j x (by omega) hx)
              clear h2
              go_wp2
              go_roundw
              case rel => exact ⟨f + 1, by go_num, by omega, by trivial, HF2⟩
              case measure => simp [intOf]; omega
            | false =>
              have h3 : ∀ x, (tl s)[f]? = some x → bl x = false := fun x hx => by
                have h1 : f < s.size := by rw [← tl_len]; exact (List.getElem?_eq_some_iff.1 hx).1
                rw [tl_get s f h1] at hx
                obtain rfl := Option.some.inj hx
                exact HT3.out.2 rfl h1
              have H3 := Lib.hid h3
              clear h3 HT3
              go_upto_region 25 with (fail)
              go_loopw [14] (fun i wx => ∃ t : Nat, i = .int .i64 t ∧ f ≤ t ∧ t ≤ s.size ∧ wx = wr ∧ Hid (∀ (j : Nat) x, t ≤ j → (tl s)[j]? = some x → bl x = true)) (fun i _ => (intOf i).toNat)
              case atStart => exact ⟨s.size, rfl, hf, by omega, rfl, Lib.hid (fun j x h hx => by have := (List.getElem?_eq_some_iff.1 hx).1; rw [tl_len] at this; omega)⟩
              case round =>
                obtain ⟨t, rfl, hft, ht, rfl, HG⟩ := hrel
                go_upto_region 25 with (fail)
                go_cut [156] (fun v wx => wr = wx ∧ ∃ q : Bool, v = .bool q ∧ Hid ((q = true → f < t ∧ ∀ h : t - 1 < s.size, bl s[t - 1] = true) ∧ (q = false → f < t → ∀ h : t - 1 < s.size, bl s[t - 1] = false)))
                case first =>
                  by_cases hlt4 : f < t
                  · obtain ⟨u, rfl⟩ : ∃ u, t = u + 1 := ⟨t - 1, by omega⟩
                    have hu : u < s.size := by omega
                    have hu2 : ((u + 1 : Nat) : Int) - 1 = (u : Nat) := by omega
                    obtain ⟨c, hc⟩ : ∃ c, s[u].toNat = c := ⟨_, rfl⟩
                    have hbl := bl_iff s[u]
                    rw [hc] at hbl
                    by_cases g32 : c = 32
                    · have HBK : Hid (bl s[u] = true) := Lib.hid (hbl.2 (by omega))
                      clear hbl
                      subst g32
                      go_wp2
                      go_meet
                      exact ⟨rfl, true, rfl, Lib.hid ⟨fun _ => ⟨hlt4, fun _ => HBK.out⟩, fun h => by cases h⟩⟩
                    by_cases g9 : c = 9
                    · have HBK : Hid (bl s[u] = true) := Lib.hid (hbl.2 (by omega))
                      clear hbl
                      subst g9
                      have n32 : (((9 : Nat) : Int) == 32) = false := by decide
                      go_wp2
                      go_meet
                      exact ⟨rfl, true, rfl, Lib.hid ⟨fun _ => ⟨hlt4, fun _ => HBK.out⟩, fun h => by cases h⟩⟩
                    by_cases g10 : c = 10
                    · have HBK : Hid (bl s[u] = true) := Lib.hid (hbl.2 (by omega))
                      clear hbl
                      subst g10
                      have n32 : (((10 : Nat) : Int) == 32) = false := by decide
                      have n9 : (((10 : Nat) : Int) == 9) = false := by decide
                      go_wp2
                      go_meet
                      exact ⟨rfl, true, rfl, Lib.hid ⟨fun _ => ⟨hlt4, fun _ => HBK.out⟩, fun h => by cases h⟩⟩
                    by_cases g13 : c = 13
                    · have HBK : Hid (bl s[u] = true) := Lib.hid (hbl.2 (by omega))
                      clear hbl
                      subst g13
                      have n32 : (((13 : Nat) : Int) == 32) = false := by decide
                      have n9 : (((13 : Nat) : Int) == 9) = false := by decide
                      have n10 : (((13 : Nat) : Int) == 10) = false := by decide
                      go_wp2
                      go_meet
                      exact ⟨rfl, true, rfl, Lib.hid ⟨fun _ => ⟨hlt4, fun _ => HBK.out⟩, fun h => by cases h⟩⟩
                    have HNB : Hid (bl s[u] = false) := Lib.hid (by rw [← Bool.not_eq_true, hbl]; omega)
                    clear hbl
                    have n32 : ((c : Int) == 32) = false := by rw [beq_eq_false_iff_ne]; omega
                    have n9 : ((c : Int) == 9) = false := by rw [beq_eq_false_iff_ne]; omega
                    have n10 : ((c : Int) == 10) = false := by rw [beq_eq_false_iff_ne]; omega
                    have n13 : ((c : Int) == 13) = false := by rw [beq_eq_false_iff_ne]; omega
                    go_wp2
                    go_meet
                    exact ⟨rfl, false, rfl, Lib.hid ⟨(fun h => by cases h), fun _ _ _ => HNB.out⟩⟩
                  · go_wp2
                    go_meet
                    exact ⟨rfl, false, rfl, Lib.hid ⟨(fun h => by cases h), fun _ h => absurd h hlt4⟩⟩
                case rest =>
                obtain ⟨rfl, qq, rfl, HT4⟩ := hcut
                cases qq with
                | true =>
                  obtain ⟨h1, h2⟩ := HT4.out.1 rfl
                  obtain ⟨u, rfl⟩ : ∃ u, t = u + 1 := ⟨t - 1, by omega⟩
                  have HG2 : Hid (∀ (j : Nat) x, u ≤ j → (tl s)[j]? = some x → bl x = true) := Lib.hid (fun j x hj hx => by
                    by_cases e : j = u
                    · subst e
                      rw [tl_get s j (by omega)] at hx
                      obtain rfl := Option.some.inj hx
                      exact h2 (by omega)
                    · exact HG.out j x (by omega) hx)
                  clear h2
                  go_wp2
                  go_roundw
                  case rel => exact ⟨u, by go_num, by omega, by omega, by trivial, HG2⟩
                  case measure => simp [intOf]
                | false =>
                  have h4 : f < t → ∀ x, (tl s)[t - 1]? = some x → bl x = false := fun h0 x hx => by
                    have h1 : t - 1 < s.size := by rw [← tl_len]; exact (List.getElem?_eq_some_iff.1 hx).1
                    rw [tl_get s (t - 1) h1] at hx
                    obtain rfl := Option.some.inj hx
                    exact HT4.out.2 rfl h0 h1
                  have htm := trim_at (tl s) f t hft (by rw [tl_len]; exact ht) HF.out HG.out (fun _ => H3.out) h4
                  have hte : (⟨(trm (tl s)).toArray⟩ : ByteArray) = s.extract f t := tl_inj (by rw [tl_mk (trm (tl s)), htm, tl_ext])
                  clear h4 htm HT4 HF HG H3
                  have htr := fun wx => trim_any s wx (by omega)
                  rw [hte] at htr
                  have hhas := fun wx (hb : Below wr.heap.size wr wx) => has_any s p wx (by omega) (HT.out.on (HB2.out.trans (hb.mono HB2.out.size)))
                  have hlv := fun wx (hb : Below wr.heap.size wr wx) => lives_any wx (HT.out.on (HB2.out.trans (hb.mono HB2.out.size)))
                  have hst := fun wx => starts_any s p wx
                  have hen := fun wx => ends_any s p wx (by omega)
                  have hat0 := fun wx => at_any s p 0 wx (by omega) (by omega) (by omega) (by omega)
                  have hat1 := fun wx => at_any s p ((s.size : Int) - p.size) wx (by omega) (by omega) (by omega) (by omega)
                  rw [← HQV.out] at hhas
                  rw [at_start] at hst
                  rw [at_end, tl_len, tl_len] at hen
                  generalize atL (tl s) (tl p) 0 = st at hst hat0
                  generalize atL (tl s) (tl p) ((s.size : Int) - p.size) = en at hen hat1
                  have hself := self_eq (s.extract f t)
                  have hwr : IntKind.i64.wrap ((s.size : Int) - p.size) = (s.size : Int) - p.size := IntWalk.i64_in _ (by omega)
                  clear hte
                  go_upto_region 27 with (fail)
                  refine wp_region_held_drew (S := (fun w' => Below wr.heap.size wr w')) (by kernel_rfl) ((Below.refl _ _).drew) (fun hHeld => ?_)
                  refine take_put (i := 0) (d := 159) (oi := _) (v := ?v0) rfl rfl (by kernel_rfl) (by kernel_rfl) (by kernel_rfl) (fun _ _ _ h => h) (Or.inl ⟨by rfl, ?y0⟩) hHeld ?r0
                  case y0 => (intro w hSw; (try dsimp only at hSw); go_simp; try with_reducible rfl)
                  simp only [Act.put, List.setIfInBounds_toArray, List.set_cons_zero, List.set_cons_succ]
                  refine take_put (i := 1) (d := 160) (oi := _) (v := ?v1) rfl rfl (by kernel_rfl) (by kernel_rfl) (by kernel_rfl) (fun _ _ _ h => h) (Or.inl ⟨by rfl, ?y1⟩) hHeld ?r1
                  case y1 => (intro w hSw; (try dsimp only at hSw); go_simp; try with_reducible rfl)
                  simp only [Act.put, List.setIfInBounds_toArray, List.set_cons_zero, List.set_cons_succ]
                  refine take_put (i := 3) (d := 162) (oi := _) (v := ?v3) rfl rfl (by kernel_rfl) (by kernel_rfl) (by kernel_rfl) (fun _ _ _ h => h) (Or.inl ⟨by rfl, ?y3⟩) hHeld ?r3
                  case y3 => (intro w hSw; (try dsimp only at hSw); go_simp; try with_reducible rfl)
                  simp only [Act.put, List.setIfInBounds_toArray, List.set_cons_zero, List.set_cons_succ]
                  refine wpAnyH_ready (rs := [2]) (by kernel_rfl) (by simp) (AllReadyH.cons (o := _) rfl (fun K hK => ?_) AllReadyH.nil)
                  go_simp
                  refine (hhas _ ((Below.refl _ _).drew)).mono ?_
                  rintro e w' ⟨rfl, rfl⟩
                  (try dsimp only)
                  refine hK.out _ _ ((Below.refl _ _).drew) (fun hHeld => ?_)
                  clear hK K
                  refine take_put (i := 4) (d := 163) (oi := _) (v := ?v4) rfl rfl (by kernel_rfl) (by kernel_rfl) (by kernel_rfl) (fun _ _ _ h => h) (Or.inl ⟨by rfl, ?y4⟩) hHeld ?r4
                  case y4 => (intro w hSw; (try dsimp only at hSw); go_simp; try with_reducible rfl)
                  simp only [Act.put, List.setIfInBounds_toArray, List.set_cons_zero, List.set_cons_succ]
                  refine take_put (i := 5) (d := 164) (oi := _) (v := ?v5) rfl rfl (by kernel_rfl) (by kernel_rfl) (by kernel_rfl) (fun _ _ _ h => h) (Or.inl ⟨by rfl, ?y5⟩) hHeld ?r5
                  case y5 => (intro w hSw; (try dsimp only at hSw); go_simp; try with_reducible rfl)
                  simp only [Act.put, List.setIfInBounds_toArray, List.set_cons_zero, List.set_cons_succ]
                  refine take_put (i := 6) (d := 165) (oi := _) (v := ?v6) rfl rfl (by kernel_rfl) (by kernel_rfl) (by kernel_rfl) (fun _ _ _ h => h) (Or.inl ⟨by rfl, ?y6⟩) hHeld ?r6
                  case y6 => (intro w hSw; (try dsimp only at hSw); go_simp; try with_reducible rfl)
                  simp only [Act.put, List.setIfInBounds_toArray, List.set_cons_zero, List.set_cons_succ]
                  refine take_put (i := 7) (d := 166) (oi := _) (v := ?v7) rfl rfl (by kernel_rfl) (by kernel_rfl) (by kernel_rfl) (fun _ _ _ h => h) (Or.inl ⟨by rfl, ?y7⟩) hHeld ?r7
                  case y7 => (intro w hSw; (try dsimp only at hSw); go_simp; try with_reducible rfl)
                  simp only [Act.put, List.setIfInBounds_toArray, List.set_cons_zero, List.set_cons_succ]
                  refine take_put (i := 9) (d := 168) (oi := _) (v := ?v9) rfl rfl (by kernel_rfl) (by kernel_rfl) (by kernel_rfl) (fun _ _ _ h => h) (Or.inl ⟨by rfl, ?y9⟩) hHeld ?r9
                  case y9 => (intro w hSw; (try dsimp only at hSw); go_simp; try with_reducible rfl)
                  simp only [Act.put, List.setIfInBounds_toArray, List.set_cons_zero, List.set_cons_succ]
                  refine take_put (i := 10) (d := 169) (oi := _) (v := ?v10) rfl rfl (by kernel_rfl) (by kernel_rfl) (by kernel_rfl) (fun _ _ _ h => h) (Or.inl ⟨by rfl, ?y10⟩) hHeld ?r10
                  case y10 => (intro w hSw; (try dsimp only at hSw); go_simp; try with_reducible rfl)
                  simp only [Act.put, List.setIfInBounds_toArray, List.set_cons_zero, List.set_cons_succ]
                  refine wpAnyH_ready (rs := [8]) (by kernel_rfl) (by simp) (AllReadyH.cons (o := _) rfl (fun K hK => ?_) AllReadyH.nil)
                  go_simp
                  refine (hst _).mono ?_
                  rintro e w' ⟨rfl, rfl⟩
                  (try dsimp only)
                  refine hK.out _ _ ((Below.refl _ _).drew) (fun hHeld => ?_)
                  clear hK K
                  refine wpAnyH_ready (rs := [11]) (by kernel_rfl) (by simp) (AllReadyH.cons (o := _) rfl (fun K hK => ?_) AllReadyH.nil)
                  go_simp
                  refine (hat0 _).mono ?_
                  rintro e w' ⟨rfl, rfl⟩
                  (try dsimp only)
                  refine hK.out _ _ ((Below.refl _ _).drew) (fun hHeld => ?_)
                  clear hK K
                  refine take_put (i := 12) (d := 171) (oi := _) (v := ?v12) rfl rfl (by kernel_rfl) (by kernel_rfl) (by kernel_rfl) (fun _ _ _ h => h) (Or.inl ⟨by rfl, ?y12⟩) hHeld ?r12
                  case y12 => (intro w hSw; (try dsimp only at hSw); go_simp; try with_reducible rfl)
                  simp only [Act.put, List.setIfInBounds_toArray, List.set_cons_zero, List.set_cons_succ]
                  refine take_put (i := 13) (d := 172) (oi := _) (v := ?v13) rfl rfl (by kernel_rfl) (by kernel_rfl) (by kernel_rfl) (fun _ _ _ h => h) (Or.inl ⟨by rfl, ?y13⟩) hHeld ?r13
                  case y13 => (intro w hSw; (try dsimp only at hSw); go_simp; try with_reducible rfl)
                  simp only [Act.put, List.setIfInBounds_toArray, List.set_cons_zero, List.set_cons_succ]
                  refine take_put (i := 14) (d := 173) (oi := _) (v := ?v14) rfl rfl (by kernel_rfl) (by kernel_rfl) (by kernel_rfl) (fun _ _ _ h => h) (Or.inl ⟨by rfl, ?y14⟩) hHeld ?r14
                  case y14 => (intro w hSw; (try dsimp only at hSw); go_simp; try with_reducible rfl)
                  simp only [Act.put, List.setIfInBounds_toArray, List.set_cons_zero, List.set_cons_succ]
                  refine take_put (i := 15) (d := 174) (oi := _) (v := ?v15) rfl rfl (by kernel_rfl) (by kernel_rfl) (by kernel_rfl) (fun _ _ _ h => h) (Or.inl ⟨by rfl, ?y15⟩) hHeld ?r15
                  case y15 => (intro w hSw; (try dsimp only at hSw); go_simp; try with_reducible rfl)
                  simp only [Act.put, List.setIfInBounds_toArray, List.set_cons_zero, List.set_cons_succ]
                  refine take_put (i := 16) (d := 175) (oi := _) (v := ?v16) rfl rfl (by kernel_rfl) (by kernel_rfl) (by kernel_rfl) (fun _ _ _ h => h) (Or.inl ⟨by rfl, ?y16⟩) hHeld ?r16
                  case y16 => (intro w hSw; (try dsimp only at hSw); go_simp; try with_reducible rfl)
                  simp only [Act.put, List.setIfInBounds_toArray, List.set_cons_zero, List.set_cons_succ]
                  refine take_put (i := 18) (d := 177) (oi := _) (v := ?v18) rfl rfl (by kernel_rfl) (by kernel_rfl) (by kernel_rfl) (fun _ _ _ h => h) (Or.inl ⟨by rfl, ?y18⟩) hHeld ?r18
                  case y18 => (intro w hSw; (try dsimp only at hSw); go_simp; try with_reducible rfl)
                  simp only [Act.put, List.setIfInBounds_toArray, List.set_cons_zero, List.set_cons_succ]
                  refine take_put (i := 19) (d := 178) (oi := _) (v := ?v19) rfl rfl (by kernel_rfl) (by kernel_rfl) (by kernel_rfl) (fun _ _ _ h => h) (Or.inl ⟨by rfl, ?y19⟩) hHeld ?r19
                  case y19 => (intro w hSw; (try dsimp only at hSw); go_simp; try with_reducible rfl)
                  simp only [Act.put, List.setIfInBounds_toArray, List.set_cons_zero, List.set_cons_succ]
                  refine take_put (i := 20) (d := 179) (oi := _) (v := ?v20) rfl rfl (by kernel_rfl) (by kernel_rfl) (by kernel_rfl) (fun _ _ _ h => h) (Or.inl ⟨by rfl, ?y20⟩) hHeld ?r20
                  case y20 => (intro w hSw; (try dsimp only at hSw); go_simp; try with_reducible rfl)
                  simp only [Act.put, List.setIfInBounds_toArray, List.set_cons_zero, List.set_cons_succ]
                  refine take_put (i := 21) (d := 180) (oi := _) (v := ?v21) rfl rfl (by kernel_rfl) (by kernel_rfl) (by kernel_rfl) (fun _ _ _ h => h) (Or.inl ⟨by rfl, ?y21⟩) hHeld ?r21
                  case y21 => (intro w hSw; (try dsimp only at hSw); go_simp; try with_reducible rfl)
                  simp only [Act.put, List.setIfInBounds_toArray, List.set_cons_zero, List.set_cons_succ]
                  refine take_put (i := 22) (d := 181) (oi := _) (v := ?v22) rfl rfl (by kernel_rfl) (by kernel_rfl) (by kernel_rfl) (fun _ _ _ h => h) (Or.inl ⟨by rfl, ?y22⟩) hHeld ?r22
                  case y22 => (intro w hSw; (try dsimp only at hSw); go_simp; try with_reducible rfl)
                  simp only [Act.put, List.setIfInBounds_toArray, List.set_cons_zero, List.set_cons_succ]
                  refine take_put (i := 23) (d := 182) (oi := _) (v := ?v23) rfl rfl (by kernel_rfl) (by kernel_rfl) (by kernel_rfl) (fun _ _ _ h => h) (Or.inl ⟨by rfl, ?y23⟩) hHeld ?r23
                  case y23 => (intro w hSw; (try dsimp only at hSw); go_simp; try with_reducible rfl)
                  simp only [Act.put, List.setIfInBounds_toArray, List.set_cons_zero, List.set_cons_succ]
                  refine take_put (i := 24) (d := 183) (oi := _) (v := ?v24) rfl rfl (by kernel_rfl) (by kernel_rfl) (by kernel_rfl) (fun _ _ _ h => h) (Or.inl ⟨by rfl, ?y24⟩) hHeld ?r24
                  case y24 => (intro w hSw; (try dsimp only at hSw); go_simp; try with_reducible rfl)
                  simp only [Act.put, List.setIfInBounds_toArray, List.set_cons_zero, List.set_cons_succ]
                  refine wpAnyH_ready (rs := [17]) (by kernel_rfl) (by simp) (AllReadyH.cons (o := _) rfl (fun K hK => ?_) AllReadyH.nil)
                  go_simp
                  refine (hen _).mono ?_
                  rintro e w' ⟨rfl, rfl⟩
                  (try dsimp only)
                  refine hK.out _ _ ((Below.refl _ _).drew) (fun hHeld => ?_)
                  clear hK K
                  refine wpAnyH_ready (rs := [25]) (by kernel_rfl) (by simp) (AllReadyH.cons (o := _) rfl (fun K hK => ?_) AllReadyH.nil)
                  go_simp
                  refine (hat1 _).mono ?_
                  rintro e w' ⟨rfl, rfl⟩
                  (try dsimp only)
                  refine hK.out _ _ ((Below.refl _ _).drew) (fun hHeld => ?_)
                  clear hK K
                  refine take_put (i := 26) (d := 185) (oi := _) (v := ?v26) rfl rfl (by kernel_rfl) (by kernel_rfl) (by kernel_rfl) (fun _ _ _ h => h) (Or.inl ⟨by rfl, ?y26⟩) hHeld ?r26
                  case y26 => (intro w hSw; (try dsimp only at hSw); go_simp; try with_reducible rfl)
                  simp only [Act.put, List.setIfInBounds_toArray, List.set_cons_zero, List.set_cons_succ]
                  refine take_put (i := 27) (d := 186) (oi := _) (v := ?v27) rfl rfl (by kernel_rfl) (by kernel_rfl) (by kernel_rfl) (fun _ _ _ h => h) (Or.inl ⟨by rfl, ?y27⟩) hHeld ?r27
                  case y27 => (intro w hSw; (try dsimp only at hSw); go_simp; try with_reducible rfl)
                  simp only [Act.put, List.setIfInBounds_toArray, List.set_cons_zero, List.set_cons_succ]
                  refine take_put (i := 28) (d := 187) (oi := _) (v := ?v28) rfl rfl (by kernel_rfl) (by kernel_rfl) (by kernel_rfl) (fun _ _ _ h => h) (Or.inl ⟨by rfl, ?y28⟩) hHeld ?r28
                  case y28 => (intro w hSw; (try dsimp only at hSw); go_simp; try with_reducible rfl)
                  simp only [Act.put, List.setIfInBounds_toArray, List.set_cons_zero, List.set_cons_succ]
                  refine take_put (i := 29) (d := 188) (oi := _) (v := ?v29) rfl rfl (by kernel_rfl) (by kernel_rfl) (by kernel_rfl) (fun _ _ _ h => h) (Or.inl ⟨by rfl, ?y29⟩) hHeld ?r29
                  case y29 => (intro w hSw; (try dsimp only at hSw); go_simp; try with_reducible rfl)
                  simp only [Act.put, List.setIfInBounds_toArray, List.set_cons_zero, List.set_cons_succ]
                  refine take_put (i := 31) (d := 190) (oi := _) (v := ?v31) rfl rfl (by kernel_rfl) (by kernel_rfl) (by kernel_rfl) (fun _ _ _ h => h) (Or.inl ⟨by rfl, ?y31⟩) hHeld ?r31
                  case y31 => (intro w hSw; (try dsimp only at hSw); go_simp; try with_reducible rfl)
                  simp only [Act.put, List.setIfInBounds_toArray, List.set_cons_zero, List.set_cons_succ]
                  refine take_put (i := 32) (d := 191) (oi := _) (v := ?v32) rfl rfl (by kernel_rfl) (by kernel_rfl) (by kernel_rfl) (fun _ _ _ h => h) (Or.inl ⟨by rfl, ?y32⟩) hHeld ?r32
                  case y32 => (intro w hSw; (try dsimp only at hSw); go_simp; try with_reducible rfl)
                  simp only [Act.put, List.setIfInBounds_toArray, List.set_cons_zero, List.set_cons_succ]
                  refine take_put (i := 33) (d := 192) (oi := _) (v := ?v33) rfl rfl (by kernel_rfl) (by kernel_rfl) (by kernel_rfl) (fun _ _ _ h => h) (Or.inl ⟨by rfl, ?y33⟩) hHeld ?r33
                  case y33 => (intro w hSw; (try dsimp only at hSw); go_simp; try with_reducible rfl)
                  simp only [Act.put, List.setIfInBounds_toArray, List.set_cons_zero, List.set_cons_succ]
                  refine take_put (i := 34) (d := 193) (oi := _) (v := ?v34) rfl rfl (by kernel_rfl) (by kernel_rfl) (by kernel_rfl) (fun _ _ _ h => h) (Or.inl ⟨by rfl, ?y34⟩) hHeld ?r34
                  case y34 => (intro w hSw; (try dsimp only at hSw); go_simp; try with_reducible rfl)
                  simp only [Act.put, List.setIfInBounds_toArray, List.set_cons_zero, List.set_cons_succ]
                  refine wpAnyH_ready (rs := [30]) (by kernel_rfl) (by simp) (AllReadyH.cons (o := _) rfl (fun K hK => ?_) AllReadyH.nil)
                  go_simp
                  refine (htr _).mono ?_
                  rintro e w5 ⟨rfl, b5⟩
                  have q5 : Below wr.heap.size wr w5 := (Below.refl _ _).drew.trans b5
                  (try dsimp only)
                  refine hK.out _ _ q5 (fun hHeld => ?_)
                  clear hK K
                  refine take_put (i := 35) (d := 194) (oi := _) (v := ?v35) rfl rfl (by kernel_rfl) (by kernel_rfl) (by kernel_rfl) (fun _ _ _ h => h) (Or.inl ⟨by rfl, ?y35⟩) hHeld ?r35
                  case y35 => (intro w hSw; (try dsimp only at hSw); go_simp; try with_reducible rfl)
                  simp only [Act.put, List.setIfInBounds_toArray, List.set_cons_zero, List.set_cons_succ]
                  refine take_put (i := 36) (d := 195) (oi := _) (v := ?v36) rfl rfl (by kernel_rfl) (by kernel_rfl) (by kernel_rfl) (fun _ _ _ h => h) (Or.inl ⟨by rfl, ?y36⟩) hHeld ?r36
                  case y36 => (intro w hSw; (try dsimp only at hSw); go_simp; try with_reducible rfl)
                  simp only [Act.put, List.setIfInBounds_toArray, List.set_cons_zero, List.set_cons_succ]
                  refine take_put (i := 37) (d := 196) (oi := _) (v := ?v37) rfl rfl (by kernel_rfl) (by kernel_rfl) (by kernel_rfl) (fun _ _ _ h => h) (Or.inl ⟨by rfl, ?y37⟩) hHeld ?r37
                  case y37 => (intro w hSw; (try dsimp only at hSw); go_simp; try with_reducible rfl)
                  simp only [Act.put, List.setIfInBounds_toArray, List.set_cons_zero, List.set_cons_succ]
                  refine wpAnyH_ready (rs := [38]) (by kernel_rfl) (by simp) (AllReadyH.cons (o := _) rfl (fun K hK => ?_) AllReadyH.nil)
                  go_simp
                  refine (hlv _ q5).mono ?_
                  rintro e w6 ⟨rfl, b6⟩
                  have q6 : Below wr.heap.size wr w6 := q5.trans (b6.mono q5.size)
                  (try dsimp only)
                  refine hK.out _ _ q6 (fun hHeld => ?_)
                  clear hK K
                  refine take_put (i := 39) (d := 198) (oi := _) (v := ?v39) rfl rfl (by kernel_rfl) (by kernel_rfl) (by kernel_rfl) (fun _ _ _ h => h) (Or.inl ⟨by rfl, ?y39⟩) hHeld ?r39
                  case y39 => (intro w hSw; (try dsimp only at hSw); go_simp; try with_reducible rfl)
                  simp only [Act.put, List.setIfInBounds_toArray, List.set_cons_zero, List.set_cons_succ]
                  refine take_put (i := 40) (d := 4) (oi := _) (v := ?v40) rfl rfl (by kernel_rfl) (by kernel_rfl) (by kernel_rfl) (fun _ _ _ h => h) (Or.inl ⟨by rfl, ?y40⟩) hHeld ?r40
                  case y40 => (intro w hSw; (try dsimp only at hSw); go_simp; try with_reducible rfl)
                  simp only [Act.put, List.setIfInBounds_toArray, List.set_cons_zero, List.set_cons_succ]
                  refine wpAnyH_done (by kernel_rfl) ?_ _
                  have HQ6 := Lib.hid q6
                  clear q5 q6 b5 b6 hhas hlv hst hen hat0 hat1 htr
                  go_wp2
                  go_ret
                  exact ⟨rfl, HB2.out.trans (HQ6.out.mono HB2.out.size)⟩
end Wd
end Go.Proofs.YtpelajhdcbemnaaDoor
