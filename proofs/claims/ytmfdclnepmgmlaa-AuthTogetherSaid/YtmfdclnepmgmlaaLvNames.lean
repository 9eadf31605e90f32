/- Names behind a slice; what namesRight does. -/
import Derived.Test.YtmfdclnepmgmlaaLvPairs
namespace Go.Proofs.Ytmfdclnepmgmlaa
open Go.RowKit
namespace Lv
/-- a slice of strings that holds ss -/
structure NamesAt (w : World) (v : Value) (ss : List ByteArray) : Prop where
  form : ∃ a cap, v = .slice a ss.length cap ∧ ss.length ≤ cap ∧ ∀ i x, ss[i]? = some x → ∃ b off, a = some ⟨b, off, none⟩ ∧ w.cell? ⟨b, off + i, none⟩ = some (.string x) ∧ x.size ≤ maxLen
theorem NamesAt.go {w w1 : World} {v : Value} {ss : List ByteArray} (h : NamesAt w v ss) (hb : Below w.heap.size w w1) : NamesAt w1 v ss := by
  obtain ⟨a, cap, hv, hle, hc⟩ := h.form
  refine ⟨a, cap, hv, hle, fun i x hx => ?_⟩
  obtain ⟨b, off, ha, h1, h2⟩ := hc i x hx
  exact ⟨b, off, ha, cellB hb h1, h2⟩
theorem bytes_eq {s t : ByteArray} : (s.toList == t.toList) = true ↔ s = t := by
  rw [beq_iff_eq, ByteArray.toList_eq, ByteArray.toList_eq]
  constructor
  · intro h
    obtain ⟨⟨x⟩⟩ := s
    obtain ⟨⟨y⟩⟩ := t
    simpa using h
  · rintro rfl
    rfl
def NamesP (ss : List ByteArray) : Prop := 1 ≤ ss.length ∧ ss.length ≤ 8 ∧ (∀ (i : Nat) (x : ByteArray), ss[i]? = some x → nameB x = true) ∧ ∀ (i j : Nat) (x : ByteArray), j < i → ss[i]? = some x → ss[j]? ≠ some x
open Classical in
noncomputable def namesB (ss : List ByteArray) : Bool := decide (NamesP ss)
theorem namesB_true {ss : List ByteArray} (h : NamesP ss) : namesB ss = true := by simp [namesB, h]
theorem namesB_false {ss : List ByteArray} (h : ¬ NamesP ss) : namesB ss = false := by simp [namesB, h]
theorem namesB_iff {ss : List ByteArray} : namesB ss = true ↔ NamesP ss := by simp [namesB]
set_option maxHeartbeats 1000000 in
theorem namesRight_any (v : Value) (ss : List ByteArray) (w : World) (hp : NamesAt w v ss) (hl : ss.length ≤ maxLen) :
    Calls Try.prog 21 #[v] w fun e w' => e = .returned (.bool (namesB ss)) ∧ w = w' := by
  obtain ⟨a, cap, rfl, hcap, hc⟩ := hp.form
  unfold maxLen at hl
  have HC := Lib.hid hc
  clear hc hp
  by_cases h1 : ss.length < 1
  · have d1 : decide ((ss.length : Int) < 1) = true := by simp; omega
    go_enter Try.func21, Try.ntmps21
    go_wp2
    go_ret
    exact ⟨ret_bool (namesB_false fun h => by have := h.1; omega).symm, rfl⟩
  · have d1 : decide ((ss.length : Int) < 1) = false := by simp; omega
    by_cases h8 : 8 < ss.length
    · have d2 : decide ((8 : Int) < (ss.length : Int)) = true := by simp; omega
      go_enter Try.func21, Try.ntmps21
      go_wp2
      go_ret
      exact ⟨ret_bool (namesB_false fun h => by have := h.2.1; omega).symm, rfl⟩
    · have d2 : decide ((8 : Int) < (ss.length : Int)) = false := by simp; omega
      go_enter Try.func21, Try.ntmps21
      go_wp2
      go_loop [3, 4, 17] (fun _ _ i => ∃ k : Nat, k ≤ ss.length ∧ i = .int .i64 k ∧ (∀ (i : Nat) (x : ByteArray), i < k → ss[i]? = some x → nameB x = true) ∧ ∀ (i j : Nat) (x : ByteArray), i < k → j < i → ss[i]? = some x → ss[j]? ≠ some x) (fun _ _ i => ss.length - (intOf i).toNat)
      case atStart => exact ⟨0, by omega, rfl, fun i x h => by omega, fun i j x h => by omega⟩
      case round =>
        obtain ⟨k, hk, rfl, hn, hd⟩ := hrel
        have HN := Lib.hid hn
        have HD := Lib.hid hd
        clear hn hd
        by_cases hlt : k < ss.length
        · obtain ⟨s, hx⟩ : ∃ x, ss[k]? = some x := ⟨_, List.getElem?_eq_getElem hlt⟩
          obtain ⟨b, off, rfl, c1, hs⟩ := HC.out k _ hx
          have HX := Lib.hid hx
          clear hx
          cases g1 : nameB s
          · go_wp2_with (go_at_call 32; refine (name_any _ _ hs).mono ?_; rintro e w' ⟨rfl, rfl⟩)
            go_ret
            exact ⟨ret_bool (namesB_false fun h => by rw [h.2.2.1 k s HX.out] at g1; cases g1).symm, rfl⟩
          · go_wp2_with (go_at_call 32; refine (name_any _ _ hs).mono ?_; rintro e w' ⟨rfl, rfl⟩)
            go_loop [6, 29] (fun _ i => ∃ m : Nat, m ≤ k ∧ i = .int .i64 m ∧ ∀ j, j < m → ss[j]? ≠ some s) (fun _ i => k - (intOf i).toNat)
            case atStart => exact ⟨0, by omega, rfl, fun j h => by omega⟩
            case round =>
              obtain ⟨m, hm, rfl, hne⟩ := hrel
              have HE := Lib.hid hne
              clear hne
              by_cases hlt2 : m < k
              · obtain ⟨t, hy⟩ : ∃ x, ss[m]? = some x := ⟨_, List.getElem?_eq_getElem (by omega)⟩
                obtain ⟨b', off', hbb, c2, ht⟩ := HC.out m _ hy
                cases hbb
                have HY := Lib.hid hy
                clear hy
                cases g2 : (t.toList == s.toList)
                · go_wp2
                  go_round
                  case rel =>
                    refine ⟨m + 1, by omega, by go_num, fun j hj => ?_⟩
                    by_cases e : j < m
                    · exact HE.out j e
                    · obtain rfl : j = m := by omega
                      rw [HY.out]
                      intro h
                      cases h
                      rw [bytes_eq.2 rfl] at g2
                      cases g2
                  case measure => simp [intOf]; omega
                · go_wp2
                  go_ret
                  exact ⟨ret_bool (namesB_false fun h => h.2.2.2 k m s hlt2 HX.out (by rw [HY.out, bytes_eq.1 g2])).symm, rfl⟩
              · go_wp2
                go_round
                case rel =>
                  refine ⟨k + 1, by omega, by go_num, fun i x hi hx => ?_, fun i j x hi hj hx => ?_⟩
                  · by_cases e : i < k
                    · exact HN.out i x e hx
                    · obtain rfl : i = k := by omega
                      rw [HX.out] at hx
                      cases hx
                      exact g1
                  · by_cases e : i < k
                    · exact HD.out i j x e hj hx
                    · obtain rfl : i = k := by omega
                      rw [HX.out] at hx
                      cases hx
                      exact HE.out j (by omega)
                case measure => simp [intOf]; omega
        · obtain rfl : k = ss.length := by omega
          go_wp2
          go_ret
          exact ⟨ret_bool (namesB_true ⟨by omega, by omega, fun i x h => HN.out i x (List.getElem?_eq_some_iff.1 h).1 h, fun i j x hj h => HD.out i j x (List.getElem?_eq_some_iff.1 h).1 hj h⟩).symm, rfl⟩
end Lv
end Go.Proofs.Ytmfdclnepmgmlaa
