/- What the document's Name tells: the same as the program's. -/
import Derived.Test.YtmfdclnepmgmlaaLvWalks1
namespace Go.Proofs.Ytmfdclnepmgmlaa
open Go.RowKit
namespace Lv
theorem ltr_parts {n : Int} (h : ltrI n = true) : decide (n < 97) = false ∧ decide (122 < n) = false ∧ decide (97 ≤ n) = true ∧ decide (n ≤ 122) = true := by
  simp [ltrI] at h ⊢; omega
theorem ltr_no {n : Int} (h : ltrI n = false) : decide (n < 97) = true ∨ (decide (n < 97) = false ∧ decide (122 < n) = true) := by
  simp [ltrI] at h ⊢; omega
theorem ltr_no2 {n : Int} (h : ltrI n = false) : decide (97 ≤ n) = false ∨ (decide (97 ≤ n) = true ∧ decide (n ≤ 122) = false) := by
  simp [ltrI] at h ⊢; omega
theorem dig_parts {n : Int} (h : digI n = true) : decide (48 ≤ n) = true ∧ decide (n ≤ 57) = true := by
  simp [digI] at h ⊢; omega
theorem dig_no {n : Int} (h : digI n = false) : decide (48 ≤ n) = false ∨ (decide (48 ≤ n) = true ∧ decide (n ≤ 57) = false) := by
  simp [digI] at h ⊢; omega
theorem NameP0 {s : ByteArray} (h : NameP s) : ∀ j (h : j < s.size), okI (s[j].toNat : Int) = true := h.2.2.2
set_option maxHeartbeats 1000000 in
theorem rname_any (s : ByteArray) (w : World) (hs : s.size ≤ maxLen) :
    Calls Try.prog 11 #[.string s] w fun e w' => e = .returned (.bool (nameB s)) ∧ w = w' := by
  unfold maxLen at hs
  by_cases h1 : s.size < 1
  · have d1 : decide ((s.size : Int) < 1) = true := by simp; omega
    go_enter Try.func11, Try.ntmps11
    go_wp2
    go_ret
    exact ⟨ret_bool (nameB_false fun h => by have := h.1; omega).symm, rfl⟩
  · have d1 : decide ((s.size : Int) < 1) = false := by simp; omega
    by_cases h2 : 16 < s.size
    · have d2 : decide ((16 : Int) < (s.size : Int)) = true := by simp; omega
      go_enter Try.func11, Try.ntmps11
      go_wp2
      go_ret
      exact ⟨ret_bool (nameB_false fun h => by have := h.2.1; omega).symm, rfl⟩
    · have d2 : decide ((16 : Int) < (s.size : Int)) = false := by simp; omega
      have h0 : 0 < s.size := by omega
      cases hl : ltrI (s[0].toNat : Int)
      · have HL := Lib.hid hl
        rcases ltr_no hl with e1 | ⟨e1, e2⟩
        all_goals
          clear hl
          go_enter Try.func11, Try.ntmps11
          go_wp2
          go_ret
          exact ⟨ret_bool (nameB_false fun h => by have := h.2.2.1 h0; rw [HL.out] at this; cases this).symm, rfl⟩
      · obtain ⟨e1, e2, _, _⟩ := ltr_parts hl
        have HL := Lib.hid hl
        clear hl
        go_enter Try.func11, Try.ntmps11
        go_wp2
        go_loop [3] (fun i => ∃ k : Nat, k ≤ s.size ∧ i = .int .i64 k ∧ ∀ j (h : j < s.size), j < k → okI (s[j].toNat : Int) = true) (fun i => s.size - (intOf i).toNat)
        case atStart => exact ⟨0, by omega, rfl, fun j h hj => by omega⟩
        case round =>
          obtain ⟨k, hk, rfl, hall⟩ := hrel
          have H := Lib.hid hall
          clear hall
          clear e1 e2
          by_cases hlt : k < s.size
          · cases hd : ltrI (s[k].toNat : Int)
            · have HD := Lib.hid hd
              have hno := ltr_no2 hd
              clear hd
              cases he : digI (s[k].toNat : Int)
              · have HE := Lib.hid he
                have hn2 := dig_no he
                clear he
                rcases hno with e1 | ⟨e1, e2⟩
                all_goals
                  rcases hn2 with f1 | ⟨f1, f2⟩
                  all_goals
                    go_wp2
                    go_ret
                    exact ⟨ret_bool (nameB_false fun h => by have := h.2.2.2 k hlt; rw [okI, HD.out, HE.out] at this; cases this).symm, rfl⟩
              · have HE := Lib.hid he
                obtain ⟨f1, f2⟩ := dig_parts he
                clear he
                rcases hno with e1 | ⟨e1, e2⟩
                all_goals
                  go_wp2
                  go_round
                  case rel => exact ⟨k + 1, by omega, by go_num, ok_snoc H.out fun _ => by simp [okI, HE.out]⟩
                  case measure => simp [intOf]; omega
            · have HD := Lib.hid hd
              obtain ⟨_, _, e1, e2⟩ := ltr_parts hd
              clear hd
              go_wp2
              go_round
              case rel => exact ⟨k + 1, by omega, by go_num, ok_snoc H.out fun _ => by simp [okI, HD.out]⟩
              case measure => simp [intOf]; omega
          · go_wp2
            go_ret
            exact ⟨ret_bool (nameB_true ⟨by omega, by omega, fun _ => HL.out, fun j h => H.out j h (by omega)⟩).symm, rfl⟩
end Lv
end Go.Proofs.Ytmfdclnepmgmlaa
