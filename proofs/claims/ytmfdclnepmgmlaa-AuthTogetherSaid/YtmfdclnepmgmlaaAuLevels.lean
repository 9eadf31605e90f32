/- What auth's levelsRight and namesRight tell, of a lattice whose cells are known. -/
import Derived.Test.YtmfdclnepmgmlaaAuOver
import Derived.Deep.RegionHeld3
namespace Go.Proofs.Ytmfdclnepmgmlaa
open Go.RowKit
namespace Lv
/-- is the level at k of l wrong? -/
def badAt (n : Nat) (l : List Int) (k : Nat) : Bool := !inI (l.getD k 0) n || (decide (0 < k) && decide (l.getD k 0 ≤ l.getD (k - 1) 0))
def badTo (n : Nat) (l : List Int) (k : Nat) : Bool := (List.range k).any (badAt n l)
theorem badTo_succ (n : Nat) (l : List Int) (k : Nat) : badTo n l (k + 1) = (badTo n l k || badAt n l k) := by simp [badTo, List.range_succ]
theorem badTo_yes {n : Nat} {l : List Int} {k m : Nat} (hk : k < m) (h : badAt n l k = true) : badTo n l m = true := by
  unfold badTo
  rw [List.any_eq_true]
  exact ⟨k, List.mem_range.2 hk, h⟩
/-- are all levels of l levels, rising? -/
def lrB (n : Nat) (l : List Int) : Bool := !badTo n l l.length
section
variable {g n : Nat} {nm : Nat → ByteArray} {r : Nat → Nat → Bool} {j m : Nat → Nat → Nat} {bo tp : Nat}
set_option maxHeartbeats 1000000 in
theorem levelsRight_any (u : Value) (l : List Int) (w : World) (hL : LatAt w g n nm r j m bo tp) (hu : OverAt w u l) :
    Calls Try.prog 29 #[.pointer (some ⟨g, 0, none⟩), u] w fun e w' => e = .returned (.bool (lrB n l)) ∧ w = w' := by
  obtain ⟨ua, ucap, rfl, hul, hc⟩ := hu.form
  unfold maxLen at hul
  have HC := Lib.hid hc
  clear hc hu
  have HL := Lib.hid hL
  clear hL
  go_enter Try.func29, Try.ntmps29
  go_wp2
  go_loop [5, 6, 9] (fun _ _ i => ∃ k : Nat, k ≤ l.length ∧ i = .int .i64 k ∧ badTo n l k = false) (fun _ _ i => l.length - (intOf i).toNat)
  case atStart => exact ⟨0, by omega, rfl, rfl⟩
  case round =>
    obtain ⟨k, hk, rfl, hno⟩ := hrel
    have HN := Lib.hid hno
    clear hno
    by_cases hlt : k < l.length
    · obtain ⟨x, hx⟩ : ∃ x, l[k]? = some x := ⟨_, List.getElem?_eq_getElem hlt⟩
      obtain ⟨b, off, rfl, c1⟩ := HC.out k _ hx
      have gx : l.getD k 0 = x := by rw [List.getD_eq_getElem?_getD, hx]; rfl
      clear hx
      have GX := Lib.hid gx
      clear gx
      cases q : inI x n
      · have hbad : badAt n l k = true := by simp only [badAt, GX.out, q]; rfl
        have HB := Lib.hid (badTo_yes hlt hbad)
        clear hbad
        go_wp2_with (go_at_call 20; refine (is_any _ _ _ _ _ _ _ _ _ _ HL.out).mono ?_; rintro e w' ⟨rfl, rfl⟩)
        go_ret
        exact ⟨ret_bool (by simp only [lrB, HB.out]; rfl), rfl⟩
      · cases k with
        | zero =>
          rw [Nat.add_zero] at c1
          have hbad : badAt n l 0 = false := by simp only [badAt, GX.out, q]; rfl
          have HB := Lib.hid hbad
          clear hbad
          go_wp2_with (go_at_call 20; refine (is_any _ _ _ _ _ _ _ _ _ _ HL.out).mono ?_; rintro e w' ⟨rfl, rfl⟩)
          go_round
          case rel => exact ⟨1, by omega, by go_num, by rw [badTo_succ, HB.out]; rfl⟩
          case measure => simp [intOf]; omega
        | succ p =>
          obtain ⟨y, hy⟩ : ∃ y, l[p]? = some y := ⟨_, List.getElem?_eq_getElem (by omega)⟩
          obtain ⟨b', off', he, c2⟩ := HC.out p _ hy
          cases he
          have gy : l.getD p 0 = y := by rw [List.getD_eq_getElem?_getD, hy]; rfl
          clear hy
          have GY := Lib.hid gy
          clear gy
          have hbad : badAt n l (p + 1) = decide (x ≤ y) := by unfold badAt; rw [GX.out, q, Nat.add_sub_cancel, GY.out, decide_eq_true (Nat.succ_pos p)]; rfl
          have HB := Lib.hid hbad
          clear hbad
          cases d : decide (x ≤ y)
          · go_wp2_with (go_at_call 20; refine (is_any _ _ _ _ _ _ _ _ _ _ HL.out).mono ?_; rintro e w' ⟨rfl, rfl⟩)
            go_round
            case rel => exact ⟨p + 1 + 1, by omega, by go_num, by rw [badTo_succ, HB.out, HN.out, d]; rfl⟩
            case measure => simp [intOf]; omega
          · go_wp2_with (go_at_call 20; refine (is_any _ _ _ _ _ _ _ _ _ _ HL.out).mono ?_; rintro e w' ⟨rfl, rfl⟩)
            go_ret
            exact ⟨ret_bool (by simp only [lrB, badTo_yes hlt (HB.out.trans d)]; rfl), rfl⟩
    · obtain rfl : k = l.length := by omega
      go_wp2
      go_ret
      exact ⟨ret_bool (by simp only [lrB, HN.out]; rfl), rfl⟩
end
end Lv
end Go.Proofs.Ytmfdclnepmgmlaa
