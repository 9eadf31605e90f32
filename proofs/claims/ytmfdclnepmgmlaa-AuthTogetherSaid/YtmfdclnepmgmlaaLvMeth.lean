/- What a lattice's methods tell, of a lattice whose cells are known, and of none. -/
import Derived.Test.YtmfdclnepmgmlaaLvLat
import Derived.Test.YtmfdclnepmgmlaaLvWalks1
namespace Go.Proofs.Ytmfdclnepmgmlaa
open Go.RowKit
namespace Lv
/-- the cells of a lattice stand at block g -/
def LatAt (w : World) (g n : Nat) (nm : Nat → ByteArray) (r : Nat → Nat → Bool) (j m : Nat → Nat → Nat) (bo tp : Nat) : Prop := w.heap[g]? = some (.cells (latA n nm r j m bo tp) 69)
section
variable (w : World) (g n : Nat) (nm : Nat → ByteArray) (r : Nat → Nat → Bool) (j m : Nat → Nat → Nat) (bo tp : Nat)
set_option maxHeartbeats 400000 in
theorem size_any (h : LatAt w g n nm r j m bo tp) :
    Calls Try.prog 18 #[.pointer (some ⟨g, 0, none⟩)] w fun e w' => e = .returned (.int .i64 (n : Nat)) ∧ w = w' := by
  have c0 := (cell_of_row w g 0 _ _ _ h).trans (lat_n _ _ _ _ _ _ _)
  go_enter Try.func18, Try.ntmps18
  go_wp2
  go_ret
  exact ⟨rfl, rfl⟩
set_option maxHeartbeats 400000 in
theorem size_nil :
    Calls Try.prog 18 #[.pointer none] w fun e w' => e = .returned (.int .i64 0) ∧ w = w' := by
  go_enter Try.func18, Try.ntmps18
  go_wp2
  go_ret
  exact ⟨rfl, rfl⟩
set_option maxHeartbeats 400000 in
theorem is_any (a : Int) (h : LatAt w g n nm r j m bo tp) :
    Calls Try.prog 20 #[.pointer (some ⟨g, 0, none⟩), .int .i64 a] w fun e w' => e = .returned (.bool (inI a n)) ∧ w = w' := by
  go_enter Try.func20, Try.ntmps20
  go_wp2_with (first | (go_at_call 18; refine (size_any _ _ _ _ _ _ _ _ _ h).mono ?_; rintro e w' ⟨rfl, rfl⟩) | (go_at_call 31; refine (within_any _ _ _).mono ?_; rintro e w' ⟨rfl, rfl⟩))
  go_ret
  exact ⟨rfl, rfl⟩
set_option maxHeartbeats 400000 in
theorem is_nil (a : Int) :
    Calls Try.prog 20 #[.pointer none, .int .i64 a] w fun e w' => e = .returned (.bool false) ∧ w = w' := by
  go_enter Try.func20, Try.ntmps20
  go_wp2_with (first | (go_at_call 18; refine (size_nil _).mono ?_; rintro e w' ⟨rfl, rfl⟩) | (go_at_call 31; refine (within_any _ _ _).mono ?_; rintro e w' ⟨rfl, rfl⟩))
  go_ret
  exact ⟨ret_bool (by simp [inI]), rfl⟩
def leqB (n : Nat) (r : Nat → Nat → Bool) (a b : Int) : Bool := inI a n && inI b n && r a.toNat b.toNat
set_option maxHeartbeats 400000 in
theorem leq_any (a b : Int) (h : LatAt w g n nm r j m bo tp) (hn : n ≤ 8) :
    Calls Try.prog 19 #[.pointer (some ⟨g, 0, none⟩), .int .i64 a, .int .i64 b] w fun e w' => e = .returned (.bool (leqB n r a b)) ∧ w = w' := by
  cases h1 : inI a n
  · go_enter Try.func19, Try.ntmps19
    go_wp2_with (go_at_call 20; refine (is_any _ _ _ _ _ _ _ _ _ _ h).mono ?_; rintro e w' ⟨rfl, rfl⟩)
    go_ret
    exact ⟨ret_bool (by simp [leqB, h1]), rfl⟩
  · cases h2 : inI b n
    · go_enter Try.func19, Try.ntmps19
      go_wp2_with (go_at_call 20; refine (is_any _ _ _ _ _ _ _ _ _ _ h).mono ?_; rintro e w' ⟨rfl, rfl⟩)
      go_ret
      exact ⟨ret_bool (by simp [leqB, h2]), rfl⟩
    · have i1 : 0 ≤ a ∧ a < n := by simpa [inI] using h1
      have i2 : 0 ≤ b ∧ b < n := by simpa [inI] using h2
      obtain ⟨x, rfl⟩ := Int.eq_ofNat_of_zero_le i1.1
      obtain ⟨y, rfl⟩ := Int.eq_ofNat_of_zero_le i2.1
      have c0 := (cell_of_row w g (9 + x * 8 + y) _ _ _ h).trans (lat_r _ _ _ _ _ _ _ x y (by omega) (by omega))
      go_enter Try.func19, Try.ntmps19
      go_wp2_with (go_at_call 20; refine (is_any _ _ _ _ _ _ _ _ _ _ h).mono ?_; rintro e w' ⟨rfl, rfl⟩)
      go_ret
      exact ⟨ret_bool (by simp [leqB, h1, h2]), rfl⟩
set_option maxHeartbeats 400000 in
theorem leq_nil (a b : Int) :
    Calls Try.prog 19 #[.pointer none, .int .i64 a, .int .i64 b] w fun e w' => e = .returned (.bool false) ∧ w = w' := by
  go_enter Try.func19, Try.ntmps19
  go_wp2_with (go_at_call 20; refine (is_nil _ _).mono ?_; rintro e w' ⟨rfl, rfl⟩)
  go_ret
  exact ⟨rfl, rfl⟩
def joinV (n : Nat) (j : Nat → Nat → Nat) (tp : Nat) (a b : Int) : Nat := if inI a n && inI b n then j a.toNat b.toNat else tp
def meetV (n : Nat) (m : Nat → Nat → Nat) (bo : Nat) (a b : Int) : Nat := if inI a n && inI b n then m a.toNat b.toNat else bo
def textV (n : Nat) (nm : Nat → ByteArray) (a : Int) : ByteArray := if inI a n then nm a.toNat else ByteArray.empty
def FindP (n : Nat) (nm : Nat → ByteArray) (s : ByteArray) (k : Nat) (ok : Bool) : Prop :=
  (ok = true ∧ k < n ∧ nm k = s ∧ ∀ i, i < k → nm i ≠ s) ∨ (ok = false ∧ k = 0 ∧ ∀ i, i < n → nm i ≠ s)
def FindPost (n : Nat) (nm : Nat → ByteArray) (s : ByteArray) (w : World) (e : Ending) (w' : World) : Prop := w = w' ∧ ∃ (k : Nat) (ok : Bool), e = .returned (.tuple #[.int .i64 (k : Nat), .bool ok]) ∧ FindP n nm s k ok
end
end Lv
end Go.Proofs.Ytmfdclnepmgmlaa
