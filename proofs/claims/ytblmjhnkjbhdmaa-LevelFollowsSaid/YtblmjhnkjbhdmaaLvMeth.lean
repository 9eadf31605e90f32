/- What a lattice's methods tell, of a lattice whose cells are known, and of none. -/
import Derived.Test.YtblmjhnkjbhdmaaLvLat
import Derived.Test.YtblmjhnkjbhdmaaLvWalks1
namespace Go.Proofs.Ytblmjhnkjbhdmaa
open Go.RowKit
namespace Lv
/-- the cells of a lattice stand at block g -/
def LatAt (w : World) (g n : Nat) (nm : Nat → ByteArray) (r : Nat → Nat → Bool) (j m : Nat → Nat → Nat) (bo tp : Nat) : Prop := w.heap[g]? = some (.cells (latA n nm r j m bo tp) 69)
section
variable (w : World) (g n : Nat) (nm : Nat → ByteArray) (r : Nat → Nat → Bool) (j m : Nat → Nat → Nat) (bo tp : Nat)
set_option maxHeartbeats 400000 in
theorem size_any (h : LatAt w g n nm r j m bo tp) :
    Calls Try.prog 15 #[.pointer (some ⟨g, 0, none⟩)] w fun e w' => e = .returned (.int .i64 (n : Nat)) ∧ w = w' := by
  have c0 := (cell_of_row w g 0 _ _ _ h).trans (lat_n _ _ _ _ _ _ _)
  go_enter Try.func15, Try.ntmps15
  go_wp2
  go_ret
  exact ⟨rfl, rfl⟩
set_option maxHeartbeats 400000 in
theorem size_nil :
    Calls Try.prog 15 #[.pointer none] w fun e w' => e = .returned (.int .i64 0) ∧ w = w' := by
  go_enter Try.func15, Try.ntmps15
  go_wp2
  go_ret
  exact ⟨rfl, rfl⟩
set_option maxHeartbeats 400000 in
theorem bottom_any (h : LatAt w g n nm r j m bo tp) :
    Calls Try.prog 21 #[.pointer (some ⟨g, 0, none⟩)] w fun e w' => e = .returned (.int .i64 (bo : Nat)) ∧ w = w' := by
  have c0 := (cell_of_row w g 201 _ _ _ h).trans (lat_bot _ _ _ _ _ _ _)
  go_enter Try.func21, Try.ntmps21
  go_wp2
  go_ret
  exact ⟨rfl, rfl⟩
set_option maxHeartbeats 400000 in
theorem bottom_nil :
    Calls Try.prog 21 #[.pointer none] w fun e w' => e = .returned (.int .i64 0) ∧ w = w' := by
  go_enter Try.func21, Try.ntmps21
  go_wp2
  go_ret
  exact ⟨rfl, rfl⟩
set_option maxHeartbeats 400000 in
theorem top_any (h : LatAt w g n nm r j m bo tp) :
    Calls Try.prog 22 #[.pointer (some ⟨g, 0, none⟩)] w fun e w' => e = .returned (.int .i64 (tp : Nat)) ∧ w = w' := by
  have c0 := (cell_of_row w g 202 _ _ _ h).trans (lat_top _ _ _ _ _ _ _)
  go_enter Try.func22, Try.ntmps22
  go_wp2
  go_ret
  exact ⟨rfl, rfl⟩
set_option maxHeartbeats 400000 in
theorem top_nil :
    Calls Try.prog 22 #[.pointer none] w fun e w' => e = .returned (.int .i64 0) ∧ w = w' := by
  go_enter Try.func22, Try.ntmps22
  go_wp2
  go_ret
  exact ⟨rfl, rfl⟩
set_option maxHeartbeats 400000 in
theorem is_any (a : Int) (h : LatAt w g n nm r j m bo tp) :
    Calls Try.prog 24 #[.pointer (some ⟨g, 0, none⟩), .int .i64 a] w fun e w' => e = .returned (.bool (inI a n)) ∧ w = w' := by
  go_enter Try.func24, Try.ntmps24
  go_wp2_with (first | (go_at_call 15; refine (size_any _ _ _ _ _ _ _ _ _ h).mono ?_; rintro e w' ⟨rfl, rfl⟩) | (go_at_call 36; refine (within_any _ _ _).mono ?_; rintro e w' ⟨rfl, rfl⟩))
  go_ret
  exact ⟨rfl, rfl⟩
set_option maxHeartbeats 400000 in
theorem is_nil (a : Int) :
    Calls Try.prog 24 #[.pointer none, .int .i64 a] w fun e w' => e = .returned (.bool false) ∧ w = w' := by
  go_enter Try.func24, Try.ntmps24
  go_wp2_with (first | (go_at_call 15; refine (size_nil _).mono ?_; rintro e w' ⟨rfl, rfl⟩) | (go_at_call 36; refine (within_any _ _ _).mono ?_; rintro e w' ⟨rfl, rfl⟩))
  go_ret
  exact ⟨ret_bool (by simp [inI]), rfl⟩
def leqB (n : Nat) (r : Nat → Nat → Bool) (a b : Int) : Bool := inI a n && inI b n && r a.toNat b.toNat
set_option maxHeartbeats 400000 in
theorem leq_any (a b : Int) (h : LatAt w g n nm r j m bo tp) (hn : n ≤ 8) :
    Calls Try.prog 16 #[.pointer (some ⟨g, 0, none⟩), .int .i64 a, .int .i64 b] w fun e w' => e = .returned (.bool (leqB n r a b)) ∧ w = w' := by
  cases h1 : inI a n
  · go_enter Try.func16, Try.ntmps16
    go_wp2_with (go_at_call 24; refine (is_any _ _ _ _ _ _ _ _ _ _ h).mono ?_; rintro e w' ⟨rfl, rfl⟩)
    go_ret
    exact ⟨ret_bool (by simp [leqB, h1]), rfl⟩
  · cases h2 : inI b n
    · go_enter Try.func16, Try.ntmps16
      go_wp2_with (go_at_call 24; refine (is_any _ _ _ _ _ _ _ _ _ _ h).mono ?_; rintro e w' ⟨rfl, rfl⟩)
      go_ret
      exact ⟨ret_bool (by simp [leqB, h2]), rfl⟩
    · have i1 : 0 ≤ a ∧ a < n := by simpa [inI] using h1
      have i2 : 0 ≤ b ∧ b < n := by simpa [inI] using h2
      obtain ⟨x, rfl⟩ := Int.eq_ofNat_of_zero_le i1.1
      obtain ⟨y, rfl⟩ := Int.eq_ofNat_of_zero_le i2.1
      have c0 := (cell_of_row w g (9 + x * 8 + y) _ _ _ h).trans (lat_r _ _ _ _ _ _ _ x y (by omega) (by omega))
      go_enter Try.func16, Try.ntmps16
      go_wp2_with (go_at_call 24; refine (is_any _ _ _ _ _ _ _ _ _ _ h).mono ?_; rintro e w' ⟨rfl, rfl⟩)
      go_ret
      exact ⟨ret_bool (by simp [leqB, h1, h2]), rfl⟩
set_option maxHeartbeats 400000 in
theorem leq_nil (a b : Int) :
    Calls Try.prog 16 #[.pointer none, .int .i64 a, .int .i64 b] w fun e w' => e = .returned (.bool false) ∧ w = w' := by
  go_enter Try.func16, Try.ntmps16
  go_wp2_with (go_at_call 24; refine (is_nil _ _).mono ?_; rintro e w' ⟨rfl, rfl⟩)
  go_ret
  exact ⟨rfl, rfl⟩
def joinV (n : Nat) (j : Nat → Nat → Nat) (tp : Nat) (a b : Int) : Nat := if inI a n && inI b n then j a.toNat b.toNat else tp
set_option maxHeartbeats 400000 in
theorem join_any (a b : Int) (h : LatAt w g n nm r j m bo tp) (hn : n ≤ 8) :
    Calls Try.prog 17 #[.pointer (some ⟨g, 0, none⟩), .int .i64 a, .int .i64 b] w fun e w' => e = .returned (.int .i64 (joinV n j tp a b : Nat)) ∧ w = w' := by
  cases h1 : inI a n
  · go_enter Try.func17, Try.ntmps17
    go_wp2_with (first | (go_at_call 24; refine (is_any _ _ _ _ _ _ _ _ _ _ h).mono ?_; rintro e w' ⟨rfl, rfl⟩) | (go_at_call 22; refine (top_any _ _ _ _ _ _ _ _ _ h).mono ?_; rintro e w' ⟨rfl, rfl⟩))
    go_ret
    exact ⟨by simp [joinV, h1], rfl⟩
  · cases h2 : inI b n
    · go_enter Try.func17, Try.ntmps17
      go_wp2_with (first | (go_at_call 24; refine (is_any _ _ _ _ _ _ _ _ _ _ h).mono ?_; rintro e w' ⟨rfl, rfl⟩) | (go_at_call 22; refine (top_any _ _ _ _ _ _ _ _ _ h).mono ?_; rintro e w' ⟨rfl, rfl⟩))
      go_ret
      exact ⟨by simp [joinV, h2], rfl⟩
    · have i1 : 0 ≤ a ∧ a < n := by simpa [inI] using h1
      have i2 : 0 ≤ b ∧ b < n := by simpa [inI] using h2
      obtain ⟨x, rfl⟩ := Int.eq_ofNat_of_zero_le i1.1
      obtain ⟨y, rfl⟩ := Int.eq_ofNat_of_zero_le i2.1
      have c0 := (cell_of_row w g (73 + x * 8 + y) _ _ _ h).trans (lat_j _ _ _ _ _ _ _ x y (by omega) (by omega))
      go_enter Try.func17, Try.ntmps17
      go_wp2_with (go_at_call 24; refine (is_any _ _ _ _ _ _ _ _ _ _ h).mono ?_; rintro e w' ⟨rfl, rfl⟩)
      go_ret
      exact ⟨by simp [joinV, h1, h2], rfl⟩
set_option maxHeartbeats 400000 in
theorem join_nil (a b : Int) :
    Calls Try.prog 17 #[.pointer none, .int .i64 a, .int .i64 b] w fun e w' => e = .returned (.int .i64 0) ∧ w = w' := by
  go_enter Try.func17, Try.ntmps17
  go_wp2_with (first | (go_at_call 24; refine (is_nil _ _).mono ?_; rintro e w' ⟨rfl, rfl⟩) | (go_at_call 22; refine (top_nil _).mono ?_; rintro e w' ⟨rfl, rfl⟩))
  go_ret
  exact ⟨rfl, rfl⟩
def meetV (n : Nat) (m : Nat → Nat → Nat) (bo : Nat) (a b : Int) : Nat := if inI a n && inI b n then m a.toNat b.toNat else bo
set_option maxHeartbeats 400000 in
theorem meet_any (a b : Int) (h : LatAt w g n nm r j m bo tp) (hn : n ≤ 8) :
    Calls Try.prog 19 #[.pointer (some ⟨g, 0, none⟩), .int .i64 a, .int .i64 b] w fun e w' => e = .returned (.int .i64 (meetV n m bo a b : Nat)) ∧ w = w' := by
  cases h1 : inI a n
  · go_enter Try.func19, Try.ntmps19
    go_wp2_with (first | (go_at_call 24; refine (is_any _ _ _ _ _ _ _ _ _ _ h).mono ?_; rintro e w' ⟨rfl, rfl⟩) | (go_at_call 21; refine (bottom_any _ _ _ _ _ _ _ _ _ h).mono ?_; rintro e w' ⟨rfl, rfl⟩))
    go_ret
    exact ⟨by simp [meetV, h1], rfl⟩
  · cases h2 : inI b n
    · go_enter Try.func19, Try.ntmps19
      go_wp2_with (first | (go_at_call 24; refine (is_any _ _ _ _ _ _ _ _ _ _ h).mono ?_; rintro e w' ⟨rfl, rfl⟩) | (go_at_call 21; refine (bottom_any _ _ _ _ _ _ _ _ _ h).mono ?_; rintro e w' ⟨rfl, rfl⟩))
      go_ret
      exact ⟨by simp [meetV, h2], rfl⟩
    · have i1 : 0 ≤ a ∧ a < n := by simpa [inI] using h1
      have i2 : 0 ≤ b ∧ b < n := by simpa [inI] using h2
      obtain ⟨x, rfl⟩ := Int.eq_ofNat_of_zero_le i1.1
      obtain ⟨y, rfl⟩ := Int.eq_ofNat_of_zero_le i2.1
      have c0 := (cell_of_row w g (137 + x * 8 + y) _ _ _ h).trans (lat_m _ _ _ _ _ _ _ x y (by omega) (by omega))
      go_enter Try.func19, Try.ntmps19
      go_wp2_with (go_at_call 24; refine (is_any _ _ _ _ _ _ _ _ _ _ h).mono ?_; rintro e w' ⟨rfl, rfl⟩)
      go_ret
      exact ⟨by simp [meetV, h1, h2], rfl⟩
set_option maxHeartbeats 400000 in
theorem meet_nil (a b : Int) :
    Calls Try.prog 19 #[.pointer none, .int .i64 a, .int .i64 b] w fun e w' => e = .returned (.int .i64 0) ∧ w = w' := by
  go_enter Try.func19, Try.ntmps19
  go_wp2_with (first | (go_at_call 24; refine (is_nil _ _).mono ?_; rintro e w' ⟨rfl, rfl⟩) | (go_at_call 21; refine (bottom_nil _).mono ?_; rintro e w' ⟨rfl, rfl⟩))
  go_ret
  exact ⟨rfl, rfl⟩
def textV (n : Nat) (nm : Nat → ByteArray) (a : Int) : ByteArray := if inI a n then nm a.toNat else ByteArray.empty
set_option maxHeartbeats 400000 in
theorem text_any (a : Int) (h : LatAt w g n nm r j m bo tp) (hn : n ≤ 8) :
    Calls Try.prog 25 #[.pointer (some ⟨g, 0, none⟩), .int .i64 a] w fun e w' => e = .returned (.string (textV n nm a)) ∧ w = w' := by
  cases h1 : inI a n
  · go_enter Try.func25, Try.ntmps25
    go_wp2_with (go_at_call 24; refine (is_any _ _ _ _ _ _ _ _ _ _ h).mono ?_; rintro e w' ⟨rfl, rfl⟩)
    go_ret
    exact ⟨by simp [textV, h1]; rfl, rfl⟩
  · have i1 : 0 ≤ a ∧ a < n := by simpa [inI] using h1
    obtain ⟨x, rfl⟩ := Int.eq_ofNat_of_zero_le i1.1
    have c0 := (cell_of_row w g (1 + x) _ _ _ h).trans (lat_nm _ _ _ _ _ _ _ x (by omega))
    go_enter Try.func25, Try.ntmps25
    go_wp2_with (go_at_call 24; refine (is_any _ _ _ _ _ _ _ _ _ _ h).mono ?_; rintro e w' ⟨rfl, rfl⟩)
    go_ret
    exact ⟨by simp [textV, h1], rfl⟩
set_option maxHeartbeats 400000 in
theorem text_nil (a : Int) :
    Calls Try.prog 25 #[.pointer none, .int .i64 a] w fun e w' => e = .returned (.string ByteArray.empty) ∧ w = w' := by
  go_enter Try.func25, Try.ntmps25
  go_wp2_with (go_at_call 24; refine (is_nil _ _).mono ?_; rintro e w' ⟨rfl, rfl⟩)
  go_ret
  exact ⟨rfl, rfl⟩
def FindP (n : Nat) (nm : Nat → ByteArray) (s : ByteArray) (k : Nat) (ok : Bool) : Prop :=
  (ok = true ∧ k < n ∧ nm k = s ∧ ∀ i, i < k → nm i ≠ s) ∨ (ok = false ∧ k = 0 ∧ ∀ i, i < n → nm i ≠ s)
def FindPost (n : Nat) (nm : Nat → ByteArray) (s : ByteArray) (w : World) (e : Ending) (w' : World) : Prop := w = w' ∧ ∃ (k : Nat) (ok : Bool), e = .returned (.tuple #[.int .i64 (k : Nat), .bool ok]) ∧ FindP n nm s k ok
set_option maxHeartbeats 400000 in
theorem find_any (s : ByteArray) (h : LatAt w g n nm r j m bo tp) (hn : n ≤ 8) :
    Calls Try.prog 23 #[.pointer (some ⟨g, 0, none⟩), .string s] w (FindPost n nm s w) := by
  have H := Lib.hid h
  clear h
  go_enter Try.func23, Try.ntmps23
  go_wp2_with (go_at_call 15; refine (size_any _ _ _ _ _ _ _ _ _ H.out).mono ?_; rintro e w' ⟨rfl, rfl⟩)
  go_loop [6, 9] (fun _ i => ∃ k : Nat, k ≤ n ∧ i = .int .i64 k ∧ ∀ i, i < k → nm i ≠ s) (fun _ i => n - (intOf i).toNat)
  case atStart => exact ⟨0, by omega, rfl, fun i h => by omega⟩
  case round =>
    obtain ⟨k, hk, rfl, hall⟩ := hrel
    have HA := Lib.hid hall
    clear hall
    by_cases hlt : k < n
    · have c0 := (cell_of_row w g (1 + k) _ _ _ H.out).trans (lat_nm _ _ _ _ _ _ _ k (by omega))
      cases g2 : ((nm k).toList == s.toList)
      · go_wp2
        go_round
        case rel =>
          refine ⟨k + 1, by omega, by go_num, fun i hi => ?_⟩
          by_cases e : i < k
          · exact HA.out i e
          · obtain rfl : i = k := by omega
            intro hh
            rw [bytes_eq.2 hh] at g2
            cases g2
        case measure => simp [intOf]; omega
      · go_wp2
        go_ret2
        exact ⟨rfl, k, true, rfl, .inl ⟨rfl, hlt, bytes_eq.1 g2, HA.out⟩⟩
    · obtain rfl : k = n := by omega
      go_wp2
      go_ret2
      exact ⟨rfl, 0, false, rfl, .inr ⟨rfl, rfl, HA.out⟩⟩
set_option maxHeartbeats 400000 in
theorem find_nil (s : ByteArray) :
    Calls Try.prog 23 #[.pointer none, .string s] w fun e w' => e = .returned (.tuple #[.int .i64 0, .bool false]) ∧ w = w' := by
  go_enter Try.func23, Try.ntmps23
  go_wp2_with (go_at_call 15; refine (size_nil _).mono ?_; rintro e w' ⟨rfl, rfl⟩)
  refine wp_loop_once ?_
  go_wp2
  go_ret2
  exact ⟨rfl, rfl⟩
end
end Lv
end Go.Proofs.Ytblmjhnkjbhdmaa
