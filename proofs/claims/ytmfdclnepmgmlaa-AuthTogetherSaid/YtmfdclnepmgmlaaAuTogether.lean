/- What the law AuthTogether does: it answers true. -/
import Derived.Test.YtmfdclnepmgmlaaAuLives
namespace Go.Proofs.Ytmfdclnepmgmlaa
open Go.RowKit
namespace Lv
def cA : ByteArray := ⟨#[97]⟩
def cB : ByteArray := ⟨#[98]⟩
def cC : ByteArray := ⟨#[99]⟩
def cD : ByteArray := ⟨#[100]⟩
def psT (x y u v : Int) : List Prin := [(cA, [x]), (cB, [y]), (cC, [u, v]), (cD, [])]
theorem bytes_ne {s t : ByteArray} (h : s ≠ t) : (s.toList == t.toList) = false := by
  cases q : (s.toList == t.toList)
  · rfl
  · exact absurd (bytes_eq.1 q) h
theorem nAB : cA ≠ cB := by decide
theorem nAC : cA ≠ cC := by decide
theorem nAD : cA ≠ cD := by decide
theorem nBC : cB ≠ cC := by decide
theorem nBD : cB ≠ cD := by decide
theorem nCD : cC ≠ cD := by decide
section
variable (x y u v : Int)
theorem fA : fnd (psT x y u v) cA = some 0 := fnd_some (x := (cA, [x])) rfl (bytes_eq.2 rfl) fun i z hi => by omega
theorem fB : fnd (psT x y u v) cB = some 1 := fnd_some (x := (cB, [y])) rfl (bytes_eq.2 rfl) fun i z hi hz => by
  match i, hi, hz with
  | 0, _, hz => cases hz; exact bytes_ne nAB
theorem fC : fnd (psT x y u v) cC = some 2 := fnd_some (x := (cC, [u, v])) rfl (bytes_eq.2 rfl) fun i z hi hz => by
  match i, hi, hz with
  | 0, _, hz => cases hz; exact bytes_ne nAC
  | 1, _, hz => cases hz; exact bytes_ne nBC
theorem fD : fnd (psT x y u v) cD = some 3 := fnd_some (x := (cD, [])) rfl (bytes_eq.2 rfl) fun i z hi hz => by
  match i, hi, hz with
  | 0, _, hz => cases hz; exact bytes_ne nAD
  | 1, _, hz => cases hz; exact bytes_ne nBD
  | 2, _, hz => cases hz; exact bytes_ne nCD
theorem oA : overL (psT x y u v) cA = [x] := overL_some (x := (cA, [x])) (fA x y u v) rfl
theorem oB : overL (psT x y u v) cB = [y] := overL_some (x := (cB, [y])) (fB x y u v) rfl
theorem oC : overL (psT x y u v) cC = [u, v] := overL_some (x := (cC, [u, v])) (fC x y u v) rfl
theorem oD : overL (psT x y u v) cD = [] := overL_some (x := (cD, [])) (fD x y u v) rfl
end
theorem cov1 (n : Nat) (r : Nat → Nat → Bool) (x a : Int) : covB n r [x] a = leqB n r a x := by simp [covB]
theorem cov2 (n : Nat) (r : Nat → Nat → Bool) (u v a : Int) : covB n r [u, v] a = (leqB n r a u || leqB n r a v) := by simp [covB]
theorem over_one {w : World} {g : Nat} {x : Int} {t : TypeId} (h : w.heap[g]? = some (.cells #[.int .i64 x] t)) : OverAt w (.slice (some ⟨g, 0, none⟩) 1 1) [x] := by
  refine ⟨_, _, rfl, show 1 ≤ maxLen by decide, fun i z hz => ?_⟩
  match i, hz with
  | 0, hz => cases hz; exact ⟨_, _, rfl, cell_of_row _ _ _ _ _ _ h⟩
  | i + 1, hz => simp at hz
theorem over_two {w : World} {g : Nat} {x y : Int} {t : TypeId} (h : w.heap[g]? = some (.cells #[.int .i64 x, .int .i64 y] t)) : OverAt w (.slice (some ⟨g, 0, none⟩) 2 2) [x, y] := by
  refine ⟨_, _, rfl, show 2 ≤ maxLen by decide, fun i z hz => ?_⟩
  match i, hz with
  | 0, hz => cases hz; exact ⟨_, _, rfl, cell_of_row _ _ _ _ _ _ h⟩
  | 1, hz => cases hz; exact ⟨_, _, rfl, cell_of_row _ _ _ _ _ _ h⟩
  | i + 2, hz => simp at hz
/-- four objects made one behind the other: the principals of the law -/
theorem psT_at (w : World) (x y u v : Int) (ti tp : TypeId) :
    Below w.heap.size w ((((w.alloc (.cells #[.int .i64 x] ti)).alloc (.cells #[.int .i64 y] ti)).alloc (.cells #[.int .i64 u, .int .i64 v] ti)).alloc (.cells #[.string cA, .slice (some ⟨w.heap.size, 0, none⟩) 1 1, .string cB, .slice (some ⟨w.heap.size + 1, 0, none⟩) 1 1, .string cC, .slice (some ⟨w.heap.size + 1 + 1, 0, none⟩) 2 2, .string cD, .slice none 0 0] tp)) ∧
    PrinsAt ((((w.alloc (.cells #[.int .i64 x] ti)).alloc (.cells #[.int .i64 y] ti)).alloc (.cells #[.int .i64 u, .int .i64 v] ti)).alloc (.cells #[.string cA, .slice (some ⟨w.heap.size, 0, none⟩) 1 1, .string cB, .slice (some ⟨w.heap.size + 1, 0, none⟩) 1 1, .string cC, .slice (some ⟨w.heap.size + 1 + 1, 0, none⟩) 2 2, .string cD, .slice none 0 0] tp)) (.slice (some ⟨w.heap.size + 1 + 1 + 1, 0, none⟩) 4 4) (psT x y u v) := by
  obtain ⟨hb, a0, a1, a2⟩ := three w (.cells #[.int .i64 x] ti) (.cells #[.int .i64 y] ti) (.cells #[.int .i64 u, .int .i64 v] ti)
  have hs : (((w.alloc (.cells #[.int .i64 x] ti)).alloc (.cells #[.int .i64 y] ti)).alloc (.cells #[.int .i64 u, .int .i64 v] ti)).heap.size = w.heap.size + 1 + 1 + 1 := by rw [al_size, al_size, al_size]
  generalize ((w.alloc (.cells #[.int .i64 x] ti)).alloc (.cells #[.int .i64 y] ti)).alloc (.cells #[.int .i64 u, .int .i64 v] ti) = w3 at hb a0 a1 a2 hs ⊢
  have hb3 := fun o => (Below.refl w3.heap.size w3).alloc (o := o) (Nat.le_refl _)
  have a3 := al_new w3 (.cells #[.string cA, .slice (some ⟨w.heap.size, 0, none⟩) 1 1, .string cB, .slice (some ⟨w.heap.size + 1, 0, none⟩) 1 1, .string cC, .slice (some ⟨w.heap.size + 1 + 1, 0, none⟩) 2 2, .string cD, .slice none 0 0] tp)
  rw [hs] at a3
  refine ⟨bt hb (hb3 _), _, _, rfl, Nat.le_refl _, fun i z hz => ?_⟩
  match i, hz with
  | 0, hz => cases hz; exact ⟨_, _, _, rfl, cell_of_row _ _ _ _ _ _ a3, cell_of_row _ _ _ _ _ _ a3, (over_one a0).go (hb3 _), show cA.size ≤ maxLen by decide⟩
  | 1, hz => cases hz; exact ⟨_, _, _, rfl, cell_of_row _ _ _ _ _ _ a3, cell_of_row _ _ _ _ _ _ a3, (over_one a1).go (hb3 _), show cB.size ≤ maxLen by decide⟩
  | 2, hz => cases hz; exact ⟨_, _, _, rfl, cell_of_row _ _ _ _ _ _ a3, cell_of_row _ _ _ _ _ _ a3, (over_two a2).go (hb3 _), show cC.size ≤ maxLen by decide⟩
  | 3, hz => cases hz; exact ⟨_, _, _, rfl, cell_of_row _ _ _ _ _ _ a3, cell_of_row _ _ _ _ _ _ a3, ⟨_, _, rfl, by decide, fun i z hz => by simp at hz⟩, by decide⟩
  | i + 4, hz => simp [psT] at hz
theorem len_psT (x y u v : Int) : (psT x y u v).length ≤ maxLen := by show 4 ≤ maxLen; decide
set_option maxHeartbeats 4000000 in
set_option maxRecDepth 100000 in
theorem together_any (n : Int) (x y : Int) (w : World) :
    Calls Try.prog 6 #[.int .i64 n, .agg #[.int .i64 x, .int .i64 y]] w fun e w' => e = .returned (.bool true) ∧ Below w.heap.size w w' := by
  go_enter Try.func6, Try.ntmps6
  go_wp2_with fail
  have hb0 : Below w.heap.size w (w.alloc (Obj.cells #[Value.int .i64 x, Value.int .i64 y] 52)) := (Below.refl _ _).alloc (Nat.le_refl _) _
  have f0 := al_new w (Obj.cells #[Value.int .i64 x, Value.int .i64 y] 52)
  generalize w.alloc (Obj.cells #[Value.int .i64 x, Value.int .i64 y] 52) = w0 at hb0 f0
  refine (sort_any n _).mono ?_
  generalize (n % 6).toNat = kk
  rintro e w1 ⟨hb1, vn, vb, rfl, hn, hpp⟩
  have HN := Lib.hid hn
  have HPP := Lib.hid hpp
  clear hn hpp
  go_wp2_with fail
  refine (new_sort kk vn vb _ _ HN.out HPP.out).mono ?_
  rintro e w2 ⟨hb2, g, rfl, hg, hL⟩
  have F2 := bkeep hb2 (bkeep hb1 f0)
  have x0 := cell_of_row w2 w.heap.size 0 _ _ _ F2
  have x1 := cell_of_row w2 w.heap.size 1 _ _ _ F2
  have k2 := bt (bt hb0 hb1) hb2
  have HL2 := Lib.hid hL
  have HF := Lib.hid F2
  clear hb1 hb2 HN HPP hL hg F2 hb0 f0
  have n8 := sz_le kk
  have h0 : w.heap.size < w2.heap.size := lt_of_some HF.out
  cases q0 : inI x (sz kk)
  · go_wp2_with (go_at_call 20; refine (is_any _ _ _ _ _ _ _ _ _ _ HL2.out).mono ?_; rintro e w' ⟨rfl, rfl⟩)
    refine (alives_any _).mono ?_
    rintro e w3 ⟨rfl, hb3⟩
    go_wp2
    go_ret
    exact ⟨rfl, bt k2 hb3⟩
  · cases q1 : inI y (sz kk)
    · go_wp2_with (go_at_call 20; refine (is_any _ _ _ _ _ _ _ _ _ _ HL2.out).mono ?_; rintro e w' ⟨rfl, rfl⟩)
      refine (alives_any _).mono ?_
      rintro e w3 ⟨rfl, hb3⟩
      go_wp2
      go_ret
      exact ⟨rfl, bt k2 hb3⟩
    · rcases Int.lt_trichotomy x y with h | h | h
      · go_wp2_with (go_at_call 20; refine (is_any _ _ _ _ _ _ _ _ _ _ HL2.out).mono ?_; rintro e w' ⟨rfl, rfl⟩)
        obtain ⟨hb3, hp3⟩ := psT_at w2 x y x y 3 36
        unfold cA cB cC cD at hb3 hp3
        generalize (((w2.alloc (Obj.cells #[Value.int .i64 x] 3)).alloc (Obj.cells #[Value.int .i64 y] 3)).alloc (Obj.cells #[Value.int .i64 x, Value.int .i64 y] 3)).alloc (Obj.cells #[Value.string ⟨#[97]⟩, Value.slice (some ⟨w2.heap.size, 0, none⟩) 1 1, Value.string ⟨#[98]⟩, Value.slice (some ⟨w2.heap.size + 1, 0, none⟩) 1 1, Value.string ⟨#[99]⟩, Value.slice (some ⟨w2.heap.size + 1 + 1, 0, none⟩) 2 2, Value.string ⟨#[100]⟩, Value.slice none 0 0] 36) = w3 at hb3 hp3 ⊢
        have k3 := bt k2 hb3
        have HP3 := Lib.hid hp3
        have HL3 := Lib.hid (HL2.out.go hb3)
        have y0 := cellB hb3 x0
        generalize w2.heap.size + 1 + 1 + 1 = gp at HP3 ⊢
        clear hp3 x0 x1
        go_loopw [8, 9, 10] (fun i _ _ wr => ∃ c : Nat, c ≤ sz kk ∧ i = .int .i64 c ∧ Below w3.heap.size w3 wr) (fun i _ _ _ => sz kk - (intOf i).toNat)
        case atStart => exact ⟨0, by omega, rfl, Below.refl _ _⟩
        case round =>
          obtain ⟨c, hc, rfl, kb⟩ := hrel
          have HL4 := Lib.hid (HL3.out.go kb)
          have HP4 := Lib.hid (HP3.out.go kb)
          by_cases hlt : c < sz kk
          · go_wp2_with (go_at_call 18; refine (size_any _ _ _ _ _ _ _ _ _ HL4.out).mono ?_; rintro e w' ⟨rfl, rfl⟩)
            refine (over_any _ (psT x y x y) cA c _ HL4.out n8 HP4.out (len_psT _ _ _ _)).mono ?_
            rw [oA, cov1]
            rintro e w5 ⟨rfl, hb5⟩
            go_wp2_with fail
            refine (over_any _ (psT x y x y) cB c _ (HL4.out.go hb5) n8 (HP4.out.go hb5) (len_psT _ _ _ _)).mono ?_
            rw [oB, cov1]
            rintro e w6 ⟨rfl, hb6⟩
            have hb6' := bt hb5 hb6
            go_wp2_with fail
            refine (over_any _ (psT x y x y) cC c _ (HL4.out.go hb6') n8 (HP4.out.go hb6') (len_psT _ _ _ _)).mono ?_
            rw [oC, cov2]
            rintro e w7 ⟨rfl, hb7⟩
            have k7 := bt (bt kb hb6') hb7
            have y7 := cellB k7 y0
            have HL7 := Lib.hid (HL3.out.go k7)
            have HP7 := Lib.hid (HP3.out.go k7)
            clear hb5 hb6 hb6' hb7
            cases qu : leqB (sz kk) (sr kk) (c : Int) x <;> cases qv : leqB (sz kk) (sr kk) (c : Int) y
            all_goals
              try rw [show (leqB (sz kk) (sr kk) (c : Int) x || leqB (sz kk) (sr kk) (c : Int) y) = _ from by rw [qu, qv]]
              go_wp2_with (go_at_call 19; refine (leq_any _ _ _ _ _ _ _ _ _ _ _ HL7.out n8).mono ?_; rintro e w' ⟨rfl, rfl⟩)
              refine (over_any _ (psT x y x y) cD c _ HL7.out n8 HP7.out (len_psT _ _ _ _)).mono ?_
              rw [oD, show covB (sz kk) (sr kk) [] (c : Int) = false from rfl]
              rintro e w8 ⟨rfl, hb8⟩
              go_wp2
              go_roundw
              case rel => exact ⟨c + 1, by omega, by go_num, bt k7 hb8⟩
              case measure => simp [intOf]; omega
          · obtain rfl : c = sz kk := by omega
            go_wp2_with (go_at_call 18; refine (size_any _ _ _ _ _ _ _ _ _ HL4.out).mono ?_; rintro e w' ⟨rfl, rfl⟩)
            refine (reach_any _ (psT x y x y) cD _ HL4.out n8 HP4.out (len_psT _ _ _ _)).mono ?_
            rw [oD, reachL_nil]
            rintro e w5 ⟨hb5, rv, rfl, hrv⟩
            obtain ⟨ra, rc, rfl⟩ : ∃ ra rc, rv = .slice ra 0 rc := by
              rcases hrv with ⟨_, rfl⟩ | ⟨g5, cap5, rfl, _⟩
              · exact ⟨_, _, rfl⟩
              · exact ⟨_, _, rfl⟩
            go_wp2_with fail
            refine (alives_any _).mono ?_
            rintro e w6 ⟨rfl, hb6⟩
            go_wp2
            go_ret
            exact ⟨rfl, bt (bt (bt k3 kb) hb5) hb6⟩
      · obtain rfl := h
        go_wp2_with (go_at_call 20; refine (is_any _ _ _ _ _ _ _ _ _ _ HL2.out).mono ?_; rintro e w' ⟨rfl, rfl⟩)
        obtain ⟨hb3, hp3⟩ := psT_at w2 x x x x 3 36
        unfold cA cB cC cD at hb3 hp3
        generalize (((w2.alloc (Obj.cells #[Value.int .i64 x] 3)).alloc (Obj.cells #[Value.int .i64 x] 3)).alloc (Obj.cells #[Value.int .i64 x, Value.int .i64 x] 3)).alloc (Obj.cells #[Value.string ⟨#[97]⟩, Value.slice (some ⟨w2.heap.size, 0, none⟩) 1 1, Value.string ⟨#[98]⟩, Value.slice (some ⟨w2.heap.size + 1, 0, none⟩) 1 1, Value.string ⟨#[99]⟩, Value.slice (some ⟨w2.heap.size + 1 + 1, 0, none⟩) 2 2, Value.string ⟨#[100]⟩, Value.slice none 0 0] 36) = w3 at hb3 hp3 ⊢
        have k3 := bt k2 hb3
        have HP3 := Lib.hid hp3
        have HL3 := Lib.hid (HL2.out.go hb3)
        have y0 := cellB hb3 x0
        generalize w2.heap.size + 1 + 1 + 1 = gp at HP3 ⊢
        clear hp3 x0 x1
        go_loopw [8, 9, 10] (fun i _ _ wr => ∃ c : Nat, c ≤ sz kk ∧ i = .int .i64 c ∧ Below w3.heap.size w3 wr) (fun i _ _ _ => sz kk - (intOf i).toNat)
        case atStart => exact ⟨0, by omega, rfl, Below.refl _ _⟩
        case round =>
          obtain ⟨c, hc, rfl, kb⟩ := hrel
          have HL4 := Lib.hid (HL3.out.go kb)
          have HP4 := Lib.hid (HP3.out.go kb)
          by_cases hlt : c < sz kk
          · go_wp2_with (go_at_call 18; refine (size_any _ _ _ _ _ _ _ _ _ HL4.out).mono ?_; rintro e w' ⟨rfl, rfl⟩)
            refine (over_any _ (psT x x x x) cA c _ HL4.out n8 HP4.out (len_psT _ _ _ _)).mono ?_
            rw [oA, cov1]
            rintro e w5 ⟨rfl, hb5⟩
            go_wp2_with fail
            refine (over_any _ (psT x x x x) cB c _ (HL4.out.go hb5) n8 (HP4.out.go hb5) (len_psT _ _ _ _)).mono ?_
            rw [oB, cov1]
            rintro e w6 ⟨rfl, hb6⟩
            have hb6' := bt hb5 hb6
            go_wp2_with fail
            refine (over_any _ (psT x x x x) cC c _ (HL4.out.go hb6') n8 (HP4.out.go hb6') (len_psT _ _ _ _)).mono ?_
            rw [oC, cov2]
            rintro e w7 ⟨rfl, hb7⟩
            have k7 := bt (bt kb hb6') hb7
            have y7 := cellB k7 y0
            have HL7 := Lib.hid (HL3.out.go k7)
            have HP7 := Lib.hid (HP3.out.go k7)
            clear hb5 hb6 hb6' hb7
            cases qu : leqB (sz kk) (sr kk) (c : Int) x <;> cases qv : leqB (sz kk) (sr kk) (c : Int) x
            all_goals
              try rw [show (leqB (sz kk) (sr kk) (c : Int) x || leqB (sz kk) (sr kk) (c : Int) x) = _ from by rw [qu, qv]]
              go_wp2_with (go_at_call 19; refine (leq_any _ _ _ _ _ _ _ _ _ _ _ HL7.out n8).mono ?_; rintro e w' ⟨rfl, rfl⟩)
              refine (over_any _ (psT x x x x) cD c _ HL7.out n8 HP7.out (len_psT _ _ _ _)).mono ?_
              rw [oD, show covB (sz kk) (sr kk) [] (c : Int) = false from rfl]
              rintro e w8 ⟨rfl, hb8⟩
              go_wp2
              go_roundw
              case rel => exact ⟨c + 1, by omega, by go_num, bt k7 hb8⟩
              case measure => simp [intOf]; omega
          · obtain rfl : c = sz kk := by omega
            go_wp2_with (go_at_call 18; refine (size_any _ _ _ _ _ _ _ _ _ HL4.out).mono ?_; rintro e w' ⟨rfl, rfl⟩)
            refine (reach_any _ (psT x x x x) cD _ HL4.out n8 HP4.out (len_psT _ _ _ _)).mono ?_
            rw [oD, reachL_nil]
            rintro e w5 ⟨hb5, rv, rfl, hrv⟩
            obtain ⟨ra, rc, rfl⟩ : ∃ ra rc, rv = .slice ra 0 rc := by
              rcases hrv with ⟨_, rfl⟩ | ⟨g5, cap5, rfl, _⟩
              · exact ⟨_, _, rfl⟩
              · exact ⟨_, _, rfl⟩
            go_wp2_with fail
            refine (alives_any _).mono ?_
            rintro e w6 ⟨rfl, hb6⟩
            go_wp2
            go_ret
            exact ⟨rfl, bt (bt (bt k3 kb) hb5) hb6⟩
      · go_wp2_with (go_at_call 20; refine (is_any _ _ _ _ _ _ _ _ _ _ HL2.out).mono ?_; rintro e w' ⟨rfl, rfl⟩)
        obtain ⟨hb3, hp3⟩ := psT_at w2 x y y x 3 36
        unfold cA cB cC cD at hb3 hp3
        generalize (((w2.alloc (Obj.cells #[Value.int .i64 x] 3)).alloc (Obj.cells #[Value.int .i64 y] 3)).alloc (Obj.cells #[Value.int .i64 y, Value.int .i64 x] 3)).alloc (Obj.cells #[Value.string ⟨#[97]⟩, Value.slice (some ⟨w2.heap.size, 0, none⟩) 1 1, Value.string ⟨#[98]⟩, Value.slice (some ⟨w2.heap.size + 1, 0, none⟩) 1 1, Value.string ⟨#[99]⟩, Value.slice (some ⟨w2.heap.size + 1 + 1, 0, none⟩) 2 2, Value.string ⟨#[100]⟩, Value.slice none 0 0] 36) = w3 at hb3 hp3 ⊢
        have k3 := bt k2 hb3
        have HP3 := Lib.hid hp3
        have HL3 := Lib.hid (HL2.out.go hb3)
        have y0 := cellB hb3 x0
        generalize w2.heap.size + 1 + 1 + 1 = gp at HP3 ⊢
        clear hp3 x0 x1
        go_loopw [8, 9, 10] (fun i _ _ wr => ∃ c : Nat, c ≤ sz kk ∧ i = .int .i64 c ∧ Below w3.heap.size w3 wr) (fun i _ _ _ => sz kk - (intOf i).toNat)
        case atStart => exact ⟨0, by omega, rfl, Below.refl _ _⟩
        case round =>
          obtain ⟨c, hc, rfl, kb⟩ := hrel
          have HL4 := Lib.hid (HL3.out.go kb)
          have HP4 := Lib.hid (HP3.out.go kb)
          by_cases hlt : c < sz kk
          · go_wp2_with (go_at_call 18; refine (size_any _ _ _ _ _ _ _ _ _ HL4.out).mono ?_; rintro e w' ⟨rfl, rfl⟩)
            refine (over_any _ (psT x y y x) cA c _ HL4.out n8 HP4.out (len_psT _ _ _ _)).mono ?_
            rw [oA, cov1]
            rintro e w5 ⟨rfl, hb5⟩
            go_wp2_with fail
            refine (over_any _ (psT x y y x) cB c _ (HL4.out.go hb5) n8 (HP4.out.go hb5) (len_psT _ _ _ _)).mono ?_
            rw [oB, cov1]
            rintro e w6 ⟨rfl, hb6⟩
            have hb6' := bt hb5 hb6
            go_wp2_with fail
            refine (over_any _ (psT x y y x) cC c _ (HL4.out.go hb6') n8 (HP4.out.go hb6') (len_psT _ _ _ _)).mono ?_
            rw [oC, cov2, Bool.or_comm]
            rintro e w7 ⟨rfl, hb7⟩
            have k7 := bt (bt kb hb6') hb7
            have y7 := cellB k7 y0
            have HL7 := Lib.hid (HL3.out.go k7)
            have HP7 := Lib.hid (HP3.out.go k7)
            clear hb5 hb6 hb6' hb7
            cases qu : leqB (sz kk) (sr kk) (c : Int) x <;> cases qv : leqB (sz kk) (sr kk) (c : Int) y
            all_goals
              try rw [show (leqB (sz kk) (sr kk) (c : Int) x || leqB (sz kk) (sr kk) (c : Int) y) = _ from by rw [qu, qv]]
              go_wp2_with (go_at_call 19; refine (leq_any _ _ _ _ _ _ _ _ _ _ _ HL7.out n8).mono ?_; rintro e w' ⟨rfl, rfl⟩)
              refine (over_any _ (psT x y y x) cD c _ HL7.out n8 HP7.out (len_psT _ _ _ _)).mono ?_
              rw [oD, show covB (sz kk) (sr kk) [] (c : Int) = false from rfl]
              rintro e w8 ⟨rfl, hb8⟩
              go_wp2
              go_roundw
              case rel => exact ⟨c + 1, by omega, by go_num, bt k7 hb8⟩
              case measure => simp [intOf]; omega
          · obtain rfl : c = sz kk := by omega
            go_wp2_with (go_at_call 18; refine (size_any _ _ _ _ _ _ _ _ _ HL4.out).mono ?_; rintro e w' ⟨rfl, rfl⟩)
            refine (reach_any _ (psT x y y x) cD _ HL4.out n8 HP4.out (len_psT _ _ _ _)).mono ?_
            rw [oD, reachL_nil]
            rintro e w5 ⟨hb5, rv, rfl, hrv⟩
            obtain ⟨ra, rc, rfl⟩ : ∃ ra rc, rv = .slice ra 0 rc := by
              rcases hrv with ⟨_, rfl⟩ | ⟨g5, cap5, rfl, _⟩
              · exact ⟨_, _, rfl⟩
              · exact ⟨_, _, rfl⟩
            go_wp2_with fail
            refine (alives_any _).mono ?_
            rintro e w6 ⟨rfl, hb6⟩
            go_wp2
            go_ret
            exact ⟨rfl, bt (bt (bt k3 kb) hb5) hb6⟩
end Lv
end Go.Proofs.Ytmfdclnepmgmlaa
