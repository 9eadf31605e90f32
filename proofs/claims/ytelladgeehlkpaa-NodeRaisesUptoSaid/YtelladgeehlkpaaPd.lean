/- The plain mathematics of levels: names, as lists of bytes. No condition. -/
import Derived.WalkKit
import Derived.Test.YtelladgeehlkpaaRows
import Derived.WalkSpells
import Derived.Lib.Hide
import Derived.WalkLawsBesides
import Derived.Deep.MidRow
import Derived.ChangeKeysEq
import Derived.Laws.CopyOwn
import Derived.Deep.WholeRow
import Derived.RegionTactic
import Derived.BigRegion
namespace Go.Proofs.Ytelladgeehlkpaa
namespace Lv

def ltrI (n : Int) : Bool := decide (97 ≤ n) && decide (n ≤ 122)
def digI (n : Int) : Bool := decide (48 ≤ n) && decide (n ≤ 57)
def okI (n : Int) : Bool := ltrI n || digI n
def inI (a n : Int) : Bool := decide (0 ≤ a) && decide (a < n)
def okU (c : UInt8) : Bool := okI (c.toNat : Int)
def NameP (s : ByteArray) : Prop := 1 ≤ s.size ∧ s.size ≤ 16 ∧ (∀ h : 0 < s.size, ltrI (s[0].toNat : Int) = true) ∧ ∀ k (h : k < s.size), okI (s[k].toNat : Int) = true
open Classical in
noncomputable def nameB (s : ByteArray) : Bool := decide (NameP s)
theorem nameB_true {s : ByteArray} (h : NameP s) : nameB s = true := by unfold nameB; simp [h]
theorem nameB_false {s : ByteArray} (h : ¬ NameP s) : nameB s = false := by unfold nameB; simp [h]
theorem nameB_iff {s : ByteArray} : nameB s = true ↔ NameP s := by unfold nameB; simp

theorem ok_snoc {s : ByteArray} {k : Nat} (H : ∀ j (h : j < s.size), j < k → okI (s[j].toNat : Int) = true) (h0 : ∀ h : k < s.size, okI (s[k].toNat : Int) = true) :
    ∀ j (h : j < s.size), j < k + 1 → okI (s[j].toNat : Int) = true := by
  intro j h hj
  by_cases hjk : j < k
  · exact H j h hjk
  · obtain rfl : j = k := by omega
    exact h0 h
theorem ok_one {s : ByteArray} (h0 : ∀ h : 0 < s.size, okI (s[0].toNat : Int) = true) :
    ∀ j (h : j < s.size), j < 1 → okI (s[j].toNat : Int) = true := by
  intro j h hj
  obtain rfl : j = 0 := by omega
  exact h0 h
end Lv
end Go.Proofs.Ytelladgeehlkpaa
namespace Go.Proofs.Ytelladgeehlkpaa
open Go.RowKit

namespace Lv
theorem ret_bool {a b : Bool} (h : a = b) : Ending.returned (.bool a) = .returned (.bool b) := by rw [h]
set_option maxHeartbeats 400000 in
theorem letter_any (n : Int) (w : World) :
    Calls Try.prog 74 #[.int .u8 n] w fun e w' => e = .returned (.bool (ltrI n)) ∧ w = w' := by
  go_enter Try.func74, Try.ntmps74
  go_wp2
  all_goals
    go_ret
    exact ⟨ret_bool (by unfold ltrI; simp; omega), rfl⟩
set_option maxHeartbeats 400000 in
theorem digit_any (n : Int) (w : World) :
    Calls Try.prog 75 #[.int .u8 n] w fun e w' => e = .returned (.bool (digI n)) ∧ w = w' := by
  go_enter Try.func75, Try.ntmps75
  go_wp2
  all_goals
    go_ret
    exact ⟨ret_bool (by unfold digI; simp; omega), rfl⟩
set_option maxHeartbeats 400000 in
theorem within_any (a n : Int) (w : World) :
    Calls Try.prog 59 #[.int .i64 a, .int .i64 n] w fun e w' => e = .returned (.bool (inI a n)) ∧ w = w' := by
  go_enter Try.func59, Try.ntmps59
  go_wp2
  all_goals
    go_ret
    exact ⟨ret_bool (by unfold inI; simp; omega), rfl⟩
set_option maxHeartbeats 400000 in
theorem name_any (s : ByteArray) (w : World) (hs : s.size ≤ maxLen) :
    Calls Try.prog 61 #[.string s] w fun e w' => e = .returned (.bool (nameB s)) ∧ w = w' := by
  unfold maxLen at hs
  by_cases h1 : s.size < 1
  · have d1 : decide ((s.size : Int) < 1) = true := by simp; omega
    go_enter Try.func61, Try.ntmps61
    go_wp2
    go_ret
    exact ⟨ret_bool (nameB_false fun h => by have := h.1; omega).symm, rfl⟩
  · have d1 : decide ((s.size : Int) < 1) = false := by simp; omega
    by_cases h2 : 16 < s.size
    · have d2 : decide ((16 : Int) < (s.size : Int)) = true := by simp; omega
      go_enter Try.func61, Try.ntmps61
      go_wp2
      go_ret
      exact ⟨ret_bool (nameB_false fun h => by have := h.2.1; omega).symm, rfl⟩
    · have d2 : decide ((16 : Int) < (s.size : Int)) = false := by simp; omega
      have h0 : 0 < s.size := by omega
      cases hl : ltrI (s[0].toNat : Int)
      · go_enter Try.func61, Try.ntmps61
        go_wp2_with (go_at_call 74; refine (letter_any _ _).mono ?_; rintro e w' ⟨rfl, rfl⟩)
        go_ret
        exact ⟨ret_bool (nameB_false fun h => by have := h.2.2.1 h0; rw [hl] at this; cases this).symm, rfl⟩
      · go_enter Try.func61, Try.ntmps61
        go_wp2_with (go_at_call 74; refine (letter_any _ _).mono ?_; rintro e w' ⟨rfl, rfl⟩)
        go_loop [3] (fun i => ∃ k : Nat, 1 ≤ k ∧ k ≤ s.size ∧ i = .int .i64 k ∧ ∀ j (h : j < s.size), j < k → okI (s[j].toNat : Int) = true) (fun i => s.size - (intOf i).toNat)
        case atStart => exact ⟨1, by omega, by omega, rfl, ok_one fun _ => by simp [okI, hl]⟩
        case round =>
          obtain ⟨k, hk1, hk, rfl, hall⟩ := hrel
          have H := Lib.hid hall
          clear hall
          by_cases hlt : k < s.size
          · cases hd : ltrI (s[k].toNat : Int)
            · cases he : digI (s[k].toNat : Int)
              · go_wp2_with (first | (go_at_call 74; refine (letter_any _ _).mono ?_; rintro e w' ⟨rfl, rfl⟩) | (go_at_call 75; refine (digit_any _ _).mono ?_; rintro e w' ⟨rfl, rfl⟩))
                go_ret
                exact ⟨ret_bool (nameB_false fun h => by have := h.2.2.2 k hlt; rw [okI, hd, he] at this; cases this).symm, rfl⟩
              · go_wp2_with (first | (go_at_call 74; refine (letter_any _ _).mono ?_; rintro e w' ⟨rfl, rfl⟩) | (go_at_call 75; refine (digit_any _ _).mono ?_; rintro e w' ⟨rfl, rfl⟩))
                go_round
                case rel => exact ⟨k + 1, by omega, by omega, by go_num, ok_snoc H.out fun _ => by simp [okI, he]⟩
                case measure => simp [intOf]; omega
            · go_wp2_with (first | (go_at_call 74; refine (letter_any _ _).mono ?_; rintro e w' ⟨rfl, rfl⟩) | (go_at_call 75; refine (digit_any _ _).mono ?_; rintro e w' ⟨rfl, rfl⟩))
              go_round
              case rel => exact ⟨k + 1, by omega, by omega, by go_num, ok_snoc H.out fun _ => by simp [okI, hd]⟩
              case measure => simp [intOf]; omega
          · go_wp2
            go_ret
            exact ⟨ret_bool (nameB_true ⟨by omega, by omega, fun _ => hl, fun j h => H.out j h (by omega)⟩).symm, rfl⟩
end Lv
end Go.Proofs.Ytelladgeehlkpaa
namespace Go.Proofs.Ytelladgeehlkpaa
namespace Lv
/-- a table of 8 by 8 bools, as its 64 cells -/
def relA (r : Nat → Nat → Bool) : Array Value := (Array.range 64).map fun i => .bool (r (i / 8) (i % 8))
theorem relA_size (r : Nat → Nat → Bool) : (relA r).size = 64 := by simp [relA]
theorem relA_at (r : Nat → Nat → Bool) (a b : Nat) (ha : a < 8) (hb : b < 8) : (relA r)[a * 8 + b]? = some (.bool (r a b)) := by
  have h1 : (a * 8 + b) / 8 = a := by omega
  have h2 : (a * 8 + b) % 8 = b := by omega
  have h3 : a * 8 + b < 64 := by omega
  simp only [relA, Array.getElem?_map, Array.getElem?_range, if_pos h3, Option.map_some, h1, h2]
/-- is c below each level that is above both a and b? -/
def bbB (r : Nat → Nat → Bool) (n a b c : Nat) : Bool := (List.range n).all fun d => !(r a d && r b d) || r c d
theorem bbB_false {r : Nat → Nat → Bool} {n a b c k : Nat} (h : k < n) (h1 : r a k = true) (h2 : r b k = true) (h3 : r c k = false) : bbB r n a b c = false := by
  unfold bbB
  rw [List.all_eq_false]
  exact ⟨k, by simpa using h, by simp [h1, h2, h3]⟩
theorem bbB_true {r : Nat → Nat → Bool} {n a b c : Nat} (h : ∀ d, d < n → r a d = true → r b d = true → r c d = true) : bbB r n a b c = true := by
  unfold bbB
  rw [List.all_eq_true]
  intro d hd
  have := h d (by simpa using hd)
  cases h1 : r a d <;> cases h2 : r b d <;> simp_all
theorem relA_congr {r s : Nat → Nat → Bool} (h : ∀ a b, a < 8 → b < 8 → r a b = s a b) : relA r = relA s := by
  unfold relA
  apply Array.ext
  · simp
  · intro i h1 h2
    simp at h1
    simp only [Array.getElem_map, Array.getElem_range]
    rw [h (i / 8) (i % 8) (by omega) (by omega)]
theorem relA_inj {r s : Nat → Nat → Bool} (h : relA r = relA s) (a b : Nat) (ha : a < 8) (hb : b < 8) : r a b = s a b := by
  have h1 := relA_at r a b ha hb
  have h2 := relA_at s a b ha hb
  rw [h, h2] at h1
  simpa using h1.symm
/-- a table of 8 by 8 numbers, as its 64 cells -/
def chA (j : Nat → Nat → Nat) : Array Value := (Array.range 64).map fun i => .int .i64 (j (i / 8) (i % 8) : Nat)
theorem chA_size (r : Nat → Nat → Nat) : (chA r).size = 64 := by simp [chA]
theorem chA_at (r : Nat → Nat → Nat) (a b : Nat) (ha : a < 8) (hb : b < 8) : (chA r)[a * 8 + b]? = some (.int .i64 (r a b : Nat)) := by
  have h1 : (a * 8 + b) / 8 = a := by omega
  have h2 : (a * 8 + b) % 8 = b := by omega
  have h3 : a * 8 + b < 64 := by omega
  simp only [chA, Array.getElem?_map, Array.getElem?_range, if_pos h3, Option.map_some, h1, h2]
theorem chA_congr {r s : Nat → Nat → Nat} (h : ∀ a b, a < 8 → b < 8 → r a b = s a b) : chA r = chA s := by
  unfold chA
  apply Array.ext
  · simp
  · intro i h1 h2
    simp at h1
    simp only [Array.getElem_map, Array.getElem_range]
    rw [h (i / 8) (i % 8) (by omega) (by omega)]
theorem chA_one (r : Nat → Nat → Nat) : (chA r).all (·.oneCell') = true := by
  rw [Array.all_eq_true]
  intro i h
  simp [chA, Value.oneCell']
def upd {α : Type} (s : Nat → Nat → α) (a b : Nat) (v : α) : Nat → Nat → α := fun x y => if x = a ∧ y = b then v else s x y
theorem upd_same {α : Type} (s : Nat → Nat → α) (a b : Nat) (v : α) : upd s a b v a b = v := by simp [upd]
theorem upd_other {α : Type} (s : Nat → Nat → α) (a b x y : Nat) (v : α) (h : ¬ (x = a ∧ y = b)) : upd s a b v x y = s x y := by simp [upd, h]
theorem relA_set (s : Nat → Nat → Bool) (a b : Nat) (v : Bool) (hb : b < 8) : (relA s).setIfInBounds (a * 8 + b) (.bool v) = relA (upd s a b v) := by
  apply Array.ext
  · simp [relA_size]
  · intro i h1 h2
    simp only [Array.size_setIfInBounds, relA_size] at h1
    rw [Array.getElem_setIfInBounds (by simpa [relA_size] using h1)]
    simp only [relA, Array.getElem_map, Array.getElem_range, upd]
    by_cases h : a * 8 + b = i
    · rw [if_pos h, if_pos ⟨by omega, by omega⟩]
    · rw [if_neg h, if_neg (fun hh => h (by omega))]
theorem relA_one (r : Nat → Nat → Bool) : (relA r).all (·.oneCell') = true := by
  rw [Array.all_eq_true]
  intro i h
  simp [relA, Value.oneCell']
theorem chA_set (s : Nat → Nat → Nat) (a b : Nat) (v : Nat) (hb : b < 8) : (chA s).setIfInBounds (a * 8 + b) (.int .i64 (v : Nat)) = chA (upd s a b v) := by
  apply Array.ext
  · simp [chA_size]
  · intro i h1 h2
    simp only [Array.size_setIfInBounds, chA_size] at h1
    rw [Array.getElem_setIfInBounds (by simpa [chA_size] using h1)]
    simp only [chA, Array.getElem_map, Array.getElem_range, upd]
    by_cases h : a * 8 + b = i
    · rw [if_pos h, if_pos ⟨by omega, by omega⟩]
    · rw [if_neg h, if_neg (fun hh => h (by omega))]
def dbl (r : Nat → Nat → Bool) : Nat → Nat → Bool := fun a c => (List.range 8).any fun b => r a b && r b c
theorem dbl_iff {r : Nat → Nat → Bool} {a c : Nat} : dbl r a c = true ↔ ∃ b, b < 8 ∧ r a b = true ∧ r b c = true := by
  simp [dbl]
/-- which threes come ahead of (a, b, c) -/
def ahead (a b c x m y : Nat) : Prop := x < a ∨ x = a ∧ (m < b ∨ m = b ∧ y < c)
/-- what stands in the table that doubled fills, when it has gone through all ahead of (a, b, c) -/
structure DblTo (r s : Nat → Nat → Bool) (a b c : Nat) : Prop where
  is : ∀ x y, x < 8 → y < 8 → s x y = true → dbl r x y = true
  has : ∀ x m y, x < 8 → m < 8 → y < 8 → ahead a b c x m y → r x m = true → r m y = true → s x y = true
theorem DblTo.start (r : Nat → Nat → Bool) : DblTo r (fun _ _ => false) 0 0 0 := ⟨fun _ _ _ _ h => by simp at h, fun x m y _ _ _ h => by unfold ahead at h; omega⟩
theorem DblTo.next {r s : Nat → Nat → Bool} {a b c : Nat} (h : DblTo r s a b c) (hn : ¬ (r a b = true ∧ r b c = true)) : DblTo r s a b (c + 1) :=
  ⟨h.is, fun x m y hx hm hy ha h1 h2 => by
    by_cases e : x = a ∧ m = b ∧ y = c
    · obtain ⟨rfl, rfl, rfl⟩ := e
      exact absurd ⟨h1, h2⟩ hn
    · exact h.has x m y hx hm hy (by unfold ahead at ha ⊢; omega) h1 h2⟩
theorem DblTo.put {r s : Nat → Nat → Bool} {a b c : Nat} (h : DblTo r s a b c) (hb : b < 8) (h1 : r a b = true) (h2 : r b c = true) : DblTo r (upd s a c true) a b (c + 1) :=
  ⟨fun x y hx hy h3 => by
    by_cases e : x = a ∧ y = c
    · obtain ⟨rfl, rfl⟩ := e
      exact dbl_iff.2 ⟨b, hb, h1, h2⟩
    · rw [upd_other _ _ _ _ _ _ e] at h3
      exact h.is x y hx hy h3, fun x m y hx hm hy ha h3 h4 => by
    by_cases e : x = a ∧ y = c
    · obtain ⟨rfl, rfl⟩ := e
      exact upd_same _ _ _ _
    · rw [upd_other _ _ _ _ _ _ e]
      exact h.has x m y hx hm hy (by unfold ahead at ha ⊢; omega) h3 h4⟩
theorem DblTo.in3 {r s : Nat → Nat → Bool} {a b : Nat} (h : DblTo r s a b 8) : DblTo r s a (b + 1) 0 :=
  ⟨h.is, fun x m y hx hm hy ha => h.has x m y hx hm hy (by unfold ahead at ha ⊢; omega)⟩
theorem DblTo.in2 {r s : Nat → Nat → Bool} {a : Nat} (h : DblTo r s a 8 0) : DblTo r s (a + 1) 0 0 :=
  ⟨h.is, fun x m y hx hm hy ha => h.has x m y hx hm hy (by unfold ahead at ha ⊢; omega)⟩
theorem DblTo.fin {r s : Nat → Nat → Bool} (h : DblTo r s 8 0 0) : relA s = relA (dbl r) := by
  apply relA_congr
  intro a c ha hc
  rw [Bool.eq_iff_iff]
  constructor
  · exact h.is a c ha hc
  · intro hd
    obtain ⟨b, hb, h1, h2⟩ := dbl_iff.1 hd
    exact h.has a b c ha hb hc (by unfold ahead; omega) h1 h2
end Lv
end Go.Proofs.Ytelladgeehlkpaa
namespace Go.Proofs.Ytelladgeehlkpaa
open Go.RowKit
namespace Lv
set_option maxHeartbeats 400000 in
theorem below_any (r : Nat → Nat → Bool) (n a b c : Nat) (w : World) (hn : n ≤ 8) (ha : a < 8) (hb : b < 8) (hc : c < 8) :
    Calls Try.prog 76 #[.agg (relA r), .int .i64 n, .int .i64 a, .int .i64 b, .int .i64 c] w fun e w' => e = .returned (.bool (bbB r n a b c)) ∧ Below w.heap.size w w' := by
  go_enter Try.func76, Try.ntmps76
  go_wp2
  go_loop [11, 13] (fun _ i => ∃ k : Nat, k ≤ n ∧ i = .int .i64 k ∧ ∀ d, d < k → r a d = true → r b d = true → r c d = true) (fun _ i => n - (intOf i).toNat)
  case atStart => exact ⟨0, by omega, rfl, fun d h => by omega⟩
  case round =>
    obtain ⟨k, hk, rfl, hall⟩ := hrel
    have H := Lib.hid hall
    clear hall
    by_cases hlt : k < n
    · have e1 := relA_at r a k ha (by omega)
      have e2 := relA_at r b k hb (by omega)
      have e3 := relA_at r c k hc (by omega)
      have step : (r a k = true → r b k = true → r c k = true) → ∀ d, d < k + 1 → r a d = true → r b d = true → r c d = true := fun h d hd => if hdk : d < k then H.out d hdk else by
        obtain rfl : d = k := by omega
        exact h
      have S := Lib.hid step
      clear step
      cases h1 : r a k
      · rw [h1] at e1
        go_wp2
        go_round
        case rel => exact ⟨k + 1, by omega, by go_num, S.out (by simp [h1])⟩
        case measure => simp [intOf]; omega
      · cases h2 : r b k
        · rw [h1] at e1
          rw [h2] at e2
          go_wp2
          go_round
          case rel => exact ⟨k + 1, by omega, by go_num, S.out (by simp [h2])⟩
          case measure => simp [intOf]; omega
        · cases h3 : r c k
          · rw [h1] at e1
            rw [h2] at e2
            rw [h3] at e3
            go_wp2
            go_ret
            exact ⟨ret_bool (bbB_false hlt h1 h2 h3).symm, (Below.refl _ _).alloc (Nat.le_refl _) _⟩
          · rw [h1] at e1
            rw [h2] at e2
            rw [h3] at e3
            go_wp2
            go_round
            case rel => exact ⟨k + 1, by omega, by go_num, S.out (by simp [h3])⟩
            case measure => simp [intOf]; omega
    · go_wp2
      go_ret
      exact ⟨ret_bool (bbB_true fun d hd => H.out d (by omega)).symm, (Below.refl _ _).alloc (Nat.le_refl _) _⟩
end Lv
end Go.Proofs.Ytelladgeehlkpaa
namespace Go.Proofs.Ytelladgeehlkpaa
open Go.RowKit
namespace Lv
theorem bt {a b c : World} (h : Below a.heap.size a b) (k : Below b.heap.size b c) : Below a.heap.size a c := h.trans (k.mono h.size)
theorem lt_of_some {w : World} {g : Nat} {o : Obj} (h : w.heap[g]? = some o) : g < w.heap.size := (Array.getElem?_eq_some_iff.1 h).1
theorem bkeep {w w1 : World} {g : Nat} {o : Obj} (hb : Below w.heap.size w w1) (hg : w.heap[g]? = some o) : w1.heap[g]? = some o := (hb.block g (lt_of_some hg)).trans hg
theorem al_new (w : World) (o : Obj) : (w.alloc o).heap[w.heap.size]? = some o := by
  show (w.heap.push o)[w.heap.size]? = some o
  simp
theorem al_old (w : World) (o : Obj) (i : Nat) (h : i < w.heap.size) : (w.alloc o).heap[i]? = w.heap[i]? := by
  show (w.heap.push o)[i]? = w.heap[i]?
  rw [Array.getElem?_push, if_neg (Nat.ne_of_lt h)]
theorem al_size (w : World) (o : Obj) : (w.alloc o).heap.size = w.heap.size + 1 := by
  show (w.heap.push o).size = _
  simp
theorem infoR : (Try.prog.info? 81).map (·.size) = some 64 := by kernel_rfl
theorem loadR (w : World) (g : Nat) (r : Nat → Nat → Bool) (t : TypeId) (fr : Nat × Nat) (hg : w.heap[g]? = some (.cells (relA r) t fr)) :
    (Instr.loadAt 81 (.pointer (some ⟨g, 0, none⟩))).run Try.prog w = .ok (.agg (relA r)) w := by
  simp only [Instr.loadAt, Instr.sureAddr, Sem.run_bind, Sem.run_pure, Result.andThen_ok]
  exact run_loadVar_row w g t _ (relA r) fr _ hg Try.underlying81 rfl (by rw [relA_size]; exact infoR)
theorem wpList_loadR {ops : Array Oper} {rest : List Oper} {o : Oper} {a : Act} {w : World} {Q : Exit → Act → World → Prop} (hgd : Region.wanted o (yielded ops a.tmps) = true)
    (x : Operand) (ho : o.op = .load 81 x) (g : Nat) (hx : a.eval x = .pointer (some ⟨g, 0, none⟩)) (r : Nat → Nat → Bool) (t : TypeId) (fr : Nat × Nat)
    (hg : w.heap[g]? = some (.cells (relA r) t fr)) (h : wpList Try.prog ops Q rest (a.put o.dst (.agg (relA r))) w) : wpList Try.prog ops Q (o :: rest) a w :=
  wpList_step fun K hK => by
    rw [if_pos hgd]
    exact wp_load_row _ x ho g hx t (relA r) fr _ hg Try.underlying81 rfl (by rw [relA_size]; exact infoR) (hK _ _ h)
theorem wpList_storeR {ops : Array Oper} {rest : List Oper} {o : Oper} {a : Act} {w : World} {Q : Exit → Act → World → Prop} (hgd : Region.wanted o (yielded ops a.tmps) = true)
    (x y : Operand) (ho : o.op = .store 81 x y) (g : Nat) (r s : Nat → Nat → Bool) (hx : a.eval x = .pointer (some ⟨g, 0, none⟩)) (hy : a.eval y = .agg (relA s)) (t : TypeId)
    (hg : w.heap[g]? = some (.cells (relA r) t (0, 0))) (h : wpList Try.prog ops Q rest (a.put o.dst undef) (w.setRow g (relA s))) : wpList Try.prog ops Q (o :: rest) a w :=
  wpList_step fun K hK => by
    rw [if_pos hgd]
    exact wp_store_row _ x y ho g (relA s) hx hy t (relA r) hg (by rw [relA_size]; exact infoR) (by rw [relA_size, relA_size]) (relA_one s) (hK _ _ h)
theorem resultR {fn : Func} {p : Tmp} (h : fn.results = #[.cell p 81]) (tmps : Array Value) (w : World) (g : Nat) (t : TypeId) (r : Nat → Nat → Bool) (fr : Nat × Nat)
    (hp : tmps.getD p undef = .pointer (some ⟨g, 0, none⟩)) (hg : w.heap[g]? = some (.cells (relA r) t fr)) : (results fn tmps).run Try.prog w = .ok (.agg (relA r)) w :=
  results_cell_row h tmps w g t (relA r) fr _ hp hg Try.underlying81 rfl (by rw [relA_size]; exact infoR)
theorem putR {w : World} {g : Nat} {s : Nat → Nat → Bool} {t : TypeId} (a b : Nat) (v : Bool) (hb : b < 8) (hg : w.heap[g]? = some (.cells (relA s) t (0, 0))) :
    (w.setCell ⟨g, a * 8 + b, none⟩ (.bool v)).heap[g]? = some (.cells (relA (upd s a b v)) t (0, 0)) := by
  rw [heap_setCell_same w g (a * 8 + b) (relA s) t (.bool v) hg, relA_set s a b v hb]
theorem zeroR : #[Value.bool false, Value.bool false, Value.bool false, Value.bool false, Value.bool false, Value.bool false, Value.bool false, Value.bool false, Value.bool false, Value.bool false, Value.bool false, Value.bool false, Value.bool false, Value.bool false, Value.bool false, Value.bool false, Value.bool false, Value.bool false, Value.bool false, Value.bool false, Value.bool false, Value.bool false, Value.bool false, Value.bool false, Value.bool false, Value.bool false, Value.bool false, Value.bool false, Value.bool false, Value.bool false, Value.bool false, Value.bool false, Value.bool false, Value.bool false, Value.bool false, Value.bool false, Value.bool false, Value.bool false, Value.bool false, Value.bool false, Value.bool false, Value.bool false, Value.bool false, Value.bool false, Value.bool false, Value.bool false, Value.bool false, Value.bool false, Value.bool false, Value.bool false, Value.bool false, Value.bool false, Value.bool false, Value.bool false, Value.bool false, Value.bool false, Value.bool false, Value.bool false, Value.bool false, Value.bool false, Value.bool false, Value.bool false, Value.bool false, Value.bool false] = relA (fun _ _ => false) := by
  kernel_rfl
theorem infoC : (Try.prog.info? 83).map (·.size) = some 64 := by kernel_rfl
theorem wpList_loadC {ops : Array Oper} {rest : List Oper} {o : Oper} {a : Act} {w : World} {Q : Exit → Act → World → Prop} (hgd : Region.wanted o (yielded ops a.tmps) = true)
    (x : Operand) (ho : o.op = .load 83 x) (g : Nat) (hx : a.eval x = .pointer (some ⟨g, 0, none⟩)) (r : Nat → Nat → Nat) (t : TypeId) (fr : Nat × Nat)
    (hg : w.heap[g]? = some (.cells (chA r) t fr)) (h : wpList Try.prog ops Q rest (a.put o.dst (.agg (chA r))) w) : wpList Try.prog ops Q (o :: rest) a w :=
  wpList_step fun K hK => by
    rw [if_pos hgd]
    exact wp_load_row _ x ho g hx t (chA r) fr _ hg Try.underlying83 rfl (by rw [chA_size]; exact infoC) (hK _ _ h)
theorem wpList_storeC {ops : Array Oper} {rest : List Oper} {o : Oper} {a : Act} {w : World} {Q : Exit → Act → World → Prop} (hgd : Region.wanted o (yielded ops a.tmps) = true)
    (x y : Operand) (ho : o.op = .store 83 x y) (g : Nat) (r s : Nat → Nat → Nat) (hx : a.eval x = .pointer (some ⟨g, 0, none⟩)) (hy : a.eval y = .agg (chA s)) (t : TypeId)
    (hg : w.heap[g]? = some (.cells (chA r) t (0, 0))) (h : wpList Try.prog ops Q rest (a.put o.dst undef) (w.setRow g (chA s))) : wpList Try.prog ops Q (o :: rest) a w :=
  wpList_step fun K hK => by
    rw [if_pos hgd]
    exact wp_store_row _ x y ho g (chA s) hx hy t (chA r) hg (by rw [chA_size]; exact infoC) (by rw [chA_size, chA_size]) (chA_one s) (hK _ _ h)
theorem resultC2 {fn : Func} {p u : Tmp} (h : fn.results = #[.cell p 83, .tmp u]) (tmps : Array Value) (w : World) (g : Nat) (t : TypeId) (r : Nat → Nat → Nat) (fr : Nat × Nat) (v : Value)
    (hp : tmps.getD p undef = .pointer (some ⟨g, 0, none⟩)) (hu : tmps.getD u undef = v) (hg : w.heap[g]? = some (.cells (chA r) t fr)) : (results fn tmps).run Try.prog w = .ok (.tuple #[.agg (chA r), v]) w := by
  rw [results_cell_tmp h, hp, hu]
  have h1 : (asAddr (.pointer (some ⟨g, 0, none⟩))).run Try.prog w = .ok ⟨g, 0, none⟩ w := rfl
  rw [h1]
  simp only [Result.andThen_ok]
  rw [run_loadVar_row w g t _ (chA r) fr _ hg Try.underlying83 rfl (by rw [chA_size]; exact infoC)]
  rfl
theorem putC {w : World} {g : Nat} {s : Nat → Nat → Nat} {t : TypeId} (a b : Nat) (v : Nat) (hb : b < 8) (hg : w.heap[g]? = some (.cells (chA s) t (0, 0))) :
    (w.setCell ⟨g, a * 8 + b, none⟩ (.int .i64 (v : Nat))).heap[g]? = some (.cells (chA (upd s a b v)) t (0, 0)) := by
  rw [heap_setCell_same w g (a * 8 + b) (chA s) t _ hg, chA_set s a b v hb]
theorem zeroC : #[Value.int IntKind.i64 0, Value.int IntKind.i64 0, Value.int IntKind.i64 0, Value.int IntKind.i64 0, Value.int IntKind.i64 0, Value.int IntKind.i64 0, Value.int IntKind.i64 0, Value.int IntKind.i64 0, Value.int IntKind.i64 0, Value.int IntKind.i64 0, Value.int IntKind.i64 0, Value.int IntKind.i64 0, Value.int IntKind.i64 0, Value.int IntKind.i64 0, Value.int IntKind.i64 0, Value.int IntKind.i64 0, Value.int IntKind.i64 0, Value.int IntKind.i64 0, Value.int IntKind.i64 0, Value.int IntKind.i64 0, Value.int IntKind.i64 0, Value.int IntKind.i64 0, Value.int IntKind.i64 0, Value.int IntKind.i64 0, Value.int IntKind.i64 0, Value.int IntKind.i64 0, Value.int IntKind.i64 0, Value.int IntKind.i64 0, Value.int IntKind.i64 0, Value.int IntKind.i64 0, Value.int IntKind.i64 0, Value.int IntKind.i64 0, Value.int IntKind.i64 0, Value.int IntKind.i64 0, Value.int IntKind.i64 0, Value.int IntKind.i64 0, Value.int IntKind.i64 0, Value.int IntKind.i64 0, Value.int IntKind.i64 0, Value.int IntKind.i64 0, Value.int IntKind.i64 0, Value.int IntKind.i64 0, Value.int IntKind.i64 0, Value.int IntKind.i64 0, Value.int IntKind.i64 0, Value.int IntKind.i64 0, Value.int IntKind.i64 0, Value.int IntKind.i64 0, Value.int IntKind.i64 0, Value.int IntKind.i64 0, Value.int IntKind.i64 0, Value.int IntKind.i64 0, Value.int IntKind.i64 0, Value.int IntKind.i64 0, Value.int IntKind.i64 0, Value.int IntKind.i64 0, Value.int IntKind.i64 0, Value.int IntKind.i64 0, Value.int IntKind.i64 0, Value.int IntKind.i64 0, Value.int IntKind.i64 0, Value.int IntKind.i64 0, Value.int IntKind.i64 0, Value.int IntKind.i64 0] = chA (fun _ _ => 0) := by
  kernel_rfl
theorem wpList_storeRn {ops : Array Oper} {rest : List Oper} {o : Oper} {a : Act} {w : World} {Q : Exit → Act → World → Prop} (hgd : Region.wanted o (yielded ops a.tmps) = true)
    (x y : Operand) (ho : o.op = .store 81 x y) (r s : Nat → Nat → Bool) (hx : a.eval x = .pointer (some ⟨w.heap.size, 0, none⟩)) (hy : a.eval y = .agg (relA s)) (t : TypeId)
    (h : wpList Try.prog ops Q rest (a.put o.dst undef) (w.alloc (.cells (relA s) t))) : wpList Try.prog ops Q (o :: rest) a (w.alloc (.cells (relA r) t)) :=
  wpList_storeR hgd x y ho w.heap.size r s hx hy t (al_new _ _) (by rw [World.setRow_alloc_new]; exact h)
theorem wpList_storeCn {ops : Array Oper} {rest : List Oper} {o : Oper} {a : Act} {w : World} {Q : Exit → Act → World → Prop} (hgd : Region.wanted o (yielded ops a.tmps) = true)
    (x y : Operand) (ho : o.op = .store 83 x y) (r s : Nat → Nat → Nat) (hx : a.eval x = .pointer (some ⟨w.heap.size, 0, none⟩)) (hy : a.eval y = .agg (chA s)) (t : TypeId)
    (h : wpList Try.prog ops Q rest (a.put o.dst undef) (w.alloc (.cells (chA s) t))) : wpList Try.prog ops Q (o :: rest) a (w.alloc (.cells (chA r) t)) :=
  wpList_storeC hgd x y ho w.heap.size r s hx hy t (al_new _ _) (by rw [World.setRow_alloc_new]; exact h)
theorem run_alloc_any {P : Program} (w : World) (t : TypeId) (cs : Array Value) (hz : ∀ w, (zeroValue t).run P w = .ok (.agg cs) w) :
    (Instr.alloc t true (.tuple #[])).run P w = .ok (.pointer (some ⟨w.heap.size, 0, none⟩)) (w.alloc (.cells cs t)) := by
  simp [Instr.alloc, hz, newVar, newRow, newObj, Value.cells, Sem.run_bind]
  rfl
theorem wpList_allocR {ops : Array Oper} {rest : List Oper} {o : Oper} {a : Act} {w : World} {Q : Exit → Act → World → Prop} (hgd : Region.wanted o (yielded ops a.tmps) = true)
    (ho : o.op = .alloc 81) (h : wpList Try.prog ops Q rest (a.put o.dst (.pointer (some ⟨w.heap.size, 0, none⟩))) (w.alloc (.cells (relA fun _ _ => false) 81))) : wpList Try.prog ops Q (o :: rest) a w :=
  wpList_step fun K hK => by
    rw [if_pos hgd]
    unfold Oper.wp execOp
    simp only [ho, Sem.run_bind, run_alloc_any w _ _ (fun w => by rw [Try.zeroValue81, zeroR]), Result.andThen_ok]
    exact hK _ _ h
theorem wpList_allocC {ops : Array Oper} {rest : List Oper} {o : Oper} {a : Act} {w : World} {Q : Exit → Act → World → Prop} (hgd : Region.wanted o (yielded ops a.tmps) = true)
    (ho : o.op = .alloc 83) (h : wpList Try.prog ops Q rest (a.put o.dst (.pointer (some ⟨w.heap.size, 0, none⟩))) (w.alloc (.cells (chA fun _ _ => 0) 83))) : wpList Try.prog ops Q (o :: rest) a w :=
  wpList_step fun K hK => by
    rw [if_pos hgd]
    unfold Oper.wp execOp
    simp only [ho, Sem.run_bind, run_alloc_any w _ _ (fun w => by rw [Try.zeroValue83, zeroC]), Result.andThen_ok]
    exact hK _ _ h
end Lv
end Go.Proofs.Ytelladgeehlkpaa
namespace Go.Proofs.Ytelladgeehlkpaa
open Go.RowKit
namespace Lv
/-- three tables, made one behind the other: what came in, the result, what is being filled -/
structure Mem3 (w wr : World) (r s : Nat → Nat → Bool) : Prop where
  below : Below w.heap.size w wr
  b0 : wr.heap[w.heap.size]? = some (.cells (relA r) 81)
  b1 : ∃ z, wr.heap[w.heap.size + 1]? = some (.cells (relA z) 81)
  b2 : wr.heap[w.heap.size + 1 + 1]? = some (.cells (relA s) 81)
theorem Mem3.put {w wr : World} {r s : Nat → Nat → Bool} (h : Mem3 w wr r s) (a c : Nat) (v : Bool) (hc : c < 8) : Mem3 w (wr.setCell ⟨w.heap.size + 1 + 1, a * 8 + c, none⟩ (.bool v)) r (upd s a c v) :=
  ⟨h.below.setCell (by dsimp only; omega) _, (heap_setCell_other _ _ _ _ (by dsimp only; omega)).trans h.b0, h.b1.elim fun z hz => ⟨z, (heap_setCell_other _ _ _ _ (by dsimp only; omega)).trans hz⟩, putR a c v hc h.b2⟩
theorem Mem3.drew {w wr : World} {r s : Nat → Nat → Bool} (h : Mem3 w wr r s) : Mem3 w wr.drew r s := ⟨h.below.drew, h.b0, h.b1, h.b2⟩
theorem Mem3.start (w : World) (r : Nat → Nat → Bool) : Mem3 w (((w.alloc (.cells (relA r) 81)).alloc (.cells (relA fun _ _ => false) 81)).alloc (.cells (relA fun _ _ => false) 81)) r (fun _ _ => false) := by
  have s1 : (w.alloc (.cells (relA r) 81)).heap.size = w.heap.size + 1 := by simp
  have s2 : ((w.alloc (.cells (relA r) 81)).alloc (.cells (relA fun _ _ => false) 81)).heap.size = w.heap.size + 1 + 1 := by simp
  refine ⟨(((Below.refl _ _).alloc (Nat.le_refl _) _).alloc (by simp) _).alloc (by simp; omega) _, ?_, ⟨fun _ _ => false, ?_⟩, ?_⟩
  · rw [al_old _ _ _ (by rw [s2]; omega), al_old _ _ _ (by rw [s1]; omega), al_new]
  · rw [al_old _ _ _ (by rw [s2]; omega), ← s1, al_new]
  · rw [← s2, al_new]
set_option maxHeartbeats 1000000 in
theorem doubled_any (r : Nat → Nat → Bool) (w : World) :
    Calls Try.prog 62 #[.agg (relA r)] w fun e w' => e = .returned (.agg (relA (dbl r))) ∧ Below w.heap.size w w' := by
  go_enter Try.func62, Try.ntmps62
  go_wp2
  rw [zeroR]
  go_loopw [4, 7] (fun _ i wr => ∃ (a : Nat) (s : Nat → Nat → Bool), a ≤ 8 ∧ i = .int .i64 a ∧ Mem3 w wr r s ∧ DblTo r s a 0 0) (fun _ i _ => 8 - (intOf i).toNat)
  case atStart => exact ⟨0, _, by omega, rfl, Mem3.start w r, DblTo.start r⟩
  case round =>
    obtain ⟨a, s, ha, rfl, hm, hd⟩ := hrel
    obtain ⟨wo, rfl⟩ : ∃ wo : World, wo = wr := ⟨_, rfl⟩
    by_cases hlt : a < 8
    · go_wp2
      go_loopw [5, 10] (fun _ i wr => ∃ (b : Nat) (s : Nat → Nat → Bool), b ≤ 8 ∧ i = .int .i64 b ∧ Mem3 w wr r s ∧ DblTo r s a b 0) (fun _ i _ => 8 - (intOf i).toNat)
      case atStart => exact ⟨0, s, by omega, rfl, hm, hd⟩
      case round =>
        clear hm hd
        obtain ⟨b, s, hb, rfl, hm, hd⟩ := hrel
        obtain ⟨wp, rfl⟩ : ∃ wo : World, wo = wr := ⟨_, rfl⟩
        by_cases hlt : b < 8
        · go_wp2
          go_loopw [6, 13] (fun _ i wr => ∃ (c : Nat) (s : Nat → Nat → Bool), c ≤ 8 ∧ i = .int .i64 c ∧ Mem3 w wr r s ∧ DblTo r s a b c) (fun _ i _ => 8 - (intOf i).toNat)
          case atStart => exact ⟨0, s, by omega, rfl, hm, hd⟩
          case round =>
            clear hm hd
            obtain ⟨c, s, hc, rfl, hm, hd⟩ := hrel
            by_cases hlt : c < 8
            · have c1 := (cell_of_row wr w.heap.size (a * 8 + b) _ _ _ hm.b0).trans (relA_at r a b (by omega) (by omega))
              have c2 := (cell_of_row wr w.heap.size (b * 8 + c) _ _ _ hm.b0).trans (relA_at r b c (by omega) (by omega))
              have c3 := (cell_of_row wr (w.heap.size + 1 + 1) (a * 8 + c) _ _ _ hm.b2).trans (relA_at s a c (by omega) (by omega))
              have c4 := frozen_of_row wr (w.heap.size + 1 + 1) (a * 8 + c) _ _ hm.b2
              cases h1 : r a b
              · rw [h1] at c1
                go_wp2
                go_roundw
                case rel => exact ⟨c + 1, s, by omega, by go_num, hm, hd.next (by simp [h1])⟩
                case measure => simp [intOf]; omega
              · cases h2 : r b c
                · rw [h1] at c1
                  rw [h2] at c2
                  go_wp2
                  go_roundw
                  case rel => exact ⟨c + 1, s, by omega, by go_num, hm, hd.next (by simp [h2])⟩
                  case measure => simp [intOf]; omega
                · rw [h1] at c1
                  rw [h2] at c2
                  go_wp2
                  go_roundw
                  case rel => exact ⟨c + 1, _, by omega, by go_num, hm.put a c true hlt, hd.put (by omega) h1 h2⟩
                  case measure => simp [intOf]; omega
            · obtain rfl : c = 8 := by omega
              go_wp2
              go_roundw
              case rel => exact ⟨b + 1, s, by omega, by go_num, hm, hd.in3⟩
              case measure => simp [intOf]; omega
        · obtain rfl : b = 8 := by omega
          go_wp2
          go_roundw
          case rel => exact ⟨a + 1, s, by omega, by go_num, hm, hd.in2⟩
          case measure => simp [intOf]; omega
    · obtain rfl : a = 8 := by omega
      obtain ⟨z, hz⟩ := hm.b1
      have HZ := Lib.hid hz
      clear hz
      go_wp2_with (first | (refine wpList_loadR rfl _ rfl _ rfl s _ _ hm.b2 ?_) | (refine wpList_storeR rfl _ _ rfl _ z s rfl rfl _ HZ.out ?_))
      refine bodyPost_ret (v := .agg (relA s)) (resultR rfl _ _ _ _ s _ rfl (setRow_heap _ _ _ _ _ _ HZ.out)) rfl ⟨by rw [hd.fin], Go.below_setRow hm.below (by omega) _⟩
end Lv
end Go.Proofs.Ytelladgeehlkpaa
namespace Go.Proofs.Ytelladgeehlkpaa
open Go.RowKit
namespace Lv
/-- a slice of pairs of ints that holds ps -/
structure PairsAt (w : World) (v : Value) (ps : List (Int × Int)) : Prop where
  form : ∃ a cap, v = .slice a ps.length cap ∧ ∀ i x, ps[i]? = some x → ∃ b off, a = some ⟨b, off, none⟩ ∧ w.cell? ⟨b, off + i * 2, none⟩ = some (.int .i64 x.1) ∧ w.cell? ⟨b, off + i * 2 + 1, none⟩ = some (.int .i64 x.2)
theorem cellB {w w1 : World} {b o : Nat} {v : Value} (hb : Below w.heap.size w w1) (h : w.cell? ⟨b, o, none⟩ = some v) : w1.cell? ⟨b, o, none⟩ = some v := (hb.cell (p := ⟨b, o, none⟩) (block_lt_of_cell h)).trans h
theorem PairsAt.go {w w1 : World} {v : Value} {ps : List (Int × Int)} (h : PairsAt w v ps) (hb : Below w.heap.size w w1) : PairsAt w1 v ps := by
  obtain ⟨a, cap, hv, hc⟩ := h.form
  refine ⟨a, cap, hv, fun i x hx => ?_⟩
  obtain ⟨b, off, ha, h1, h2⟩ := hc i x hx
  exact ⟨b, off, ha, cellB hb h1, cellB hb h2⟩
theorem PairsAt.nil (w : World) : PairsAt w (.slice none 0 0) [] := ⟨none, 0, rfl, fun i x h => by simp at h⟩
def prB (ps : List (Int × Int)) (n : Nat) : Bool := decide (ps.length ≤ 64) && ps.all fun p => inI p.1 n && inI p.2 n
theorem prB_long {ps : List (Int × Int)} {n : Nat} (h : 64 < ps.length) : prB ps n = false := by
  have : ¬ ps.length ≤ 64 := by omega
  simp [prB, this]
theorem prB_no {ps : List (Int × Int)} {n k : Nat} {x : Int × Int} (hx : ps[k]? = some x) (h : (inI x.1 n && inI x.2 n) = false) : prB ps n = false := by
  unfold prB
  have : (ps.all fun p => inI p.1 n && inI p.2 n) = false := by
    rw [List.all_eq_false]
    exact ⟨x, List.mem_of_getElem? hx, by simp [h]⟩
  rw [this]; simp
theorem prB_yes {ps : List (Int × Int)} {n : Nat} (h64 : ps.length ≤ 64) (h : ∀ i x, i < ps.length → ps[i]? = some x → (inI x.1 n && inI x.2 n) = true) : prB ps n = true := by
  unfold prB
  have : (ps.all fun p => inI p.1 n && inI p.2 n) = true := by
    rw [List.all_eq_true]
    intro x hx
    obtain ⟨i, hi⟩ := List.getElem?_of_mem hx
    exact h i x (List.getElem?_eq_some_iff.1 hi).1 hi
  rw [this]; simp [h64]
theorem prB_get {ps : List (Int × Int)} {n i : Nat} {x : Int × Int} (h : prB ps n = true) (hx : ps[i]? = some x) : 0 ≤ x.1 ∧ x.1 < n ∧ 0 ≤ x.2 ∧ x.2 < n := by
  unfold prB at h
  rw [Bool.and_eq_true, List.all_eq_true] at h
  have := h.2 x (List.mem_of_getElem? hx)
  simp [inI] at this
  omega
set_option maxHeartbeats 1000000 in
theorem pairsRight_any (v : Value) (ps : List (Int × Int)) (n : Nat) (w : World) (hp : PairsAt w v ps) (hl : ps.length ≤ maxLen) :
    Calls Try.prog 42 #[v, .int .i64 n] w fun e w' => e = .returned (.bool (prB ps n)) ∧ Below w.heap.size w w' := by
  obtain ⟨a, cap, rfl, hc⟩ := hp.form
  unfold maxLen at hl
  have HC := Lib.hid hc
  clear hc hp
  by_cases h64 : 64 < ps.length
  · have d1 : decide ((64 : Int) < (ps.length : Int)) = true := by simp; omega
    go_enter Try.func42, Try.ntmps42
    go_wp2
    go_ret
    exact ⟨ret_bool (prB_long h64).symm, Below.refl _ _⟩
  · have d1 : decide ((64 : Int) < (ps.length : Int)) = false := by simp; omega
    go_enter Try.func42, Try.ntmps42
    go_wp2
    go_loopw [6, 12] (fun _ i wr => ∃ k : Nat, k ≤ ps.length ∧ i = .int .i64 k ∧ Below w.heap.size w wr ∧ ∀ i x, i < k → ps[i]? = some x → (inI x.1 n && inI x.2 n) = true) (fun _ i _ => ps.length - (intOf i).toNat)
    case atStart => exact ⟨0, by omega, rfl, Below.refl _ _, fun i x h => by omega⟩
    case round =>
      obtain ⟨k, hk, rfl, hb, hall⟩ := hrel
      have HA := Lib.hid hall
      clear hall
      by_cases hlt : k < ps.length
      · obtain ⟨⟨x, y⟩, hx⟩ : ∃ x, ps[k]? = some x := ⟨_, List.getElem?_eq_getElem hlt⟩
        obtain ⟨b, off, rfl, c1, c2⟩ := HC.out k _ hx
        have HX := Lib.hid hx
        clear hx
        have e1 := cellB hb c1
        have e2 := cellB hb c2
        have h0 := block_lt_of_cell c1
        clear c1 c2
        dsimp only at e1 e2 h0
        have hsz := hb.size
        cases g1 : inI x n
        · go_wp2_with (go_at_call 59; refine (within_any _ _ _).mono ?_; rintro e w' ⟨rfl, rfl⟩)
          go_ret
          exact ⟨ret_bool (prB_no HX.out (by simp [g1])).symm, hb.alloc hsz _⟩
        · cases g2 : inI y n
          · go_wp2_with (go_at_call 59; refine (within_any _ _ _).mono ?_; rintro e w' ⟨rfl, rfl⟩)
            go_ret
            exact ⟨ret_bool (prB_no HX.out (by simp [g2])).symm, hb.alloc hsz _⟩
          · go_wp2_with (go_at_call 59; refine (within_any _ _ _).mono ?_; rintro e w' ⟨rfl, rfl⟩)
            go_roundw
            case rel =>
              refine ⟨k + 1, by omega, by go_num, hb.alloc hsz _, fun i z hi hz => ?_⟩
              by_cases hik : i < k
              · exact HA.out i z hik hz
              · obtain rfl : i = k := by omega
                have := HX.out
                rw [this] at hz
                cases hz
                simp [g1, g2]
            case measure => simp [intOf]; omega
      · obtain rfl : k = ps.length := by omega
        go_wp2
        go_ret
        exact ⟨ret_bool (prB_yes (by omega) HA.out).symm, hb⟩
/-- the pairs themselves, and each level below itself -/
def pairT (ps : List (Int × Int)) (n : Nat) : Nat → Nat → Bool := fun a b => (decide (a = b) && decide (a < n)) || ps.any fun p => decide (p.1 = (a : Int)) && decide (p.2 = (b : Int))
structure DiagTo (s : Nat → Nat → Bool) (k : Nat) : Prop where
  val : ∀ x y, x < 8 → y < 8 → s x y = (decide (x = y) && decide (x < k))
theorem DiagTo.start : DiagTo (fun _ _ => false) 0 := ⟨fun x y _ _ => by simp⟩
theorem DiagTo.put {s : Nat → Nat → Bool} {k : Nat} (h : DiagTo s k) : DiagTo (upd s k k true) (k + 1) :=
  ⟨fun x y hx hy => by
    by_cases e : x = k ∧ y = k
    · obtain ⟨rfl, rfl⟩ := e
      rw [upd_same]; simp
    · rw [upd_other _ _ _ _ _ _ e, h.val x y hx hy]
      by_cases exy : x = y
      · subst exy
        have : x ≠ k := fun h => e ⟨h, h⟩
        simp; omega
      · simp [exy]⟩
structure PairTo (ps : List (Int × Int)) (n : Nat) (s : Nat → Nat → Bool) (k : Nat) : Prop where
  val : ∀ x y, x < 8 → y < 8 → s x y = pairT (ps.take k) n x y
theorem DiagTo.pairs {s : Nat → Nat → Bool} {n : Nat} (ps : List (Int × Int)) (h : DiagTo s n) : PairTo ps n s 0 := ⟨fun x y hx hy => by rw [h.val x y hx hy]; simp [pairT]⟩
theorem PairTo.put {ps : List (Int × Int)} {n : Nat} {s : Nat → Nat → Bool} {k a b : Nat} (h : PairTo ps n s k) (hx : ps[k]? = some ((a : Int), (b : Int))) : PairTo ps n (upd s a b true) (k + 1) :=
  ⟨fun x y hx' hy => by
    have ht : ps.take (k + 1) = ps.take k ++ [((a : Int), (b : Int))] := by
      rw [List.take_add_one, hx]; rfl
    by_cases e : x = a ∧ y = b
    · obtain ⟨rfl, rfl⟩ := e
      rw [upd_same, ht]
      simp [pairT]
    · rw [upd_other _ _ _ _ _ _ e, h.val x y hx' hy, ht]
      have : (decide ((a : Int) = (x : Int)) && decide ((b : Int) = (y : Int))) = false := by
        simp; omega
      simp [pairT, this]⟩
theorem PairTo.fin {ps : List (Int × Int)} {n : Nat} {s : Nat → Nat → Bool} (h : PairTo ps n s ps.length) : relA s = relA (pairT ps n) :=
  relA_congr fun a b ha hb => by rw [h.val a b ha hb, List.take_length]
/-- two tables: the result, what is being filled -/
structure Mem2 (w wr : World) (s : Nat → Nat → Bool) : Prop where
  below : Below w.heap.size w wr
  b1 : ∃ z, wr.heap[w.heap.size]? = some (.cells (relA z) 81)
  b2 : wr.heap[w.heap.size + 1]? = some (.cells (relA s) 81)
theorem Mem2.put {w wr : World} {s : Nat → Nat → Bool} (h : Mem2 w wr s) (a c : Nat) (v : Bool) (hc : c < 8) : Mem2 w (wr.setCell ⟨w.heap.size + 1, a * 8 + c, none⟩ (.bool v)) (upd s a c v) :=
  ⟨h.below.setCell (by dsimp only; omega) _, h.b1.elim fun z hz => ⟨z, (heap_setCell_other _ _ _ _ (by dsimp only; omega)).trans hz⟩, putR a c v hc h.b2⟩
theorem Mem2.drew {w wr : World} {s : Nat → Nat → Bool} (h : Mem2 w wr s) : Mem2 w wr.drew s := ⟨h.below.drew, h.b1, h.b2⟩
theorem Mem2.go {w wr w1 : World} {s : Nat → Nat → Bool} (h : Mem2 w wr s) (hb : Below wr.heap.size wr w1) : Mem2 w w1 s :=
  ⟨bt h.below hb, h.b1.elim fun z hz => ⟨z, bkeep hb hz⟩, bkeep hb h.b2⟩
theorem Mem2.start (w : World) : Mem2 w ((w.alloc (.cells (relA fun _ _ => false) 81)).alloc (.cells (relA fun _ _ => false) 81)) (fun _ _ => false) := by
  have s1 : (w.alloc (.cells (relA fun _ _ => false) 81)).heap.size = w.heap.size + 1 := al_size _ _
  refine ⟨((Below.refl _ _).alloc (Nat.le_refl _) _).alloc (by simp) _, ⟨fun _ _ => false, ?_⟩, ?_⟩
  · rw [al_old _ _ _ (by rw [s1]; omega), al_new]
  · rw [← s1, al_new]
theorem Mem2.size {w wr : World} {s : Nat → Nat → Bool} (h : Mem2 w wr s) : w.heap.size + 1 < wr.heap.size := lt_of_some h.b2
set_option maxHeartbeats 1000000 in
theorem paired_any (v : Value) (ps : List (Int × Int)) (n : Nat) (w : World) (hn : n ≤ 8) (hp : PairsAt w v ps) (hr : prB ps n = true) :
    Calls Try.prog 44 #[v, .int .i64 n] w fun e w' => e = .returned (.agg (relA (pairT ps n))) ∧ Below w.heap.size w w' := by
  have hl : ps.length ≤ 64 := by
    unfold prB at hr
    simp only [Bool.and_eq_true, decide_eq_true_eq] at hr
    exact hr.1
  have HR := Lib.hid hr
  obtain ⟨a, cap, rfl, hc⟩ := hp.form
  have HC := Lib.hid hc
  clear hc hp hr
  go_enter Try.func44, Try.ntmps44
  go_wp2
  rw [zeroR]
  go_loopw [6, 10] (fun _ i wr => ∃ (k : Nat) (s : Nat → Nat → Bool), k ≤ n ∧ i = .int .i64 k ∧ Mem2 w wr s ∧ DiagTo s k) (fun _ i _ => n - (intOf i).toNat)
  case atStart => exact ⟨0, _, by omega, rfl, Mem2.start w, DiagTo.start⟩
  case round =>
    obtain ⟨k, s, hk, rfl, hm, hd⟩ := hrel
    obtain ⟨wo, rfl⟩ : ∃ wo : World, wo = wr := ⟨_, rfl⟩
    by_cases hlt : k < n
    · have c3 := (cell_of_row wo (w.heap.size + 1) (k * 8 + k) _ _ _ hm.b2).trans (relA_at s k k (by omega) (by omega))
      have c4 := frozen_of_row wo (w.heap.size + 1) (k * 8 + k) _ _ hm.b2
      go_wp2
      go_roundw
      case rel => exact ⟨k + 1, _, by omega, by go_num, hm.put k k true (by omega), hd.put⟩
      case measure => simp [intOf]; omega
    · obtain rfl : k = n := by omega
      go_wp2
      go_loopw [8, 20] (fun _ i wr => ∃ (m : Nat) (s : Nat → Nat → Bool), m ≤ ps.length ∧ i = .int .i64 m ∧ Mem2 w wr s ∧ PairTo ps k s m) (fun _ i _ => ps.length - (intOf i).toNat)
      case atStart => exact ⟨0, s, by omega, rfl, hm, hd.pairs ps⟩
      case round =>
        clear hm hd
        obtain ⟨m, s, hm0, rfl, hm, hd⟩ := hrel
        by_cases hlt : m < ps.length
        · obtain ⟨⟨x, y⟩, hx⟩ : ∃ x, ps[m]? = some x := ⟨_, List.getElem?_eq_getElem hlt⟩
          obtain ⟨b, off, rfl, c1, c2⟩ := HC.out m _ hx
          obtain ⟨x0, x1, y0, y1⟩ := prB_get HR.out hx
          dsimp only at x0 x1 y0 y1 c1 c2
          obtain ⟨x, rfl⟩ := Int.eq_ofNat_of_zero_le x0
          obtain ⟨y, rfl⟩ := Int.eq_ofNat_of_zero_le y0
          have HX := Lib.hid hx
          clear hx
          have e1 := cellB hm.below c1
          have e2 := cellB hm.below c2
          have h0 := block_lt_of_cell c1
          clear c1 c2
          dsimp only at h0
          have hsz := hm.size
          have c3 := (cell_of_row wr (w.heap.size + 1) (x * 8 + y) _ _ _ hm.b2).trans (relA_at s x y (by omega) (by omega))
          have c4 := frozen_of_row wr (w.heap.size + 1) (x * 8 + y) _ _ hm.b2
          go_wp2
          go_region
          go_wp2
          go_roundw
          case rel => exact ⟨m + 1, _, by omega, by go_num, ((hm.put x y true (by omega)).go ((Below.refl _ _).alloc (Nat.le_refl _) _)).drew, hd.put HX.out⟩
          case measure => simp [intOf]; omega
        · obtain rfl : m = ps.length := by omega
          obtain ⟨z, hz⟩ := hm.b1
          have HZ := Lib.hid hz
          clear hz
          go_wp2_with (first | (refine wpList_loadR rfl _ rfl _ rfl s _ _ hm.b2 ?_) | (refine wpList_storeR rfl _ _ rfl _ z s rfl rfl _ HZ.out ?_))
          refine bodyPost_ret (v := .agg (relA s)) (resultR rfl _ _ _ _ s _ rfl (setRow_heap _ _ _ _ _ _ HZ.out)) rfl ⟨by rw [hd.fin], below_setRow hm.below (by omega) _⟩
end Lv
end Go.Proofs.Ytelladgeehlkpaa
namespace Go.Proofs.Ytelladgeehlkpaa
open Go.RowKit
namespace Lv
/-- a slice of strings that holds ss -/
structure NamesAt (w : World) (v : Value) (ss : List ByteArray) : Prop where
  form : ∃ a cap, v = .slice a ss.length cap ∧ ss.length ≤ cap ∧ ∀ i x, ss[i]? = some x → ∃ b off, a = some ⟨b, off, none⟩ ∧ w.cell? ⟨b, off + i, none⟩ = some (.string x) ∧ x.size ≤ maxLen
theorem NamesAt.go {w w1 : World} {v : Value} {ss : List ByteArray} (h : NamesAt w v ss) (hb : Below w.heap.size w w1) : NamesAt w1 v ss := by
  obtain ⟨a, cap, hv, hle, hc⟩ := h.form
  refine ⟨a, cap, hv, hle, fun i x hx => ?_⟩
  obtain ⟨b, off, ha, h1, h2⟩ := hc i x hx
  exact ⟨b, off, ha, cellB hb h1, h2⟩
theorem bytes_eq {s t : ByteArray} : (s.toList == t.toList) = true ↔ s = t := by
  rw [beq_iff_eq, ByteArray.toList_eq, ByteArray.toList_eq]
  constructor
  · intro h
    obtain ⟨⟨x⟩⟩ := s
    obtain ⟨⟨y⟩⟩ := t
    simpa using h
  · rintro rfl
    rfl
def NamesP (ss : List ByteArray) : Prop := 1 ≤ ss.length ∧ ss.length ≤ 8 ∧ (∀ (i : Nat) (x : ByteArray), ss[i]? = some x → nameB x = true) ∧ ∀ (i j : Nat) (x : ByteArray), j < i → ss[i]? = some x → ss[j]? ≠ some x
open Classical in
noncomputable def namesB (ss : List ByteArray) : Bool := decide (NamesP ss)
theorem namesB_true {ss : List ByteArray} (h : NamesP ss) : namesB ss = true := by simp [namesB, h]
theorem namesB_false {ss : List ByteArray} (h : ¬ NamesP ss) : namesB ss = false := by simp [namesB, h]
theorem namesB_iff {ss : List ByteArray} : namesB ss = true ↔ NamesP ss := by simp [namesB]
set_option maxHeartbeats 1000000 in
theorem namesRight_any (v : Value) (ss : List ByteArray) (w : World) (hp : NamesAt w v ss) (hl : ss.length ≤ maxLen) :
    Calls Try.prog 41 #[v] w fun e w' => e = .returned (.bool (namesB ss)) ∧ w = w' := by
  obtain ⟨a, cap, rfl, hcap, hc⟩ := hp.form
  unfold maxLen at hl
  have HC := Lib.hid hc
  clear hc hp
  by_cases h1 : ss.length < 1
  · have d1 : decide ((ss.length : Int) < 1) = true := by simp; omega
    go_enter Try.func41, Try.ntmps41
    go_wp2
    go_ret
    exact ⟨ret_bool (namesB_false fun h => by have := h.1; omega).symm, rfl⟩
  · have d1 : decide ((ss.length : Int) < 1) = false := by simp; omega
    by_cases h8 : 8 < ss.length
    · have d2 : decide ((8 : Int) < (ss.length : Int)) = true := by simp; omega
      go_enter Try.func41, Try.ntmps41
      go_wp2
      go_ret
      exact ⟨ret_bool (namesB_false fun h => by have := h.2.1; omega).symm, rfl⟩
    · have d2 : decide ((8 : Int) < (ss.length : Int)) = false := by simp; omega
      go_enter Try.func41, Try.ntmps41
      go_wp2
      go_loop [3, 4, 17] (fun _ _ i => ∃ k : Nat, k ≤ ss.length ∧ i = .int .i64 k ∧ (∀ (i : Nat) (x : ByteArray), i < k → ss[i]? = some x → nameB x = true) ∧ ∀ (i j : Nat) (x : ByteArray), i < k → j < i → ss[i]? = some x → ss[j]? ≠ some x) (fun _ _ i => ss.length - (intOf i).toNat)
      case atStart => exact ⟨0, by omega, rfl, fun i x h => by omega, fun i j x h => by omega⟩
      case round =>
        obtain ⟨k, hk, rfl, hn, hd⟩ := hrel
        have HN := Lib.hid hn
        have HD := Lib.hid hd
        clear hn hd
        by_cases hlt : k < ss.length
        · obtain ⟨s, hx⟩ : ∃ x, ss[k]? = some x := ⟨_, List.getElem?_eq_getElem hlt⟩
          obtain ⟨b, off, rfl, c1, hs⟩ := HC.out k _ hx
          have HX := Lib.hid hx
          clear hx
          cases g1 : nameB s
          · go_wp2_with (go_at_call 61; refine (name_any _ _ hs).mono ?_; rintro e w' ⟨rfl, rfl⟩)
            go_ret
            exact ⟨ret_bool (namesB_false fun h => by rw [h.2.2.1 k s HX.out] at g1; cases g1).symm, rfl⟩
          · go_wp2_with (go_at_call 61; refine (name_any _ _ hs).mono ?_; rintro e w' ⟨rfl, rfl⟩)
            go_loop [6, 29] (fun _ i => ∃ m : Nat, m ≤ k ∧ i = .int .i64 m ∧ ∀ j, j < m → ss[j]? ≠ some s) (fun _ i => k - (intOf i).toNat)
            case atStart => exact ⟨0, by omega, rfl, fun j h => by omega⟩
            case round =>
              obtain ⟨m, hm, rfl, hne⟩ := hrel
              have HE := Lib.hid hne
              clear hne
              by_cases hlt2 : m < k
              · obtain ⟨t, hy⟩ : ∃ x, ss[m]? = some x := ⟨_, List.getElem?_eq_getElem (by omega)⟩
                obtain ⟨b', off', hbb, c2, ht⟩ := HC.out m _ hy
                cases hbb
                have HY := Lib.hid hy
                clear hy
                cases g2 : (t.toList == s.toList)
                · go_wp2
                  go_round
                  case rel =>
                    refine ⟨m + 1, by omega, by go_num, fun j hj => ?_⟩
                    by_cases e : j < m
                    · exact HE.out j e
                    · obtain rfl : j = m := by omega
                      rw [HY.out]
                      intro h
                      cases h
                      rw [bytes_eq.2 rfl] at g2
                      cases g2
                  case measure => simp [intOf]; omega
                · go_wp2
                  go_ret
                  exact ⟨ret_bool (namesB_false fun h => h.2.2.2 k m s hlt2 HX.out (by rw [HY.out, bytes_eq.1 g2])).symm, rfl⟩
              · go_wp2
                go_round
                case rel =>
                  refine ⟨k + 1, by omega, by go_num, fun i x hi hx => ?_, fun i j x hi hj hx => ?_⟩
                  · by_cases e : i < k
                    · exact HN.out i x e hx
                    · obtain rfl : i = k := by omega
                      rw [HX.out] at hx
                      cases hx
                      exact g1
                  · by_cases e : i < k
                    · exact HD.out i j x e hj hx
                    · obtain rfl : i = k := by omega
                      rw [HX.out] at hx
                      cases hx
                      exact HE.out j (by omega)
                case measure => simp [intOf]; omega
        · obtain rfl : k = ss.length := by omega
          go_wp2
          go_ret
          exact ⟨ret_bool (namesB_true ⟨by omega, by omega, fun i x h => HN.out i x (List.getElem?_eq_some_iff.1 h).1 h, fun i j x hj h => HD.out i j x (List.getElem?_eq_some_iff.1 h).1 hj h⟩).symm, rfl⟩
end Lv
end Go.Proofs.Ytelladgeehlkpaa
