/- Numbers of 128 bits: magnitude, plus, negated, negative, size, for every number. -/
import Derived.Test.YtpddkchnogfjkaaDoorProg
import Derived.WalkKit
import Derived.WalkSpells
import Derived.Lib.Hide
import Derived.Deep.RegionHeld3
import Derived.Deep.QuietTactic
import Derived.BigQuiet
import Derived.Below
import Derived.Laws.Externs
import Derived.Laws.Bits64b
import Derived.Laws.Rows
import Derived.RowKit3
namespace Go.Proofs.YtpddkchnogfjkaaDoor
open Go.RowKit
namespace Nm
/-- a number of 128 bits, as its two halves -/
def wd (x : Int) : Value := .agg #[.int .u64 (x / 18446744073709551616 % 18446744073709551616), .int .u64 (x % 18446744073709551616)]
theorem add64 (x y c : Int) (hx : 0 ≤ x) (hy : 0 ≤ y) (hc0 : 0 ≤ c) (hc : c ≤ 1) (w : World) : (callFunc 95 #[.int .u64 x, .int .u64 y, .int .u64 c]).run Tryd.prog w =
    .ok (.value (.tuple #[.int .u64 ((x + y + c) % 18446744073709551616), .int .u64 ((x + y + c) / 18446744073709551616)])) w := by
  rw [run_callFunc_extern Tryd.func95 (by kernel_rfl) (by kernel_rfl) (by kernel_rfl) (e := add64Entry) (by kernel_rfl), run_add64 x y c (by omega) (by omega) (by omega) (by omega)]
  rfl
theorem add64_0 (x y : Int) (hx : 0 ≤ x) (hy : 0 ≤ y) (w : World) : (callFunc 95 #[.int .u64 x, .int .u64 y, .int .u64 0]).run Tryd.prog w =
    .ok (.value (.tuple #[.int .u64 ((x + y) % 18446744073709551616), .int .u64 ((x + y) / 18446744073709551616)])) w := by
  /- extern: -/
  simpa using add64 x y 0 hx hy (Int.le_refl 0) (by decide) w
theorem ret_bool {a b : Bool} (h : a = b) : Ending.returned (.bool a) = .returned (.bool b) := by rw [h]
theorem kl {a : World} {p : Addr} {v : Value} (hp : a.cell? p = some v) : p.block < a.heap.size := by
  rcases Nat.lt_or_ge p.block a.heap.size with h | h
  · exact h
  · unfold World.cell? at hp
    rw [Array.getElem?_eq_none h] at hp
    simp at hp
theorem kc {a b : World} {p : Addr} {v : Value} (h : Below a.heap.size a b) (hp : a.cell? p = some v) : b.cell? p = some v := (h.cell (kl hp)).trans hp
theorem kf {a b : World} {p : Addr} {v : Value} (h : Below a.heap.size a b) (hl : a.cell? p = some v) (hp : a.frozen? p = false) : b.frozen? p = false := (h.frozen (kl hl)).trans hp
/-- two cells of a block of the call's own stand behind a callee -/
theorem boxed {a b : World} (h : Below a.heap.size a b) (k : Nat) (x y : Value) (c0 : a.cell? ⟨k, 0, none⟩ = some x) (c1 : a.cell? ⟨k, 1, none⟩ = some y) (f0 : a.frozen? ⟨k, 0, none⟩ = false) (f1 : a.frozen? ⟨k, 1, none⟩ = false) :
    b.cell? ⟨k, 0, none⟩ = some x ∧ b.cell? ⟨k, 1, none⟩ = some y ∧ b.frozen? ⟨k, 0, none⟩ = false ∧ b.frozen? ⟨k, 1, none⟩ = false :=
  ⟨kc h c0, kc h c1, kf h c0 f0, kf h c1 f1⟩
theorem bA1 (w : World) (o : Obj) : Below w.heap.size w (w.alloc o) := (Below.refl _ _).alloc (Nat.le_refl _) _
theorem bA2 (w : World) (o o2 : Obj) : Below w.heap.size w ((w.alloc o).alloc o2) := (bA1 w o).alloc (by simp) _
theorem bA3 (w : World) (o o2 o3 : Obj) : Below w.heap.size w (((w.alloc o).alloc o2).alloc o3) := (bA2 w o o2).alloc (by simp; omega) _
theorem bA4 (w : World) (o o2 o3 o4 : Obj) : Below w.heap.size w ((((w.alloc o).alloc o2).alloc o3).alloc o4) := (bA3 w o o2 o3).alloc (by simp; omega) _
/-- behind some blocks of its own a call that turns nothing below -/
theorem bT {w a b : World} (h : Below w.heap.size w a) (k : Below a.heap.size a b) : Below w.heap.size w b := h.trans (k.mono h.size)
set_option maxRecDepth 100000 in
theorem plus_hl (a b c d : Int) (a0 : 0 ≤ a) (b0 : 0 ≤ b) (b1 : b < 18446744073709551616) (c0 : 0 ≤ c) (d0 : 0 ≤ d) (d1 : d < 18446744073709551616) (w : World) :
    Calls Tryd.prog 86 #[.agg #[.int .u64 a, .int .u64 b], .agg #[.int .u64 c, .int .u64 d]] w fun e w' =>
      e = .returned (.agg #[.int .u64 ((a + c + (b + d) / 18446744073709551616) % 18446744073709551616), .int .u64 ((b + d) % 18446744073709551616)]) ∧ Below w.heap.size w w' := by
  have k0 : 0 ≤ (b + d) / 18446744073709551616 := by omega
  have k1 : (b + d) / 18446744073709551616 ≤ 1 := by omega
  go_enter Tryd.func86, Tryd.ntmps86
  go_wp2_with (first | simp only [add64_0 b d b0 d0] | simp only [add64 a c _ a0 c0 k0 k1])
  simp [bodyPost, results, Tryd.results86, go_sem]
  exact bA3 _ _ _ _
theorem wd_eq {a b x : Int} (h1 : a = x / 18446744073709551616 % 18446744073709551616) (h2 : b = x % 18446744073709551616) : Value.agg #[.int .u64 a, .int .u64 b] = wd x := by rw [h1, h2]; rfl
theorem plus_wd (x y : Int) (w : World) :
    Calls Tryd.prog 86 #[wd x, wd y] w fun e w' => e = .returned (wd (x + y)) ∧ Below w.heap.size w w' := by
  refine (plus_hl (x / 18446744073709551616 % 18446744073709551616) (x % 18446744073709551616) (y / 18446744073709551616 % 18446744073709551616) (y % 18446744073709551616) (by omega) (by omega) (by omega) (by omega) (by omega) (by omega) w).mono ?_
  rintro e w' ⟨rfl, hb⟩
  exact ⟨congrArg _ (wd_eq (by omega) (by omega)), hb⟩
theorem notM (a : Int) (h0 : 0 ≤ a) (h1 : a < 18446744073709551616) : bits BinOp.xor IntKind.u64 (if IntKind.u64.signed = true then -1 else IntKind.u64.max) a = 18446744073709551615 - a := by
  obtain ⟨n, rfl⟩ := Int.eq_ofNat_of_zero_le h0
  have e : (if IntKind.u64.signed = true then -1 else IntKind.u64.max) = 18446744073709551615 := rfl
  rw [e]
  have h2 : (BitVec.ofInt 64 (n : Int)).toNat = n := by
    rw [BitVec.ofInt_natCast, BitVec.toNat_ofNat]; exact Nat.mod_eq_of_lt (by omega)
  have h3 : BitVec.ofInt 64 18446744073709551615 = BitVec.allOnes 64 := by decide
  show IntKind.u64.wrap ((BitVec.ofInt 64 18446744073709551615 ^^^ BitVec.ofInt 64 (n : Int)).toNat : Int) = _
  rw [h3, BitVec.allOnes_xor, BitVec.toNat_not, h2, IntKind.wrap_u64]
  omega
set_option maxRecDepth 100000 in
theorem negated_wd (x : Int) (w : World) :
    Calls Tryd.prog 71 #[wd x] w fun e w' => e = .returned (wd (-x)) ∧ Below w.heap.size w w' := by
  obtain ⟨a, ha⟩ : ∃ a, x / 18446744073709551616 % 18446744073709551616 = a := ⟨_, rfl⟩
  obtain ⟨b, hb⟩ : ∃ b, x % 18446744073709551616 = b := ⟨_, rfl⟩
  have a0 : 0 ≤ a := by omega
  have a1 : a < 18446744073709551616 := by omega
  have b0 : 0 ≤ b := by omega
  have b1 : b < 18446744073709551616 := by omega
  have hc := fun w => plus_hl (18446744073709551615 - a) (18446744073709551615 - b) 0 1 (by omega) (by omega) (by omega) (by omega) (by omega) (by omega) w
  have hR : wd (-x) = .agg #[.int .u64 ((18446744073709551615 - a + 0 + (18446744073709551615 - b + 1) / 18446744073709551616) % 18446744073709551616), .int .u64 ((18446744073709551615 - b + 1) % 18446744073709551616)] := (wd_eq (by omega) (by omega)).symm
  rw [← hR] at hc
  have hW : wd x = .agg #[.int .u64 a, .int .u64 b] := (wd_eq ha.symm hb.symm).symm
  rw [hW]
  have xa := notM a a0 a1
  have xb := notM b b0 b1
  clear ha hb hR
  obtain ⟨V, hV⟩ : ∃ V, wd (-x) = V := ⟨_, rfl⟩
  rw [hV] at hc ⊢
  obtain ⟨v1, v2, hV2⟩ : ∃ v1 v2, V = .agg #[.int .u64 v1, .int .u64 v2] := ⟨_, _, hV.symm⟩
  rw [hV2] at hc ⊢
  clear hV hV2 hW
  go_enter Tryd.func71, Tryd.ntmps71
  go_wp2_with (go_at_call 86; refine (hc _).mono ?_; rintro e w' ⟨rfl, hb⟩; obtain ⟨c0, c1, f0, f1⟩ := boxed hb (w.heap.size + 1) (.int .u64 0) (.int .u64 0) (by simp [go_sem]) (by simp [go_sem]) (by simp [go_sem]) (by simp [go_sem]))
  simp [bodyPost, results, Tryd.results71, go_sem, c0, c1]
  exact ((bT (bA2 _ _ _) hb).setCell (by simp) _).setCell (by simp) _
set_option maxRecDepth 100000 in
theorem negative_wd (x : Int) (w : World) (h0 : -170141183460469231731687303715884105728 ≤ x) (h1 : x < 170141183460469231731687303715884105728) :
    Calls Tryd.prog 68 #[wd x] w fun e w' => e = .returned (.bool (decide (x < 0))) ∧ Below w.heap.size w w' := by
  unfold wd
  obtain ⟨a, ha⟩ : ∃ a, x / 18446744073709551616 % 18446744073709551616 = a := ⟨_, rfl⟩
  obtain ⟨b, hb⟩ : ∃ b, x % 18446744073709551616 = b := ⟨_, rfl⟩
  rw [ha, hb]
  have a0 : 0 ≤ a := by omega
  have a1 : a < 18446744073709551616 := by omega
  have hx : (decide (x < 0)) = decide (9223372036854775808 ≤ a) := by rw [Bool.eq_iff_iff]; simp only [decide_eq_true_eq]; omega
  rw [hx]
  clear hx ha hb
  go_enter Tryd.func68, Tryd.ntmps68
  go_wp2
  go_ret
  exact ⟨ret_bool (by rw [Bool.eq_iff_iff, beq_iff_eq, decide_eq_true_eq]; omega), bA1 _ _⟩
set_option maxRecDepth 100000 in
theorem magnitude_any (n : Int) (w : World) (h0 : -9223372036854775808 ≤ n) (h1 : n < 9223372036854775808) :
    Calls Tryd.prog 70 #[.int .i64 n] w fun e w' => e = .returned (.int .u64 (n.natAbs : Int)) ∧ w = w' := by
  go_enter Tryd.func70, Tryd.ntmps70
  go_wp2
  all_goals go_ret
  all_goals refine ⟨congrArg _ (congrArg (Value.int _) ?_), rfl⟩
  all_goals (try simp only [IntKind.wrap_u64])
  all_goals omega
/-- what stands for a number of 128 bits: two halves -/
theorem wd_form (x : Int) : ∃ a b, wd x = .agg #[.int .u64 a, .int .u64 b] := ⟨_, _, rfl⟩
set_option maxRecDepth 100000 in
theorem size_wd (x : Int) (w : World) (h0 : -170141183460469231731687303715884105728 ≤ x) (h1 : x < 170141183460469231731687303715884105728) :
    Calls Tryd.prog 66 #[wd x] w fun e w' => e = .returned (wd (x.natAbs : Int)) ∧ Below w.heap.size w w' := by
  have hn := fun w => negative_wd x w h0 h1
  have hg := fun w => negated_wd x w
  obtain ⟨v1, v2, hV⟩ := wd_form (x.natAbs : Int)
  have hV' := hV
  rw [hV]
  by_cases hx : x < 0
  · rw [show ((x.natAbs : Nat) : Int) = -x by omega] at hV
    rw [hV] at hg
    rw [decide_eq_true hx] at hn
    clear hV hV'
    obtain ⟨a, b, hA⟩ := wd_form x
    rw [hA] at hn hg ⊢
    clear hA hx h0 h1
    go_enter Tryd.func66, Tryd.ntmps66
    go_wp2_with (first | (go_at_call 68; refine (hn _).mono ?_; rintro e w1 ⟨rfl, b1⟩; obtain ⟨c0, c1, f0, f1⟩ := boxed b1 (w.heap.size + 1) (.int .u64 0) (.int .u64 0) (by simp [go_sem]) (by simp [go_sem]) (by simp [go_sem]) (by simp [go_sem]); obtain ⟨c2, c3, f2, f3⟩ := boxed b1 w.heap.size (.int .u64 a) (.int .u64 b) (by simp [go_sem]) (by simp [go_sem]) (by simp [go_sem]) (by simp [go_sem])) | (go_at_call 71; refine (hg _).mono ?_; rintro e w2 ⟨rfl, b2⟩; obtain ⟨c4, c5, f4, f5⟩ := boxed b2 (w.heap.size + 1) _ _ c0 c1 f0 f1))
    simp [bodyPost, results, Tryd.results66, go_sem, c4, c5]
    exact ((bT (bT (bA2 _ _ _) b1) b2).setCell (by simp) _).setCell (by simp) _
  · rw [show ((x.natAbs : Nat) : Int) = x by omega] at hV
    rw [decide_eq_false hx] at hn
    clear hV' hg
    rw [hV] at hn ⊢
    clear hV hx h0 h1
    go_enter Tryd.func66, Tryd.ntmps66
    go_wp2_with (go_at_call 68; refine (hn _).mono ?_; rintro e w1 ⟨rfl, b1⟩; obtain ⟨c0, c1, f0, f1⟩ := boxed b1 (w.heap.size + 1) (.int .u64 0) (.int .u64 0) (by simp [go_sem]) (by simp [go_sem]) (by simp [go_sem]) (by simp [go_sem]); obtain ⟨c2, c3, f2, f3⟩ := boxed b1 w.heap.size (.int .u64 v1) (.int .u64 v2) (by simp [go_sem]) (by simp [go_sem]) (by simp [go_sem]) (by simp [go_sem]))
    simp [bodyPost, results, Tryd.results66, go_sem, c0, c1]
    exact ((bT (bA2 _ _ _) b1).setCell (by simp) _).setCell (by simp) _
end Nm
end Go.Proofs.YtpddkchnogfjkaaDoor
