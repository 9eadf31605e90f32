/- The mathematics of a division of two digits by one (no program in it). -/
import Derived.Test.YtelladgeehlkpaaProg
import Derived.WalkKit
import Derived.WalkSpells
import Derived.Lib.Hide
import Derived.Deep.RegionHeld3
import Derived.Deep.QuietTactic
import Derived.BigQuiet
import Derived.Below
import Derived.Laws.Externs
import Derived.Laws.Bits64b
import Derived.Laws.Rows
import Derived.RowKit3
import Derived.Test.YtelladgeehlkpaaShelf
import Derived.Lib.ItoaNum
import Derived.Outline
import Derived.LoopTactic
import Derived.Deep.LoopGhost
import Derived.Deep.Cut
import Derived.Deep.DeepCutAuto
namespace Go.Proofs.Ytelladgeehlkpaa
namespace Nm
theorem mul_le_of (a b c : Int) (h : a ≤ b) (hc : 0 ≤ c) : a * c ≤ b * c := Int.mul_le_mul_of_nonneg_right h hc
/-- what q digits of y are, of y's halves -/
theorem qy (q y1 y0 : Int) : q * (y1 * 4294967296 + y0) = q * y1 * 4294967296 + q * y0 := by rw [Int.mul_add, Int.mul_assoc]
theorem succ_mul' (q y : Int) : (q + 1) * y = q * y + y := by rw [Int.add_mul, Int.one_mul]
/-- at the beginning: not below the quotient, at most one above the base -/
theorem dstart {U u y1 y0 : Int} (h1 : 2147483648 ≤ y1) (h0 : 0 ≤ y0) (h0' : y0 < 4294967296) (hu : u < 4294967296) (hU : 0 ≤ U) (hUy : U < y1 * 4294967296 + y0) :
    U * 4294967296 + u < (U / y1 + 1) * (y1 * 4294967296 + y0) ∧ U / y1 ≤ 4294967297 ∧ 0 ≤ U / y1 ∧ U = U / y1 * y1 + U % y1 ∧ 0 ≤ U % y1 ∧ U % y1 < y1 := by
  have e := Int.mul_ediv_add_emod U y1
  have p := Int.emod_nonneg U (show y1 ≠ 0 by omega)
  have p' := Int.emod_lt_of_pos U (show 0 < y1 by omega)
  have p2 : 0 ≤ U / y1 := Int.ediv_nonneg hU (by omega)
  rw [Int.mul_comm y1] at e
  generalize U / y1 = q at *
  generalize U % y1 = r at *
  refine ⟨?_, ?_, p2, e.symm, p, p'⟩
  · rw [succ_mul', qy]
    have : 0 ≤ q * y0 := Int.mul_nonneg p2 h0
    omega
  · rcases Int.lt_or_le 4294967297 q with h | h
    · exfalso
      have := mul_le_of 4294967298 q y1 (by omega) (by omega)
      omega
    · exact h
/-- one less: still not below -/
theorem dgo {U u y1 y0 q r : Int} (h1 : 0 ≤ y1) (h0 : 0 ≤ y0) (hu : u < 4294967296) (hUy : U < y1 * 4294967296 + y0) (e : U = q * y1 + r) (h : 4294967296 ≤ q ∨ 4294967296 * r + u < q * y0) :
    U * 4294967296 + u < (q - 1 + 1) * (y1 * 4294967296 + y0) ∧ U = (q - 1) * y1 + (r + y1) := by
  have e1 : q - 1 + 1 = q := by omega
  rw [e1]
  refine ⟨?_, by rw [Int.sub_mul, Int.one_mul]; omega⟩
  rcases h with h | h
  · have := mul_le_of 4294967296 q (y1 * 4294967296 + y0) h (by omega)
    omega
  · rw [qy]; omega
/-- the test says no: not above -/
theorem dstop {U u y1 y0 q r : Int} (e : U = q * y1 + r) (h : q * y0 ≤ 4294967296 * r + u) : q * (y1 * 4294967296 + y0) ≤ U * 4294967296 + u := by rw [qy]; omega
/-- what is left is too much: not above -/
theorem dbreak {U u y1 y0 q r : Int} (h0 : 0 ≤ y0) (h0' : y0 < 4294967296) (hu : 0 ≤ u) (hq : q ≤ 4294967296) (hr : 4294967296 ≤ r) (e : U = q * y1 + r) : q * (y1 * 4294967296 + y0) ≤ U * 4294967296 + u := by
  have := mul_le_of q 4294967296 y0 hq h0
  rw [qy]; omega
/-- the quotient's digit is a digit -/
theorem dlt {U u y q : Int} (hUy : U < y) (hu : u < 4294967296) (hy : 0 ≤ y) (h : q * y ≤ U * 4294967296 + u) : q < 4294967296 := by
  rcases Int.lt_or_le q 4294967296 with g | g
  · exact g
  · have := mul_le_of 4294967296 q y g hy
    omega
/-- both digits together -/
theorem dboth {X y q1 q0 s : Int} {U u v un : Int} (hs : 0 < s) (hy : 0 < y) (hX : X * s = (U * 4294967296 + u) * 4294967296 + v)
    (h1 : un = U * 4294967296 + u - q1 * (y * s)) (h0 : 0 ≤ un * 4294967296 + v - q0 * (y * s)) (h0' : un * 4294967296 + v - q0 * (y * s) < y * s) :
    q1 * 4294967296 + q0 = X / y ∧ (un * 4294967296 + v - q0 * (y * s)) / s = X % y := by
  have e : X * s = (q1 * 4294967296 + q0) * (y * s) + (un * 4294967296 + v - q0 * (y * s)) := by
    have k : (q1 * 4294967296 + q0) * (y * s) = q1 * (y * s) * 4294967296 + q0 * (y * s) := by rw [Int.add_mul, Int.mul_right_comm]
    rw [hX, h1, k]
    generalize q1 * (y * s) = A
    generalize q0 * (y * s) = C
    omega
  have hd := Int.mul_ediv_add_emod X y
  have hm := Int.emod_nonneg X (show y ≠ 0 by omega)
  have hm' := Int.emod_lt_of_pos X hy
  have hys : 0 < y * s := Int.mul_pos hy hs
  have k1 : (X / y) * (y * s) + (X % y) * s = X * s := by
    rw [← Int.mul_assoc, ← Int.add_mul, Int.mul_comm (X / y), hd]
  have k2 : 0 ≤ (X % y) * s := Int.mul_nonneg hm (by omega)
  have k3 : (X % y) * s < y * s := (Int.mul_lt_mul_right hs).2 hm'
  generalize un * 4294967296 + v - q0 * (y * s) = R at *
  generalize q1 * 4294967296 + q0 = Q at *
  have hQ : Q = X / y := by
    rcases Int.lt_trichotomy Q (X / y) with h | h | h
    · have := mul_le_of (Q + 1) (X / y) (y * s) (by omega) (by omega)
      rw [succ_mul'] at this
      omega
    · exact h
    · have := mul_le_of (X / y + 1) Q (y * s) (by omega) (by omega)
      rw [succ_mul'] at this
      omega
  refine ⟨hQ, ?_⟩
  subst hQ
  have : R = (X % y) * s := by omega
  rw [this, Int.mul_ediv_cancel _ (by omega)]
end Nm
end Go.Proofs.Ytelladgeehlkpaa
namespace Go.Proofs.Ytelladgeehlkpaa
open Go.RowKit
namespace Nm
/-- a number of 128 bits, as its two halves -/
def wd (x : Int) : Value := .agg #[.int .u64 (x / 18446744073709551616 % 18446744073709551616), .int .u64 (x % 18446744073709551616)]
theorem ret_bool {a b : Bool} (h : a = b) : Ending.returned (.bool a) = .returned (.bool b) := by rw [h]
theorem kl {a : World} {p : Addr} {v : Value} (hp : a.cell? p = some v) : p.block < a.heap.size := by
  rcases Nat.lt_or_ge p.block a.heap.size with h | h
  · exact h
  · unfold World.cell? at hp
    rw [Array.getElem?_eq_none h] at hp
    simp at hp
theorem kc {a b : World} {p : Addr} {v : Value} (h : Below a.heap.size a b) (hp : a.cell? p = some v) : b.cell? p = some v := (h.cell (kl hp)).trans hp
theorem kf {a b : World} {p : Addr} {v : Value} (h : Below a.heap.size a b) (hl : a.cell? p = some v) (hp : a.frozen? p = false) : b.frozen? p = false := (h.frozen (kl hl)).trans hp
/-- two cells of a block of the call's own stand behind a callee -/
theorem boxed {a b : World} (h : Below a.heap.size a b) (k : Nat) (x y : Value) (c0 : a.cell? ⟨k, 0, none⟩ = some x) (c1 : a.cell? ⟨k, 1, none⟩ = some y) (f0 : a.frozen? ⟨k, 0, none⟩ = false) (f1 : a.frozen? ⟨k, 1, none⟩ = false) :
    b.cell? ⟨k, 0, none⟩ = some x ∧ b.cell? ⟨k, 1, none⟩ = some y ∧ b.frozen? ⟨k, 0, none⟩ = false ∧ b.frozen? ⟨k, 1, none⟩ = false :=
  ⟨kc h c0, kc h c1, kf h c0 f0, kf h c1 f1⟩
theorem bA1 (w : World) (o : Obj) : Below w.heap.size w (w.alloc o) := (Below.refl _ _).alloc (Nat.le_refl _) _
theorem bA2 (w : World) (o o2 : Obj) : Below w.heap.size w ((w.alloc o).alloc o2) := (bA1 w o).alloc (by simp) _
theorem bA3 (w : World) (o o2 o3 : Obj) : Below w.heap.size w (((w.alloc o).alloc o2).alloc o3) := (bA2 w o o2).alloc (by simp; omega) _
theorem bA4 (w : World) (o o2 o3 o4 : Obj) : Below w.heap.size w ((((w.alloc o).alloc o2).alloc o3).alloc o4) := (bA3 w o o2 o3).alloc (by simp; omega) _
/-- behind some blocks of its own a call that turns nothing below -/
theorem bT {w a b : World} (h : Below w.heap.size w a) (k : Below a.heap.size a b) : Below w.heap.size w b := h.trans (k.mono h.size)
theorem wd_eq {a b x : Int} (h1 : a = x / 18446744073709551616 % 18446744073709551616) (h2 : b = x % 18446744073709551616) : Value.agg #[.int .u64 a, .int .u64 b] = wd x := by rw [h1, h2]; rfl
theorem notM (a : Int) (h0 : 0 ≤ a) (h1 : a < 18446744073709551616) : bits BinOp.xor IntKind.u64 (if IntKind.u64.signed = true then -1 else IntKind.u64.max) a = 18446744073709551615 - a := by
  obtain ⟨n, rfl⟩ := Int.eq_ofNat_of_zero_le h0
  have e : (if IntKind.u64.signed = true then -1 else IntKind.u64.max) = 18446744073709551615 := rfl
  rw [e]
  have h2 : (BitVec.ofInt 64 (n : Int)).toNat = n := by
    rw [BitVec.ofInt_natCast, BitVec.toNat_ofNat]; exact Nat.mod_eq_of_lt (by omega)
  have h3 : BitVec.ofInt 64 18446744073709551615 = BitVec.allOnes 64 := by decide
  show IntKind.u64.wrap ((BitVec.ofInt 64 18446744073709551615 ^^^ BitVec.ofInt 64 (n : Int)).toNat : Int) = _
  rw [h3, BitVec.allOnes_xor, BitVec.toNat_not, h2, IntKind.wrap_u64]
  omega
/-- what stands for a number of 128 bits: two halves -/
theorem wd_form (x : Int) : ∃ a b, wd x = .agg #[.int .u64 a, .int .u64 b] := ⟨_, _, rfl⟩
end Nm
end Go.Proofs.Ytelladgeehlkpaa
namespace Go.Proofs.Ytelladgeehlkpaa
open Go.RowKit
namespace Nm
theorem maskI (a : Int) (h0 : 0 ≤ a) (h1 : a < 18446744073709551616) : bits .and .u64 a 4294967295 = a % 4294967296 := by
  obtain ⟨n, rfl⟩ := Int.eq_ofNat_of_zero_le h0
  have h := bits_and_u64_nat n 4294967295 (by omega) (by omega)
  have e : n &&& 4294967295 = n % 4294967296 := Nat.and_two_pow_sub_one_eq_mod n 32
  rw [e] at h
  exact h
theorem orI (a b : Int) (n : Nat) (ha : 0 ≤ a) (hb : 0 ≤ b) (hb' : b < 2 ^ n) (hs : a * 2 ^ n + b < 18446744073709551616) : bits .or .u64 (a * 2 ^ n) b = a * 2 ^ n + b := by
  obtain ⟨x, rfl⟩ := Int.eq_ofNat_of_zero_le ha
  obtain ⟨y, rfl⟩ := Int.eq_ofNat_of_zero_le hb
  have e : ((x : Int) * 2 ^ n) = ((2 ^ n * x : Nat) : Int) := by rw [Int.natCast_mul, Int.natCast_pow, Int.mul_comm]; rfl
  have hy : y < 2 ^ n := by
    have : ((y : Nat) : Int) < ((2 ^ n : Nat) : Int) := by rw [Int.natCast_pow]; exact hb'
    omega
  rw [e] at hs ⊢
  have h := bits_or_u64_nat (2 ^ n * x) y (by omega) (by omega)
  rw [← Nat.two_pow_add_eq_or_of_lt hy] at h
  rw [h, Int.natCast_add]
theorem powI (n : Nat) : ((2 ^ n : Nat) : Int) = (2 : Int) ^ n := by rw [Int.natCast_pow]; rfl
end Nm
end Go.Proofs.Ytelladgeehlkpaa
namespace Go.Proofs.Ytelladgeehlkpaa
open Go.RowKit
namespace Nm
theorem bD {B : Nat} {a b : World} (h : Below B a b) (n : Nat) : Below B a (b.drewN n) := h.trans ⟨rfl, rfl, rfl, Nat.le_refl _, fun _ _ => rfl⟩
end Nm
end Go.Proofs.Ytelladgeehlkpaa
namespace Go.Proofs.Ytelladgeehlkpaa
open Go.RowKit
namespace Nm
theorem tenI (k : Nat) (h : k ≤ 18) : (1 : Int) ≤ ((10 ^ k : Nat) : Int) ∧ ((10 ^ k : Nat) : Int) ≤ 1000000000000000000 := by
  have a : 10 ^ k ≤ 10 ^ 18 := Nat.pow_le_pow_right (by decide) h
  have b : 0 < 10 ^ k := Nat.pow_pos (by decide)
  omega
/-- a number -/
def nv (c s : Int) : Value := .agg #[.int .i64 c, .int .i64 s]
/-- may a number be? -/
def isB (c s : Int) : Bool := decide ((0 ≤ s ∧ s ≤ 9) ∧ (-1000000000000000 < c ∧ c < 1000000000000000) ∧ (s = 0 ∨ c.tmod 10 ≠ 0))
set_option maxRecDepth 100000 in
set_option maxHeartbeats 1000000 in
theorem is_any (c s : Int) (w : World) :
    Calls Try.prog 66 #[nv c s] w fun e w' => e = .returned (.bool (isB c s)) ∧ Below w.heap.size w w' := by
  unfold nv
  by_cases h1 : s < 0
  · have e : Hid (isB c s = false) := Lib.hid (decide_eq_false (by omega))
    go_enter Try.func66, Try.ntmps66
    go_wp2
    go_ret
    exact ⟨ret_bool e.out.symm, bA1 _ _⟩
  by_cases h2 : 9 < s
  · have e : Hid (isB c s = false) := Lib.hid (decide_eq_false (by omega))
    go_enter Try.func66, Try.ntmps66
    go_wp2
    go_ret
    exact ⟨ret_bool e.out.symm, bA1 _ _⟩
  by_cases h3 : c ≤ -1000000000000000
  · have e : Hid (isB c s = false) := Lib.hid (decide_eq_false (by omega))
    go_enter Try.func66, Try.ntmps66
    go_wp2
    go_ret
    exact ⟨ret_bool e.out.symm, bA1 _ _⟩
  by_cases h4 : 1000000000000000 ≤ c
  · have e : Hid (isB c s = false) := Lib.hid (decide_eq_false (by omega))
    go_enter Try.func66, Try.ntmps66
    go_wp2
    go_ret
    exact ⟨ret_bool e.out.symm, bA1 _ _⟩
  by_cases h5 : s = 0
  · subst h5
    have e : Hid (isB c 0 = true) := Lib.hid (decide_eq_true (by omega))
    go_enter Try.func66, Try.ntmps66
    go_wp2
    go_ret
    exact ⟨ret_bool e.out.symm, bA1 _ _⟩
  have hs0 : (s == 0) = false := by simp; omega
  by_cases h6 : c.tmod 10 = 0
  · have e : Hid (isB c s = false) := Lib.hid (decide_eq_false (by omega))
    have hb : -9 ≤ c.tmod 10 ∧ c.tmod 10 ≤ 9 := by omega
    go_enter Try.func66, Try.ntmps66
    go_wp2
    go_ret
    exact ⟨ret_bool e.out.symm, bA1 _ _⟩
  · have e : Hid (isB c s = true) := Lib.hid (decide_eq_true (by omega))
    obtain ⟨t, ht⟩ : ∃ t, c.tmod 10 = t := ⟨_, rfl⟩
    have hb : -10 < t := by rw [← ht]; exact Int.lt_tmod_of_pos c (by decide)
    have hb' : t < 10 := by rw [← ht]; exact Int.tmod_lt_of_pos c (by decide)
    have hz : (t == 0) = false := by simp; omega
    have hz' : (t != 0) = true := by simp; omega
    go_enter Try.func66, Try.ntmps66
    go_wp2
    go_ret
    exact ⟨ret_bool e.out.symm, bA1 _ _⟩
/-- noughts struck off, as many as the scale allows -/
def strip : Nat → Nat → Nat × Nat
  | 0, c => (c, 0)
  | s + 1, c => if c % 10 = 0 then strip s (c / 10) else (c, s + 1)
/-- the number that holds x by ten to the power of -s -/
def hold (x : Int) (s : Nat) : Option (Int × Nat) :=
  if 9 < (strip s x.natAbs).2 ∨ 1000000000000000 ≤ (strip s x.natAbs).1 then none
  else some (if x < 0 then -((strip s x.natAbs).1 : Int) else ((strip s x.natAbs).1 : Int), (strip s x.natAbs).2)
/-- a number, or that there is none -/
def ans : Option (Int × Nat) → Value
  | some (c, s) => .tuple #[nv c s, .int .i64 0]
  | none => .tuple #[nv 0 0, .int .i64 8]
/-- a block of two cells -/
def Bx (w : World) (k : Nat) (x y : Value) : Prop := w.cell? ⟨k, 0, none⟩ = some x ∧ w.cell? ⟨k, 1, none⟩ = some y ∧ w.frozen? ⟨k, 0, none⟩ = false ∧ w.frozen? ⟨k, 1, none⟩ = false
theorem Bx.on {a b : World} {k : Nat} {x y : Value} (h : Bx a k x y) (hb : Below a.heap.size a b) : Bx b k x y := boxed hb k x y h.1 h.2.1 h.2.2.1 h.2.2.2
theorem Bx.alloc {a : World} {k : Nat} {x y : Value} (h : Bx a k x y) (o : Obj) : Bx (a.alloc o) k x y := h.on (bA1 a o)
theorem Bx.far {a : World} {k : Nat} {x y : Value} (h : Bx a k x y) {p : Addr} (hp : p.block ≠ k) (v : Value) : Bx (a.setCell p v) k x y := by
  refine ⟨?_, ?_, ?_, ?_⟩
  · rw [World.cell?_setCell_far _ _ _ _ hp]; exact h.1
  · rw [World.cell?_setCell_far _ _ _ _ hp]; exact h.2.1
  · rw [World.frozen?_setCell]; exact h.2.2.1
  · rw [World.frozen?_setCell]; exact h.2.2.2
theorem Bx.put {a : World} {k : Nat} {x y : Value} (h : Bx a k x y) (v1 v2 : Value) : Bx ((a.setCell ⟨k, 0, none⟩ v1).setCell ⟨k, 1, none⟩ v2) k v1 v2 := by
  have n1 : (⟨k, 0, none⟩ : Addr) ≠ ⟨k, 1, none⟩ := by simp
  have n2 : (⟨k, 1, none⟩ : Addr) ≠ ⟨k, 0, none⟩ := by simp
  have e : (a.setCell ⟨k, 0, none⟩ v1).cell? ⟨k, 1, none⟩ = some y := by rw [World.cell?_setCell_other (h := n1)]; exact h.2.1
  refine ⟨?_, World.cell?_setCell_same _ _ _ e, ?_, ?_⟩
  · rw [World.cell?_setCell_other (h := n2)]; exact World.cell?_setCell_same _ _ _ h.1
  · rw [World.frozen?_setCell, World.frozen?_setCell]; exact h.2.2.1
  · rw [World.frozen?_setCell, World.frozen?_setCell]; exact h.2.2.2
theorem strip_end {t c : Nat} (h : t = 0 ∨ c % 10 ≠ 0) : strip t c = (c, t) := by
  cases t with
  | zero => rfl
  | succ t => unfold strip; rw [if_neg (by omega)]
theorem strip_go {t c : Nat} (h : c % 10 = 0) (ht : 0 < t) : strip (t - 1) (c / 10) = strip t c := by
  obtain ⟨t, rfl⟩ : ∃ k, t = k + 1 := ⟨t - 1, by omega⟩
  conv => rhs; unfold strip
  rw [if_pos h]; rfl
/-- a number's halves -/
def Hl (c : Nat) (p q : Int) : Prop := wd (c : Int) = .agg #[.int .u64 p, .int .u64 q] ∧ (c : Int) = p * 18446744073709551616 + q ∧ 0 ≤ p ∧ 0 ≤ q ∧ q < 18446744073709551616
theorem Hl.mk' (c : Nat) (h : c < 340282366920938463463374607431768211456) : ∃ p q, Hl c p q := by
  refine ⟨(c : Int) / 18446744073709551616, (c : Int) % 18446744073709551616, (wd_eq (by omega) (by omega)).symm, ?_, ?_, ?_, ?_⟩ <;> omega
end Nm
end Go.Proofs.Ytelladgeehlkpaa
namespace Go.Proofs.Ytelladgeehlkpaa
open Go.RowKit
namespace Nm
/-- a number as a value, or that there is none -/
def ansP : Option (Int × Nat) → Int × Int × Int
  | some (c, s) => (c, s, 0)
  | none => (0, 0, 8)
theorem ans_form (o : Option (Int × Nat)) : ans o = .tuple #[.agg #[.int .i64 (ansP o).1, .int .i64 (ansP o).2.1], .int .i64 (ansP o).2.2] := by cases o <;> rfl
/-- an answer's three numbers, as variables -/
theorem ans_ex (o : Option (Int × Nat)) : ∃ c s e, ans o = .tuple #[.agg #[.int .i64 c, .int .i64 s], .int .i64 e] := ⟨_, _, _, ans_form o⟩
def mk (c s : Int) : Option (Int × Nat) := if 0 ≤ s ∧ s ≤ 30 then hold c s.toNat else none
end Nm
end Go.Proofs.Ytelladgeehlkpaa
