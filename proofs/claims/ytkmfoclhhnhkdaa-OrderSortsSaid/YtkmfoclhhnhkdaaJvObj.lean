/- jval: simple values, and whether each key has a value. -/
import Derived.Test.YtkmfoclhhnhkdaaJvPlace
namespace Go.Proofs.Ytkmfoclhhnhkdaa
open Go.RowKit
namespace Jv
open _root_.Go.Proofs.Ytkmfoclhhnhkdaa.Nm
/-- a value of JSON: its kind, its number, its text, its items, its keys -/
def vV (k c s : Int) (st : ByteArray) (items keys : Value) : Value := .agg #[.int .i64 k, .int .i64 c, .int .i64 s, .string st, items, keys]
set_option maxRecDepth 100000 in
theorem wrong_v (s : ByteArray) (w : World) :
    Calls Try.prog 48 #[.string s] w fun e w' => e = .returned (vV 7 0 0 s (.slice none 0 0) (.slice none 0 0)) ∧ Below w.heap.size w w' := by
  go_enter Try.func48, Try.ntmps48
  go_wp2
  simp [bodyPost, results, Try.results48, go_sem]
  exact ⟨rfl, bA1 _ _⟩
set_option maxRecDepth 100000 in
set_option maxHeartbeats 1000000 in
theorem isObject_v (k c s : Int) (st : ByteArray) (ia ka : Option Addr) (n ic m kc : Nat) (w : World) :
    Calls Try.prog 42 #[vV k c s st (.slice ia n ic) (.slice ka m kc)] w fun e w' => e = .returned (.bool (decide (k = 6 ∧ m = n))) ∧ Below w.heap.size w w' := by
  unfold vV
  by_cases hk : k = 6
  · subst hk
    by_cases hm : m = n
    · subst hm
      have HV : Hid (decide ((6 : Int) = 6 ∧ m = m) = true) := Lib.hid (by simp)
      go_enter Try.func42, Try.ntmps42
      go_wp2
      go_ret
      exact ⟨by simp, bA1 _ _⟩
    · have hm2 : ((m : Int) == (n : Int)) = false := by simp; omega
      go_enter Try.func42, Try.ntmps42
      go_wp2
      go_ret
      exact ⟨by simp [hm], bA1 _ _⟩
  · have hk2 : (k == 6) = false := by simp; omega
    go_enter Try.func42, Try.ntmps42
    go_wp2
    go_ret
    exact ⟨by simp [hk], bA1 _ _⟩
end Jv
end Go.Proofs.Ytkmfoclhhnhkdaa
