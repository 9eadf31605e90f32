/- Text, of any number: its sign, its digits, its point. -/
import Derived.Test.YtpddkchnogfjkaaGreatDoorNmArith
import Derived.Test.YtpddkchnogfjkaaGreatDoorNmSplit
import Derived.Lib.AppendIntMem
import Derived.Lib.ItoaLen
import Derived.Lib.Repeat
namespace Go.Proofs.YtpddkchnogfjkaaGreatDoor
open Go.RowKit
namespace Nm
/-- the table of powers of ten that the library reads, whatever is done from block B on -/
def Tab (B : Nat) (w : World) : Prop := Lib.TabBelow Tryz.prog B w "internal/strconv.uint64pow10" .u64 Lib.pow10Tab
/-- digits filled up with noughts -/
def fill (s : Nat) (d : List UInt8) : List UInt8 := List.replicate (s + 1 - d.length) 48 ++ d
/-- digits with a point -/
def ptd (s : Nat) (d : List UInt8) : List UInt8 := if s = 0 then d else (fill s d).take ((fill s d).length - s) ++ [46] ++ (fill s d).drop ((fill s d).length - s)
/-- a number's text -/
def txt (c : Int) (s : Nat) : List UInt8 := (if c < 0 then [45] else []) ++ ptd s (Lib.decDigits c.natAbs)
theorem sb_app (a b : List UInt8) : sb a ++ sb b = sb (a ++ b) := by apply ByteArray.ext; simp [sb]
theorem rep48 (k : Nat) : Lib.repeatL [48] k = List.replicate k 48 := by
  induction k with
  | zero => rfl
  | succ k ih => simp [Lib.repeatL, ih, List.replicate_succ]
theorem dec_len (n : Nat) (hn : n < 1000000000000000) : (Lib.decDigits n).length ≤ 21 := by
  have := Lib.itoa_length_le (n : Int) (by omega) (by omega)
  unfold Lib.itoa at this
  rw [if_neg (by omega)] at this
  exact this
theorem ex_take' (l : List UInt8) (k : Nat) : (sb l).extract 0 k = sb (l.take k) := by rw [ex_take, sb_list]
theorem ex_drop' (l : List UInt8) (k : Nat) : (sb l).extract k (sb l).size = sb (l.drop k) := by rw [ex_drop, sb_list]
end Nm
end Go.Proofs.YtpddkchnogfjkaaGreatDoor
