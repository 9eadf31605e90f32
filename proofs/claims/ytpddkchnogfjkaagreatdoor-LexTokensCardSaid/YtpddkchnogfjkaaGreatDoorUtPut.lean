/- What the document's Put answers, of every sign. -/
import Derived.Test.YtpddkchnogfjkaaGreatDoorUtSigns
namespace Go.Proofs.YtpddkchnogfjkaaGreatDoor
open Go.RowKit
namespace Ut
/-- bytes as cells -/
def cel (l : List Nat) : List Value := l.map fun x => Value.int .u8 (x : Nat)
set_option maxRecDepth 100000 in
set_option maxHeartbeats 1000000 in
theorem put_three (r : Int) (w : World) (h1 : 2048 ≤ r) (h2 : r < 65536) :
    Calls Tryz.prog 30 #[.int .i64 r] w fun e w' => e = .returned (.slice (some ⟨w.heap.size, 0, none⟩) 3 3) ∧ w' = w.alloc (.cells #[.int .u8 (224 + r / 4096), .int .u8 (128 + r / 64 % 64), .int .u8 (128 + r % 64)] 5) := by
  go_enter Tryz.func30, Tryz.ntmps30
  go_wp2
  go_ret
  exact ⟨rfl, rfl⟩
set_option maxRecDepth 100000 in
set_option maxHeartbeats 1000000 in
theorem put_four (r : Int) (w : World) (h1 : 65536 ≤ r) (h2 : r < 1114112) :
    Calls Tryz.prog 30 #[.int .i64 r] w fun e w' => e = .returned (.slice (some ⟨w.heap.size, 0, none⟩) 4 4) ∧ w' = w.alloc (.cells #[.int .u8 (240 + r / 262144), .int .u8 (128 + r / 4096 % 64), .int .u8 (128 + r / 64 % 64), .int .u8 (128 + r % 64)] 5) := by
  go_enter Tryz.func30, Tryz.ntmps30
  go_wp2
  go_ret
  exact ⟨rfl, rfl⟩
set_option maxRecDepth 100000 in
set_option maxHeartbeats 1000000 in
theorem put_any (c : Nat) (w : World) (hc : c < 1114112) :
    Calls Tryz.prog 30 #[.int .i64 (c : Nat)] w fun e w' => e = .returned (.slice (some ⟨w.heap.size, 0, none⟩) (put c).length (put c).length) ∧ w' = w.alloc (.cells (cel (put c)).toArray 5) := by
  rcases put_cases c with ⟨h1, h⟩ | ⟨h1, h2, h⟩ | ⟨h1, h2, h⟩ | ⟨h1, h⟩ <;> rw [h] <;> clear h
  · go_enter Tryz.func30, Tryz.ntmps30
    go_wp2
    go_ret
    exact ⟨rfl, rfl⟩
  · go_enter Tryz.func30, Tryz.ntmps30
    go_wp2
    go_ret
    exact ⟨rfl, rfl⟩
  · exact put_three c w (by omega) (by omega)
  · exact put_four c w (by omega) (by omega)
end Ut
end Go.Proofs.YtpddkchnogfjkaaGreatDoor
