/- What utf.Signs and First answer, of every string. -/
import Derived.Test.YtpelajhdcbemnaaDoorUtValid
import Derived.Below
namespace Go.Proofs.YtpelajhdcbemnaaDoor
open Go.RowKit
namespace Ut
/-- the signs of a text, none of what is none -/
def sgsOf (s : ByteArray) : List Nat := (sigs (byt s)).getD []
theorem sgsOf_some {s : ByteArray} {cs : List Nat} (h : sigs (byt s) = some cs) : sgsOf s = cs := by unfold sgsOf; rw [h]; rfl
theorem sgsOf_none {s : ByteArray} (h : sigs (byt s) = none) : sgsOf s = [] := by unfold sgsOf; rw [h]; rfl
theorem sgsOf_sg (s : ByteArray) : Sgs (sgsOf s) := by
  unfold sgsOf
  cases h : sigs (byt s) with
  | none => exact Sgs.nil
  | some cs => exact (sigs_iff.1 h).1
theorem sgsOf_len (s : ByteArray) : (sgsOf s).length ≤ s.size := by
  unfold sgsOf
  cases h : sigs (byt s) with
  | none => simp
  | some cs => have := puts_len cs; rw [← (sigs_iff.1 h).2, byt_len] at this; exact this
theorem Below.iter (w : World) (s : ByteArray) (pos : Nat) : Below w.heap.size w (w.iter s pos) := (Below.refl _ _).alloc (Nat.le_refl _) _
theorem Read.len {s : ByteArray} {k : Nat} {cs : List Nat} (h : Read s k cs) : cs.length ≤ k ∧ (puts cs).length = k := by
  have := congrArg List.length h.eq
  rw [List.length_append, List.length_drop, byt_len] at this
  have h1 := puts_len cs
  have h2 := h.le
  omega
set_option maxRecDepth 100000 in
set_option maxHeartbeats 1000000 in
theorem signs_any (s : ByteArray) (w : World) (hs : s.size ≤ maxLen) :
    Calls Tryd.prog 36 #[.string s] w fun e w' => e = .returned (.int .i64 ((sgsOf s).length : Nat)) ∧ Below w.heap.size w w' := by
  have hv := valid_any s w hs
  unfold maxLen at hs
  cases hg : sigs (byt s) with
  | none =>
    rw [vldB_none hg] at hv
    have HG := Lib.hid (sgsOf_none hg)
    clear hg
    go_enter Tryd.func36, Tryd.ntmps36
    go_wp2_with (go_at_call 54; refine hv.mono ?_; rintro e w' ⟨rfl, rfl⟩)
    go_ret
    exact ⟨ret_nat (a := 0) (by rw [HG.out]; rfl), Below.refl _ _⟩
  | some cs' =>
    rw [vldB_some hg] at hv
    have HG := Lib.hid hg
    clear hg
    go_enter Tryd.func36, Tryd.ntmps36
    go_wp2_with (go_at_call 54; refine hv.mono ?_; rintro e w' ⟨rfl, rfl⟩)
    go_loopw [3] (fun n w' => ∃ (pos : Nat) (cs : List Nat), w' = w.iter s pos ∧ n = .int .i64 cs.length ∧ Read s pos cs) (fun _ w' => s.size - w'.iterPos w.heap.size)
    case atStart => exact ⟨0, [], rfl, rfl, Read.start s⟩
    case round =>
      obtain ⟨pos, cs, rfl, rfl, hr⟩ := hrel
      have hle := hr.le
      have hlen := hr.len.1
      by_cases hp : pos < s.size
      · obtain ⟨c, r, hc, hcs, _, hr2, hd⟩ := hr.next hp HG.out
        have hpl := put_len c
        have hnx : ∀ ty, (Instr.next (.pointer (some ⟨w.heap.size, 0, none⟩)) true ty).run Tryd.prog (w.iter s pos) = .ok (.tuple #[.bool true, .int .i64 pos, .int .i32 (c : Nat)]) (w.iter s (pos + (put c).length)) := fun ty => by
          have := run_next_any (P := Tryd.prog) w s pos ty hp
          rw [hd] at this; exact this
        clear hd hcs
        go_wp2
        go_roundw
        case rel => exact ⟨_, cs ++ [c], rfl, by rw [List.length_append]; go_num, hr2⟩
        case measure => simp; omega
      · have hnx : ∀ ty, (Instr.next (.pointer (some ⟨w.heap.size, 0, none⟩)) true ty).run Tryd.prog (w.iter s pos) = _ := fun ty => run_next_end w s pos ty hp
        have HD := Lib.hid (hr.done hp)
        go_wp2
        go_ret
        exact ⟨ret_nat (by rw [sgsOf_some HD.out]), Below.iter w s pos⟩
/-- the first signs of a text -/
def frst (s : ByteArray) (n : Int) : List Nat := puts ((sgsOf s).take n.toNat)
theorem ret_str {a b : ByteArray} (h : a = b) : Ending.returned (.string a) = .returned (.string b) := by rw [h]
theorem str_nil : str [] = ByteArray.empty := rfl
end Ut
end Go.Proofs.YtpelajhdcbemnaaDoor
