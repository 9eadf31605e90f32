/- What utf.Signs and First answer, of every string. -/
import Derived.Test.YtbolnciofcmoaaaUtValid
import Derived.Below
namespace Go.Proofs.Ytbolnciofcmoaaa
open Go.RowKit
namespace Ut
/-- the signs of a text, none of what is none -/
def sgsOf (s : ByteArray) : List Nat := (sigs (byt s)).getD []
theorem sgsOf_some {s : ByteArray} {cs : List Nat} (h : sigs (byt s) = some cs) : sgsOf s = cs := by unfold sgsOf; rw [h]; rfl
theorem sgsOf_none {s : ByteArray} (h : sigs (byt s) = none) : sgsOf s = [] := by unfold sgsOf; rw [h]; rfl
theorem sgsOf_sg (s : ByteArray) : Sgs (sgsOf s) := by
  unfold sgsOf
  cases h : sigs (byt s) with
  | none => exact Sgs.nil
  | some cs => exact (sigs_iff.1 h).1
theorem sgsOf_len (s : ByteArray) : (sgsOf s).length ≤ s.size := by
  unfold sgsOf
  cases h : sigs (byt s) with
  | none => simp
  | some cs => have := puts_len cs; rw [← (sigs_iff.1 h).2, byt_len] at this; exact this
theorem Below.iter (w : World) (s : ByteArray) (pos : Nat) : Below w.heap.size w (w.iter s pos) := (Below.refl _ _).alloc (Nat.le_refl _) _
theorem Read.len {s : ByteArray} {k : Nat} {cs : List Nat} (h : Read s k cs) : cs.length ≤ k ∧ (puts cs).length = k := by
  have := congrArg List.length h.eq
  rw [List.length_append, List.length_drop, byt_len] at this
  have h1 := puts_len cs
  have h2 := h.le
  omega
set_option maxRecDepth 100000 in
set_option maxHeartbeats 1000000 in
theorem signs_any (s : ByteArray) (w : World) (hs : s.size ≤ maxLen) :
    Calls Try.prog 12 #[.string s] w fun e w' => e = .returned (.int .i64 ((sgsOf s).length : Nat)) ∧ Below w.heap.size w w' := by
  have hv := valid_any s w hs
  unfold maxLen at hs
  cases hg : sigs (byt s) with
  | none =>
    rw [vldB_none hg] at hv
    have HG := Lib.hid (sgsOf_none hg)
    clear hg
    go_enter Try.func12, Try.ntmps12
    go_wp2_with (go_at_call 11; refine hv.mono ?_; rintro e w' ⟨rfl, rfl⟩)
    go_ret
    exact ⟨ret_nat (a := 0) (by rw [HG.out]; rfl), Below.refl _ _⟩
  | some cs' =>
    rw [vldB_some hg] at hv
    have HG := Lib.hid hg
    clear hg
    go_enter Try.func12, Try.ntmps12
    go_wp2_with (go_at_call 11; refine hv.mono ?_; rintro e w' ⟨rfl, rfl⟩)
    go_loopw [3] (fun n w' => ∃ (pos : Nat) (cs : List Nat), w' = w.iter s pos ∧ n = .int .i64 cs.length ∧ Read s pos cs) (fun _ w' => s.size - w'.iterPos w.heap.size)
    case atStart => exact ⟨0, [], rfl, rfl, Read.start s⟩
    case round =>
      obtain ⟨pos, cs, rfl, rfl, hr⟩ := hrel
      have hle := hr.le
      have hlen := hr.len.1
      by_cases hp : pos < s.size
      · obtain ⟨c, r, hc, hcs, _, hr2, hd⟩ := hr.next hp HG.out
        have hpl := put_len c
        have hnx : ∀ ty, (Instr.next (.pointer (some ⟨w.heap.size, 0, none⟩)) true ty).run Try.prog (w.iter s pos) = .ok (.tuple #[.bool true, .int .i64 pos, .int .i32 (c : Nat)]) (w.iter s (pos + (put c).length)) := fun ty => by
          have := run_next_any (P := Try.prog) w s pos ty hp
          rw [hd] at this; exact this
        clear hd hcs
        go_wp2
        go_roundw
        case rel => exact ⟨_, cs ++ [c], rfl, by rw [List.length_append]; go_num, hr2⟩
        case measure => simp; omega
      · have hnx : ∀ ty, (Instr.next (.pointer (some ⟨w.heap.size, 0, none⟩)) true ty).run Try.prog (w.iter s pos) = _ := fun ty => run_next_end w s pos ty hp
        have HD := Lib.hid (hr.done hp)
        go_wp2
        go_ret
        exact ⟨ret_nat (by rw [sgsOf_some HD.out]), Below.iter w s pos⟩
/-- the first signs of a text -/
def frst (s : ByteArray) (n : Int) : List Nat := puts ((sgsOf s).take n.toNat)
theorem ret_str {a b : ByteArray} (h : a = b) : Ending.returned (.string a) = .returned (.string b) := by rw [h]
theorem str_nil : str [] = ByteArray.empty := rfl
set_option maxRecDepth 100000 in
set_option maxHeartbeats 1000000 in
theorem first_any (s : ByteArray) (n : Int) (w : World) (hs : s.size ≤ maxLen) (hw : n ≤ 9223372036854775807) :
    Calls Try.prog 13 #[.string s, .int .i64 n] w fun e w' => e = .returned (.string (str (frst s n))) ∧ Below w.heap.size w w' := by
  have hv := valid_any s w hs
  unfold maxLen at hs
  by_cases hn : n < 1
  · have HF := Lib.hid (show frst s n = [] by unfold frst; rw [show n.toNat = 0 by omega]; rfl)
    go_enter Try.func13, Try.ntmps13
    go_wp2_with fail
    go_ret
    exact ⟨ret_str (by rw [HF.out]; rfl), Below.refl _ _⟩
  cases hg : sigs (byt s) with
  | none =>
    rw [vldB_none hg] at hv
    have HF := Lib.hid (show frst s n = [] by unfold frst; rw [sgsOf_none hg]; simp)
    clear hg
    go_enter Try.func13, Try.ntmps13
    go_wp2_with (go_at_call 11; refine hv.mono ?_; rintro e w' ⟨rfl, rfl⟩)
    go_ret
    exact ⟨ret_str (by rw [HF.out]; rfl), Below.refl _ _⟩
  | some cs' =>
    rw [vldB_some hg] at hv
    have HF := Lib.hid (show frst s n = puts (cs'.take n.toNat) by unfold frst; rw [sgsOf_some hg])
    have HG := Lib.hid hg
    clear hg
    go_enter Try.func13, Try.ntmps13
    go_wp2_with (go_at_call 11; refine hv.mono ?_; rintro e w' ⟨rfl, rfl⟩)
    go_loopw [1] (fun m w' => ∃ (pos : Nat) (cs : List Nat) (x : Int), w' = w.iter s pos ∧ m = .int .i64 x ∧ 0 ≤ x ∧ x ≤ 9223372036854775807 ∧ x = n - cs.length ∧ Read s pos cs) (fun _ w' => s.size - w'.iterPos w.heap.size)
    case atStart => exact ⟨0, [], n, rfl, rfl, by omega, hw, by simp, Read.start s⟩
    case round =>
      obtain ⟨pos, cs, x, rfl, rfl, hx0, hxm, hx, hr⟩ := hrel
      have HX := Lib.hid hx
      clear hx
      have hle := hr.le
      have hlen := hr.len.1
      by_cases hp : pos < s.size
      · obtain ⟨c, r, hc, hcs, _, hr2, hd⟩ := hr.next hp HG.out
        have hpl := put_len c
        have HCS := Lib.hid hcs
        have hnx : ∀ ty, (Instr.next (.pointer (some ⟨w.heap.size, 0, none⟩)) true ty).run Try.prog (w.iter s pos) = .ok (.tuple #[.bool true, .int .i64 pos, .int .i32 (c : Nat)]) (w.iter s (pos + (put c).length)) := fun ty => by
          have := run_next_any (P := Try.prog) w s pos ty hp
          rw [hd] at this; exact this
        clear hd hcs
        by_cases hx1 : x = 0
        · subst hx1
          go_wp2
          go_ret
          refine ⟨ret_str ?_, Below.iter w s _⟩
          have e := HX.out
          apply byt_inj
          rw [byt_upto, HF.out, byt_str (puts_lt ((sigs_iff.1 HG.out).1.take _)), HCS.out]
          rw [show n.toNat = cs.length by omega, List.take_left]
          have e2 := hr.eq
          have e3 := hr.len.2
          have e4 := congrArg (List.take pos) e2
          rw [← e3, List.take_left, e3] at e4
          exact e4
        · have hx2 : ((x : Int) == 0) = false := by simp; exact hx1
          go_wp2
          go_roundw
          case rel => exact ⟨_, cs ++ [c], x - 1, rfl, rfl, by omega, by omega, by rw [HX.out, List.length_append]; simp; omega, hr2⟩
          case measure => simp; omega
      · have hnx : ∀ ty, (Instr.next (.pointer (some ⟨w.heap.size, 0, none⟩)) true ty).run Try.prog (w.iter s pos) = _ := fun ty => run_next_end w s pos ty hp
        have HD := Lib.hid (hr.done hp)
        go_wp2
        go_ret
        refine ⟨ret_str ?_, Below.iter w s pos⟩
        have e := HX.out
        obtain rfl : cs' = cs := by have := HG.out.symm.trans HD.out; simpa using this
        apply byt_inj
        rw [HF.out, byt_str (puts_lt (hr.sg.take _)), List.take_of_length_le (by omega)]
        exact (sigs_iff.1 HG.out).2
end Ut
end Go.Proofs.Ytbolnciofcmoaaa
