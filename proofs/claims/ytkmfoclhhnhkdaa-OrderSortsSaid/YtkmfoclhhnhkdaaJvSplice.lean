/- jval.spliced: a list with one more in it; of values, of texts. -/
import Derived.Test.YtkmfoclhhnhkdaaJvConcat
namespace Go.Proofs.Ytkmfoclhhnhkdaa
open Go.RowKit
namespace Jv
open _root_.Go.Proofs.Ytkmfoclhhnhkdaa.Nm
/-- do a value's items and keys stand in slices? -/
def Six.one (x : Six) : Prop := (∃ a n c, x.iv = .slice a n c) ∧ ∃ a n c, x.kv = .slice a n c
theorem Six.one_cells {x : Six} (h : x.one) : ∀ u ∈ x.cells, u.oneCell' = true := by
  obtain ⟨⟨a, n, c, h1⟩, a', n', c', h2⟩ := h
  intro u hu
  simp only [Six.cells, List.mem_cons, List.not_mem_nil, or_false] at hu
  rcases hu with rfl | rfl | rfl | rfl | rfl | rfl
  · rfl
  · rfl
  · rfl
  · rfl
  · rw [h1]; rfl
  · rw [h2]; rfl
set_option maxRecDepth 100000 in
set_option maxHeartbeats 2000000 in
theorem spliceV (va vc : Value) (x : Six) (na nc : Nat) (ca cc : List Value) (w : World) (ha : Cs 6 w va na ca) (hx : x.one) (hc : Cs 6 w vc nc cc) (hn : (na + 1 + nc) * 88 ≤ 140737488355328) :
    Calls Try.prog 44 #[va, x.val, vc] w fun e w' => ∃ v', e = .returned v' ∧ Cs 6 w' v' (na + 1 + nc) (ca ++ (x.cells ++ cc)) ∧ Below w.heap.size w w' ∧ AtNew w.heap.size v' := by
  have H1 := Lib.hid (Six.one_cells hx)
  have HA := Lib.hid ha
  have HC := Lib.hid hc
  have HN := Lib.hid hn
  obtain ⟨_, _, aa, acap, rfl, _⟩ := ha
  obtain ⟨_, _, ac, ccap, rfl, _⟩ := hc
  obtain ⟨k, c, s, st, iv, kv⟩ := x
  unfold Six.val vV
  clear hx hn
  have W1 := bA1 w (Obj.cells #[.int .i64 k, .int .i64 c, .int .i64 s, .string st, iv, kv] 27)
  have W2 := bT W1 (bA1 _ (Obj.cells #[.int .i64 k, .int .i64 c, .int .i64 s, .string st, iv, kv] 27))
  have W3 := bT W2 (bA1 _ (Obj.cells #[.slice aa na acap, .slice (some ⟨w.heap.size + 1, 0, none⟩) 1 1, .slice ac nc ccap] 24))
  have hb : Cs 6 (((w.alloc (Obj.cells #[.int .i64 k, .int .i64 c, .int .i64 s, .string st, iv, kv] 27)).alloc (Obj.cells #[.int .i64 k, .int .i64 c, .int .i64 s, .string st, iv, kv] 27)).alloc (Obj.cells #[.slice aa na acap, .slice (some ⟨w.heap.size + 1, 0, none⟩) 1 1, .slice ac nc ccap] 24))
      (.slice (some ⟨w.heap.size + 1, 0, none⟩) 1 1) 1 [.int .i64 k, .int .i64 c, .int .i64 s, .string st, iv, kv] := by
    refine Cs.on ⟨rfl, H1.out, _, 1, rfl, Nat.le_refl _, by decide, fun h => (by cases h), fun a h => ?_⟩ (bA1 _ _)
    obtain rfl := Option.some.inj h
    refine ⟨fun j u hj => ?_, fun _ => by simp⟩
    have hv := Vb.new (w.alloc (Obj.cells #[.int .i64 k, .int .i64 c, .int .i64 s, .string st, iv, kv] 27)) #[.int .i64 k, .int .i64 c, .int .i64 s, .string st, iv, kv]
    rw [show (w.alloc (Obj.cells #[.int .i64 k, .int .i64 c, .int .i64 s, .string st, iv, kv] 27)).heap.size = w.heap.size + 1 by simp] at hv
    rw [add_at, Nat.zero_add, hv.cell j]
    simpa using hj
  have HCC := concatV (w.heap.size + 1 + 1) _ _ _ na 1 nc ca [.int .i64 k, .int .i64 c, .int .i64 s, .string st, iv, kv] cc _ (HA.out.on W3) hb (HC.out.on W3) (by simp [go_sem]) (by simp [go_sem]) (by simp [go_sem]) (by omega) HN.out
  have HCC := Lib.hid HCC
  have HW := Lib.hid W3
  clear hb W1 W2 W3
  go_enter Try.func44, Try.ntmps44
  go_wp2_with (go_at_call 68; refine HCC.out.mono ?_; rintro e w1 ⟨v', rfl, hcs, b1, hnw⟩)
  have HR := Lib.hid hcs
  have HNW := Lib.hid (hnw.mono HW.out.size)
  clear hcs hnw
  go_ret
  exact ⟨v', rfl, HR.out, bT HW.out b1, HNW.out⟩
theorem spliceS (va vc : Value) (x : ByteArray) (na nc : Nat) (ca cc : List Value) (w : World) (ha : Cs 1 w va na ca) (hc : Cs 1 w vc nc cc) (hn : (na + 1 + nc) * 16 ≤ 140737488355328) :
    Calls Try.prog 46 #[va, .string x, vc] w fun e w' => ∃ v', e = .returned v' ∧ Cs 1 w' v' (na + 1 + nc) (ca ++ ([.string x] ++ cc)) ∧ Below w.heap.size w w' ∧ AtNew w.heap.size v' := by
  have HA := Lib.hid ha
  have HC := Lib.hid hc
  have HN := Lib.hid hn
  obtain ⟨_, _, aa, acap, rfl, _⟩ := ha
  obtain ⟨_, _, ac, ccap, rfl, _⟩ := hc
  clear hn
  have W1 := bA1 w (Obj.cells #[.string x] 9)
  have W3 := bT W1 (bA1 _ (Obj.cells #[.slice aa na acap, .slice (some ⟨w.heap.size, 0, none⟩) 1 1, .slice ac nc ccap] 25))
  have hb : Cs 1 ((w.alloc (Obj.cells #[.string x] 9)).alloc (Obj.cells #[.slice aa na acap, .slice (some ⟨w.heap.size, 0, none⟩) 1 1, .slice ac nc ccap] 25)) (.slice (some ⟨w.heap.size, 0, none⟩) 1 1) 1 [.string x] := by
    refine Cs.on ⟨rfl, fun u hu => by rw [List.mem_singleton.1 hu]; rfl, _, 1, rfl, Nat.le_refl _, by decide, fun h => (by cases h), fun a h => ?_⟩ (bA1 _ _)
    obtain rfl := Option.some.inj h
    refine ⟨fun j u hj => ?_, fun _ => by simp⟩
    have hv := heap_alloc_new w (Obj.cells #[.string x] 9)
    rw [add_at, Nat.zero_add, cell_of_row _ w.heap.size j _ _ _ hv]
    simpa using hj
  have HCC := concatS (w.heap.size + 1) _ _ _ na 1 nc ca [.string x] cc _ (HA.out.on W3) hb (HC.out.on W3) (by simp [go_sem]) (by simp [go_sem]) (by simp [go_sem]) (by omega) HN.out
  have HCC := Lib.hid HCC
  have HW := Lib.hid W3
  clear hb W1 W3
  go_enter Try.func46, Try.ntmps46
  go_wp2_with (go_at_call 69; refine HCC.out.mono ?_; rintro e w1 ⟨v', rfl, hcs, b1, hnw⟩)
  have HR := Lib.hid hcs
  have HNW := Lib.hid (hnw.mono HW.out.size)
  clear hcs hnw
  go_ret
  exact ⟨v', rfl, HR.out, bT HW.out b1, HNW.out⟩
end Jv
end Go.Proofs.Ytkmfoclhhnhkdaa
