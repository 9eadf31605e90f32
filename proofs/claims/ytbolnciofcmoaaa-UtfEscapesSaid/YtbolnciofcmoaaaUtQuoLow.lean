/- What appendQuoted answers of the signs below 32, and of those that have a short escape. -/
import Derived.Test.YtbolnciofcmoaaaUtRune
import Derived.Test.YtbolnciofcmoaaaUtQuoMath
import Derived.Test.YtbolnciofcmoaaaUtSigns
import Derived.Deep.RegionHeld3
import Derived.Laws.MakeOwn
namespace Go.Proofs.Ytbolnciofcmoaaa
open Go.RowKit
namespace Ut
theorem step_append_mine {ops : Array Oper} {o : Oper} {a : Act} {w : World} {K : Act → World → Prop} {Q : Exit → Act → World → Prop} {E : Prop} (hg : o.guard = none) (s x : Operand)
    (ho : o.op = .call { callee := .builtin .append, args := #[s, x], argTypes := #[26, 26] })
    (B : Nat) (v : Value) (l : List Nat) (hs : a.eval s = v) (hown : w.ownsRow B 5 1 v l.length (cel l)) (hB : B ≤ w.heap.size) (hl : l.length ≤ 1000000000000)
    (ad : Addr) (m : List Nat) (c : Nat) (hx : a.eval x = .slice (some ad) m.length c) (hm : m.length ≤ 1000) (hnews : ∀ j u, (cel m)[j]? = some u → w.cell? (ad.add j) = some u)
    (h : ∀ v' w', w'.ownsRow B 5 1 v' (l.length + m.length) (cel l ++ cel m) → w.grownBy w' v.ownBlock → K (a.put o.dst v') w') :
    if Region.wanted o (yielded ops a.tmps) = true then Oper.wp Try.prog o a w K Q else E := by
  obtain ⟨i0, hi, hz0, hz1, hz2⟩ := info_parts info_b
  rw [if_pos (by simp [Region.wanted, hg])]
  exact wp_append_own w s x 26 ho B 5 i0 (.int .u8 0) 1 1 Try.underlying26 hi hz0 hz1 hz2 rfl (by decide) v _ _ hs hown ad m.length c (cel m) hx (by rw [cel_len]; omega) hnews (cel_one m) (by unfold maxLen; omega) (by omega) hB (fun v' w' h1 h2 _ => h v' w' h1 h2)
set_option maxRecDepth 100000 in
set_option maxHeartbeats 1000000 in
theorem appq_34 (B : Nat) (v : Value) (l : List Nat) (w : World) (h : Buf B w v l) (hl : l.length ≤ 100000000000) :
    Calls Try.prog 20 #[v, .int .i32 34] w fun e w' => ∃ v', e = .returned v' ∧ Grew B w w' v' (l ++ [92, 34]) := by
  obtain ⟨i0, hi, hz0, hz1, hz2⟩ := info_parts info_b
  have HB := Lib.hid h
  clear h
  go_enter Try.func20, Try.ntmps20
  go_wp2_with (at_builtin; refine wpList_append_own _ rfl _ _ 26 rfl B 5 i0 (.int .u8 0) 1 1 Try.underlying26 hi hz0 hz1 hz2 rfl (by decide) _ _ _ rfl (HB.out.own.alloc _) ⟨w.heap.size, 0, none⟩ 2 2 (cel [92, 34]) rfl rfl ?c1 ?c2 ?c3 ?c4 ?c5 ?c6)
  case c1 => exact cells_put w _
  case c2 => exact cel_one _
  case c3 => unfold maxLen; omega
  case c4 => omega
  case c5 => have := HB.out.le; simp; omega
  case c6 =>
    intro v' w2 hown' hgrow _
    go_wp2
    go_ret
    exact ⟨_, rfl, HB.out.grew rfl hown' hgrow⟩
set_option maxRecDepth 100000 in
set_option maxHeartbeats 1000000 in
theorem appq_92 (B : Nat) (v : Value) (l : List Nat) (w : World) (h : Buf B w v l) (hl : l.length ≤ 100000000000) :
    Calls Try.prog 20 #[v, .int .i32 92] w fun e w' => ∃ v', e = .returned v' ∧ Grew B w w' v' (l ++ [92, 92]) := by
  obtain ⟨i0, hi, hz0, hz1, hz2⟩ := info_parts info_b
  have HB := Lib.hid h
  clear h
  go_enter Try.func20, Try.ntmps20
  go_wp2_with (at_builtin; refine wpList_append_own _ rfl _ _ 26 rfl B 5 i0 (.int .u8 0) 1 1 Try.underlying26 hi hz0 hz1 hz2 rfl (by decide) _ _ _ rfl (HB.out.own.alloc _) ⟨w.heap.size, 0, none⟩ 2 2 (cel [92, 92]) rfl rfl ?c1 ?c2 ?c3 ?c4 ?c5 ?c6)
  case c1 => exact cells_put w _
  case c2 => exact cel_one _
  case c3 => unfold maxLen; omega
  case c4 => omega
  case c5 => have := HB.out.le; simp; omega
  case c6 =>
    intro v' w2 hown' hgrow _
    go_wp2
    go_ret
    exact ⟨_, rfl, HB.out.grew rfl hown' hgrow⟩
set_option maxRecDepth 100000 in
set_option maxHeartbeats 1000000 in
theorem appq_8 (B : Nat) (v : Value) (l : List Nat) (w : World) (h : Buf B w v l) (hl : l.length ≤ 100000000000) :
    Calls Try.prog 20 #[v, .int .i32 8] w fun e w' => ∃ v', e = .returned v' ∧ Grew B w w' v' (l ++ [92, 98]) := by
  obtain ⟨i0, hi, hz0, hz1, hz2⟩ := info_parts info_b
  have HB := Lib.hid h
  clear h
  go_enter Try.func20, Try.ntmps20
  go_wp2_with (at_builtin; refine wpList_append_own _ rfl _ _ 26 rfl B 5 i0 (.int .u8 0) 1 1 Try.underlying26 hi hz0 hz1 hz2 rfl (by decide) _ _ _ rfl (HB.out.own.alloc _) ⟨w.heap.size, 0, none⟩ 2 2 (cel [92, 98]) rfl rfl ?c1 ?c2 ?c3 ?c4 ?c5 ?c6)
  case c1 => exact cells_put w _
  case c2 => exact cel_one _
  case c3 => unfold maxLen; omega
  case c4 => omega
  case c5 => have := HB.out.le; simp; omega
  case c6 =>
    intro v' w2 hown' hgrow _
    go_wp2
    go_ret
    exact ⟨_, rfl, HB.out.grew rfl hown' hgrow⟩
set_option maxRecDepth 100000 in
set_option maxHeartbeats 1000000 in
theorem appq_9 (B : Nat) (v : Value) (l : List Nat) (w : World) (h : Buf B w v l) (hl : l.length ≤ 100000000000) :
    Calls Try.prog 20 #[v, .int .i32 9] w fun e w' => ∃ v', e = .returned v' ∧ Grew B w w' v' (l ++ [92, 116]) := by
  obtain ⟨i0, hi, hz0, hz1, hz2⟩ := info_parts info_b
  have HB := Lib.hid h
  clear h
  go_enter Try.func20, Try.ntmps20
  go_wp2_with (at_builtin; refine wpList_append_own _ rfl _ _ 26 rfl B 5 i0 (.int .u8 0) 1 1 Try.underlying26 hi hz0 hz1 hz2 rfl (by decide) _ _ _ rfl (HB.out.own.alloc _) ⟨w.heap.size, 0, none⟩ 2 2 (cel [92, 116]) rfl rfl ?c1 ?c2 ?c3 ?c4 ?c5 ?c6)
  case c1 => exact cells_put w _
  case c2 => exact cel_one _
  case c3 => unfold maxLen; omega
  case c4 => omega
  case c5 => have := HB.out.le; simp; omega
  case c6 =>
    intro v' w2 hown' hgrow _
    go_wp2
    go_ret
    exact ⟨_, rfl, HB.out.grew rfl hown' hgrow⟩
set_option maxRecDepth 100000 in
set_option maxHeartbeats 1000000 in
theorem appq_10 (B : Nat) (v : Value) (l : List Nat) (w : World) (h : Buf B w v l) (hl : l.length ≤ 100000000000) :
    Calls Try.prog 20 #[v, .int .i32 10] w fun e w' => ∃ v', e = .returned v' ∧ Grew B w w' v' (l ++ [92, 110]) := by
  obtain ⟨i0, hi, hz0, hz1, hz2⟩ := info_parts info_b
  have HB := Lib.hid h
  clear h
  go_enter Try.func20, Try.ntmps20
  go_wp2_with (at_builtin; refine wpList_append_own _ rfl _ _ 26 rfl B 5 i0 (.int .u8 0) 1 1 Try.underlying26 hi hz0 hz1 hz2 rfl (by decide) _ _ _ rfl (HB.out.own.alloc _) ⟨w.heap.size, 0, none⟩ 2 2 (cel [92, 110]) rfl rfl ?c1 ?c2 ?c3 ?c4 ?c5 ?c6)
  case c1 => exact cells_put w _
  case c2 => exact cel_one _
  case c3 => unfold maxLen; omega
  case c4 => omega
  case c5 => have := HB.out.le; simp; omega
  case c6 =>
    intro v' w2 hown' hgrow _
    go_wp2
    go_ret
    exact ⟨_, rfl, HB.out.grew rfl hown' hgrow⟩
set_option maxRecDepth 100000 in
set_option maxHeartbeats 1000000 in
theorem appq_12 (B : Nat) (v : Value) (l : List Nat) (w : World) (h : Buf B w v l) (hl : l.length ≤ 100000000000) :
    Calls Try.prog 20 #[v, .int .i32 12] w fun e w' => ∃ v', e = .returned v' ∧ Grew B w w' v' (l ++ [92, 102]) := by
  obtain ⟨i0, hi, hz0, hz1, hz2⟩ := info_parts info_b
  have HB := Lib.hid h
  clear h
  go_enter Try.func20, Try.ntmps20
  go_wp2_with (at_builtin; refine wpList_append_own _ rfl _ _ 26 rfl B 5 i0 (.int .u8 0) 1 1 Try.underlying26 hi hz0 hz1 hz2 rfl (by decide) _ _ _ rfl (HB.out.own.alloc _) ⟨w.heap.size, 0, none⟩ 2 2 (cel [92, 102]) rfl rfl ?c1 ?c2 ?c3 ?c4 ?c5 ?c6)
  case c1 => exact cells_put w _
  case c2 => exact cel_one _
  case c3 => unfold maxLen; omega
  case c4 => omega
  case c5 => have := HB.out.le; simp; omega
  case c6 =>
    intro v' w2 hown' hgrow _
    go_wp2
    go_ret
    exact ⟨_, rfl, HB.out.grew rfl hown' hgrow⟩
set_option maxRecDepth 100000 in
set_option maxHeartbeats 1000000 in
theorem appq_13 (B : Nat) (v : Value) (l : List Nat) (w : World) (h : Buf B w v l) (hl : l.length ≤ 100000000000) :
    Calls Try.prog 20 #[v, .int .i32 13] w fun e w' => ∃ v', e = .returned v' ∧ Grew B w w' v' (l ++ [92, 114]) := by
  obtain ⟨i0, hi, hz0, hz1, hz2⟩ := info_parts info_b
  have HB := Lib.hid h
  clear h
  go_enter Try.func20, Try.ntmps20
  go_wp2_with (at_builtin; refine wpList_append_own _ rfl _ _ 26 rfl B 5 i0 (.int .u8 0) 1 1 Try.underlying26 hi hz0 hz1 hz2 rfl (by decide) _ _ _ rfl (HB.out.own.alloc _) ⟨w.heap.size, 0, none⟩ 2 2 (cel [92, 114]) rfl rfl ?c1 ?c2 ?c3 ?c4 ?c5 ?c6)
  case c1 => exact cells_put w _
  case c2 => exact cel_one _
  case c3 => unfold maxLen; omega
  case c4 => omega
  case c5 => have := HB.out.le; simp; omega
  case c6 =>
    intro v' w2 hown' hgrow _
    go_wp2
    go_ret
    exact ⟨_, rfl, HB.out.grew rfl hown' hgrow⟩
set_option maxRecDepth 100000 in
set_option maxHeartbeats 1000000 in
theorem appq_0 (B : Nat) (v : Value) (l : List Nat) (w : World) (h : Buf B w v l) (hl : l.length ≤ 100000000000) :
    Calls Try.prog 20 #[v, .int .i32 0] w fun e w' => ∃ v', e = .returned v' ∧ Grew B w w' v' (l ++ [92, 117, 48, 48, 48, 48]) := by
  have HB := Lib.hid h
  clear h
  go_enter Try.func20, Try.ntmps20
  go_wp2
  go_region_held3 (fun _ => True) (first | trivial) ((refine step_append_mine rfl _ _ rfl B v l rfl (HB.out.own.alloc _) (by have := HB.out.le; simp; omega) (by omega) ⟨w.heap.size, 0, none⟩ [92, 117, 48, 48, 48, 48] 6 rfl (by decide) (cells_put w _) ?_; intro v' w2 hown' hgrow))
  all_goals
    go_wp2
    go_ret
    exact ⟨_, rfl, HB.out.grewD rfl hown' hgrow⟩
set_option maxRecDepth 100000 in
set_option maxHeartbeats 1000000 in
theorem appq_1 (B : Nat) (v : Value) (l : List Nat) (w : World) (h : Buf B w v l) (hl : l.length ≤ 100000000000) :
    Calls Try.prog 20 #[v, .int .i32 1] w fun e w' => ∃ v', e = .returned v' ∧ Grew B w w' v' (l ++ [92, 117, 48, 48, 48, 49]) := by
  have HB := Lib.hid h
  clear h
  go_enter Try.func20, Try.ntmps20
  go_wp2
  go_region_held3 (fun _ => True) (first | trivial) ((refine step_append_mine rfl _ _ rfl B v l rfl (HB.out.own.alloc _) (by have := HB.out.le; simp; omega) (by omega) ⟨w.heap.size, 0, none⟩ [92, 117, 48, 48, 48, 49] 6 rfl (by decide) (cells_put w _) ?_; intro v' w2 hown' hgrow))
  all_goals
    go_wp2
    go_ret
    exact ⟨_, rfl, HB.out.grewD rfl hown' hgrow⟩
set_option maxRecDepth 100000 in
set_option maxHeartbeats 1000000 in
theorem appq_2 (B : Nat) (v : Value) (l : List Nat) (w : World) (h : Buf B w v l) (hl : l.length ≤ 100000000000) :
    Calls Try.prog 20 #[v, .int .i32 2] w fun e w' => ∃ v', e = .returned v' ∧ Grew B w w' v' (l ++ [92, 117, 48, 48, 48, 50]) := by
  have HB := Lib.hid h
  clear h
  go_enter Try.func20, Try.ntmps20
  go_wp2
  go_region_held3 (fun _ => True) (first | trivial) ((refine step_append_mine rfl _ _ rfl B v l rfl (HB.out.own.alloc _) (by have := HB.out.le; simp; omega) (by omega) ⟨w.heap.size, 0, none⟩ [92, 117, 48, 48, 48, 50] 6 rfl (by decide) (cells_put w _) ?_; intro v' w2 hown' hgrow))
  all_goals
    go_wp2
    go_ret
    exact ⟨_, rfl, HB.out.grewD rfl hown' hgrow⟩
set_option maxRecDepth 100000 in
set_option maxHeartbeats 1000000 in
theorem appq_3 (B : Nat) (v : Value) (l : List Nat) (w : World) (h : Buf B w v l) (hl : l.length ≤ 100000000000) :
    Calls Try.prog 20 #[v, .int .i32 3] w fun e w' => ∃ v', e = .returned v' ∧ Grew B w w' v' (l ++ [92, 117, 48, 48, 48, 51]) := by
  have HB := Lib.hid h
  clear h
  go_enter Try.func20, Try.ntmps20
  go_wp2
  go_region_held3 (fun _ => True) (first | trivial) ((refine step_append_mine rfl _ _ rfl B v l rfl (HB.out.own.alloc _) (by have := HB.out.le; simp; omega) (by omega) ⟨w.heap.size, 0, none⟩ [92, 117, 48, 48, 48, 51] 6 rfl (by decide) (cells_put w _) ?_; intro v' w2 hown' hgrow))
  all_goals
    go_wp2
    go_ret
    exact ⟨_, rfl, HB.out.grewD rfl hown' hgrow⟩
set_option maxRecDepth 100000 in
set_option maxHeartbeats 1000000 in
theorem appq_4 (B : Nat) (v : Value) (l : List Nat) (w : World) (h : Buf B w v l) (hl : l.length ≤ 100000000000) :
    Calls Try.prog 20 #[v, .int .i32 4] w fun e w' => ∃ v', e = .returned v' ∧ Grew B w w' v' (l ++ [92, 117, 48, 48, 48, 52]) := by
  have HB := Lib.hid h
  clear h
  go_enter Try.func20, Try.ntmps20
  go_wp2
  go_region_held3 (fun _ => True) (first | trivial) ((refine step_append_mine rfl _ _ rfl B v l rfl (HB.out.own.alloc _) (by have := HB.out.le; simp; omega) (by omega) ⟨w.heap.size, 0, none⟩ [92, 117, 48, 48, 48, 52] 6 rfl (by decide) (cells_put w _) ?_; intro v' w2 hown' hgrow))
  all_goals
    go_wp2
    go_ret
    exact ⟨_, rfl, HB.out.grewD rfl hown' hgrow⟩
set_option maxRecDepth 100000 in
set_option maxHeartbeats 1000000 in
theorem appq_5 (B : Nat) (v : Value) (l : List Nat) (w : World) (h : Buf B w v l) (hl : l.length ≤ 100000000000) :
    Calls Try.prog 20 #[v, .int .i32 5] w fun e w' => ∃ v', e = .returned v' ∧ Grew B w w' v' (l ++ [92, 117, 48, 48, 48, 53]) := by
  have HB := Lib.hid h
  clear h
  go_enter Try.func20, Try.ntmps20
  go_wp2
  go_region_held3 (fun _ => True) (first | trivial) ((refine step_append_mine rfl _ _ rfl B v l rfl (HB.out.own.alloc _) (by have := HB.out.le; simp; omega) (by omega) ⟨w.heap.size, 0, none⟩ [92, 117, 48, 48, 48, 53] 6 rfl (by decide) (cells_put w _) ?_; intro v' w2 hown' hgrow))
  all_goals
    go_wp2
    go_ret
    exact ⟨_, rfl, HB.out.grewD rfl hown' hgrow⟩
set_option maxRecDepth 100000 in
set_option maxHeartbeats 1000000 in
theorem appq_6 (B : Nat) (v : Value) (l : List Nat) (w : World) (h : Buf B w v l) (hl : l.length ≤ 100000000000) :
    Calls Try.prog 20 #[v, .int .i32 6] w fun e w' => ∃ v', e = .returned v' ∧ Grew B w w' v' (l ++ [92, 117, 48, 48, 48, 54]) := by
  have HB := Lib.hid h
  clear h
  go_enter Try.func20, Try.ntmps20
  go_wp2
  go_region_held3 (fun _ => True) (first | trivial) ((refine step_append_mine rfl _ _ rfl B v l rfl (HB.out.own.alloc _) (by have := HB.out.le; simp; omega) (by omega) ⟨w.heap.size, 0, none⟩ [92, 117, 48, 48, 48, 54] 6 rfl (by decide) (cells_put w _) ?_; intro v' w2 hown' hgrow))
  all_goals
    go_wp2
    go_ret
    exact ⟨_, rfl, HB.out.grewD rfl hown' hgrow⟩
set_option maxRecDepth 100000 in
set_option maxHeartbeats 1000000 in
theorem appq_7 (B : Nat) (v : Value) (l : List Nat) (w : World) (h : Buf B w v l) (hl : l.length ≤ 100000000000) :
    Calls Try.prog 20 #[v, .int .i32 7] w fun e w' => ∃ v', e = .returned v' ∧ Grew B w w' v' (l ++ [92, 117, 48, 48, 48, 55]) := by
  have HB := Lib.hid h
  clear h
  go_enter Try.func20, Try.ntmps20
  go_wp2
  go_region_held3 (fun _ => True) (first | trivial) ((refine step_append_mine rfl _ _ rfl B v l rfl (HB.out.own.alloc _) (by have := HB.out.le; simp; omega) (by omega) ⟨w.heap.size, 0, none⟩ [92, 117, 48, 48, 48, 55] 6 rfl (by decide) (cells_put w _) ?_; intro v' w2 hown' hgrow))
  all_goals
    go_wp2
    go_ret
    exact ⟨_, rfl, HB.out.grewD rfl hown' hgrow⟩
set_option maxRecDepth 100000 in
set_option maxHeartbeats 1000000 in
theorem appq_11 (B : Nat) (v : Value) (l : List Nat) (w : World) (h : Buf B w v l) (hl : l.length ≤ 100000000000) :
    Calls Try.prog 20 #[v, .int .i32 11] w fun e w' => ∃ v', e = .returned v' ∧ Grew B w w' v' (l ++ [92, 117, 48, 48, 48, 98]) := by
  have HB := Lib.hid h
  clear h
  go_enter Try.func20, Try.ntmps20
  go_wp2
  go_region_held3 (fun _ => True) (first | trivial) ((refine step_append_mine rfl _ _ rfl B v l rfl (HB.out.own.alloc _) (by have := HB.out.le; simp; omega) (by omega) ⟨w.heap.size, 0, none⟩ [92, 117, 48, 48, 48, 98] 6 rfl (by decide) (cells_put w _) ?_; intro v' w2 hown' hgrow))
  all_goals
    go_wp2
    go_ret
    exact ⟨_, rfl, HB.out.grewD rfl hown' hgrow⟩
set_option maxRecDepth 100000 in
set_option maxHeartbeats 1000000 in
theorem appq_14 (B : Nat) (v : Value) (l : List Nat) (w : World) (h : Buf B w v l) (hl : l.length ≤ 100000000000) :
    Calls Try.prog 20 #[v, .int .i32 14] w fun e w' => ∃ v', e = .returned v' ∧ Grew B w w' v' (l ++ [92, 117, 48, 48, 48, 101]) := by
  have HB := Lib.hid h
  clear h
  go_enter Try.func20, Try.ntmps20
  go_wp2
  go_region_held3 (fun _ => True) (first | trivial) ((refine step_append_mine rfl _ _ rfl B v l rfl (HB.out.own.alloc _) (by have := HB.out.le; simp; omega) (by omega) ⟨w.heap.size, 0, none⟩ [92, 117, 48, 48, 48, 101] 6 rfl (by decide) (cells_put w _) ?_; intro v' w2 hown' hgrow))
  all_goals
    go_wp2
    go_ret
    exact ⟨_, rfl, HB.out.grewD rfl hown' hgrow⟩
set_option maxRecDepth 100000 in
set_option maxHeartbeats 1000000 in
theorem appq_15 (B : Nat) (v : Value) (l : List Nat) (w : World) (h : Buf B w v l) (hl : l.length ≤ 100000000000) :
    Calls Try.prog 20 #[v, .int .i32 15] w fun e w' => ∃ v', e = .returned v' ∧ Grew B w w' v' (l ++ [92, 117, 48, 48, 48, 102]) := by
  have HB := Lib.hid h
  clear h
  go_enter Try.func20, Try.ntmps20
  go_wp2
  go_region_held3 (fun _ => True) (first | trivial) ((refine step_append_mine rfl _ _ rfl B v l rfl (HB.out.own.alloc _) (by have := HB.out.le; simp; omega) (by omega) ⟨w.heap.size, 0, none⟩ [92, 117, 48, 48, 48, 102] 6 rfl (by decide) (cells_put w _) ?_; intro v' w2 hown' hgrow))
  all_goals
    go_wp2
    go_ret
    exact ⟨_, rfl, HB.out.grewD rfl hown' hgrow⟩
set_option maxRecDepth 100000 in
set_option maxHeartbeats 1000000 in
theorem appq_16 (B : Nat) (v : Value) (l : List Nat) (w : World) (h : Buf B w v l) (hl : l.length ≤ 100000000000) :
    Calls Try.prog 20 #[v, .int .i32 16] w fun e w' => ∃ v', e = .returned v' ∧ Grew B w w' v' (l ++ [92, 117, 48, 48, 49, 48]) := by
  have HB := Lib.hid h
  clear h
  go_enter Try.func20, Try.ntmps20
  go_wp2
  go_region_held3 (fun _ => True) (first | trivial) ((refine step_append_mine rfl _ _ rfl B v l rfl (HB.out.own.alloc _) (by have := HB.out.le; simp; omega) (by omega) ⟨w.heap.size, 0, none⟩ [92, 117, 48, 48, 49, 48] 6 rfl (by decide) (cells_put w _) ?_; intro v' w2 hown' hgrow))
  all_goals
    go_wp2
    go_ret
    exact ⟨_, rfl, HB.out.grewD rfl hown' hgrow⟩
set_option maxRecDepth 100000 in
set_option maxHeartbeats 1000000 in
theorem appq_17 (B : Nat) (v : Value) (l : List Nat) (w : World) (h : Buf B w v l) (hl : l.length ≤ 100000000000) :
    Calls Try.prog 20 #[v, .int .i32 17] w fun e w' => ∃ v', e = .returned v' ∧ Grew B w w' v' (l ++ [92, 117, 48, 48, 49, 49]) := by
  have HB := Lib.hid h
  clear h
  go_enter Try.func20, Try.ntmps20
  go_wp2
  go_region_held3 (fun _ => True) (first | trivial) ((refine step_append_mine rfl _ _ rfl B v l rfl (HB.out.own.alloc _) (by have := HB.out.le; simp; omega) (by omega) ⟨w.heap.size, 0, none⟩ [92, 117, 48, 48, 49, 49] 6 rfl (by decide) (cells_put w _) ?_; intro v' w2 hown' hgrow))
  all_goals
    go_wp2
    go_ret
    exact ⟨_, rfl, HB.out.grewD rfl hown' hgrow⟩
set_option maxRecDepth 100000 in
set_option maxHeartbeats 1000000 in
theorem appq_18 (B : Nat) (v : Value) (l : List Nat) (w : World) (h : Buf B w v l) (hl : l.length ≤ 100000000000) :
    Calls Try.prog 20 #[v, .int .i32 18] w fun e w' => ∃ v', e = .returned v' ∧ Grew B w w' v' (l ++ [92, 117, 48, 48, 49, 50]) := by
  have HB := Lib.hid h
  clear h
  go_enter Try.func20, Try.ntmps20
  go_wp2
  go_region_held3 (fun _ => True) (first | trivial) ((refine step_append_mine rfl _ _ rfl B v l rfl (HB.out.own.alloc _) (by have := HB.out.le; simp; omega) (by omega) ⟨w.heap.size, 0, none⟩ [92, 117, 48, 48, 49, 50] 6 rfl (by decide) (cells_put w _) ?_; intro v' w2 hown' hgrow))
  all_goals
    go_wp2
    go_ret
    exact ⟨_, rfl, HB.out.grewD rfl hown' hgrow⟩
set_option maxRecDepth 100000 in
set_option maxHeartbeats 1000000 in
theorem appq_19 (B : Nat) (v : Value) (l : List Nat) (w : World) (h : Buf B w v l) (hl : l.length ≤ 100000000000) :
    Calls Try.prog 20 #[v, .int .i32 19] w fun e w' => ∃ v', e = .returned v' ∧ Grew B w w' v' (l ++ [92, 117, 48, 48, 49, 51]) := by
  have HB := Lib.hid h
  clear h
  go_enter Try.func20, Try.ntmps20
  go_wp2
  go_region_held3 (fun _ => True) (first | trivial) ((refine step_append_mine rfl _ _ rfl B v l rfl (HB.out.own.alloc _) (by have := HB.out.le; simp; omega) (by omega) ⟨w.heap.size, 0, none⟩ [92, 117, 48, 48, 49, 51] 6 rfl (by decide) (cells_put w _) ?_; intro v' w2 hown' hgrow))
  all_goals
    go_wp2
    go_ret
    exact ⟨_, rfl, HB.out.grewD rfl hown' hgrow⟩
set_option maxRecDepth 100000 in
set_option maxHeartbeats 1000000 in
theorem appq_20 (B : Nat) (v : Value) (l : List Nat) (w : World) (h : Buf B w v l) (hl : l.length ≤ 100000000000) :
    Calls Try.prog 20 #[v, .int .i32 20] w fun e w' => ∃ v', e = .returned v' ∧ Grew B w w' v' (l ++ [92, 117, 48, 48, 49, 52]) := by
  have HB := Lib.hid h
  clear h
  go_enter Try.func20, Try.ntmps20
  go_wp2
  go_region_held3 (fun _ => True) (first | trivial) ((refine step_append_mine rfl _ _ rfl B v l rfl (HB.out.own.alloc _) (by have := HB.out.le; simp; omega) (by omega) ⟨w.heap.size, 0, none⟩ [92, 117, 48, 48, 49, 52] 6 rfl (by decide) (cells_put w _) ?_; intro v' w2 hown' hgrow))
  all_goals
    go_wp2
    go_ret
    exact ⟨_, rfl, HB.out.grewD rfl hown' hgrow⟩
set_option maxRecDepth 100000 in
set_option maxHeartbeats 1000000 in
theorem appq_21 (B : Nat) (v : Value) (l : List Nat) (w : World) (h : Buf B w v l) (hl : l.length ≤ 100000000000) :
    Calls Try.prog 20 #[v, .int .i32 21] w fun e w' => ∃ v', e = .returned v' ∧ Grew B w w' v' (l ++ [92, 117, 48, 48, 49, 53]) := by
  have HB := Lib.hid h
  clear h
  go_enter Try.func20, Try.ntmps20
  go_wp2
  go_region_held3 (fun _ => True) (first | trivial) ((refine step_append_mine rfl _ _ rfl B v l rfl (HB.out.own.alloc _) (by have := HB.out.le; simp; omega) (by omega) ⟨w.heap.size, 0, none⟩ [92, 117, 48, 48, 49, 53] 6 rfl (by decide) (cells_put w _) ?_; intro v' w2 hown' hgrow))
  all_goals
    go_wp2
    go_ret
    exact ⟨_, rfl, HB.out.grewD rfl hown' hgrow⟩
set_option maxRecDepth 100000 in
set_option maxHeartbeats 1000000 in
theorem appq_22 (B : Nat) (v : Value) (l : List Nat) (w : World) (h : Buf B w v l) (hl : l.length ≤ 100000000000) :
    Calls Try.prog 20 #[v, .int .i32 22] w fun e w' => ∃ v', e = .returned v' ∧ Grew B w w' v' (l ++ [92, 117, 48, 48, 49, 54]) := by
  have HB := Lib.hid h
  clear h
  go_enter Try.func20, Try.ntmps20
  go_wp2
  go_region_held3 (fun _ => True) (first | trivial) ((refine step_append_mine rfl _ _ rfl B v l rfl (HB.out.own.alloc _) (by have := HB.out.le; simp; omega) (by omega) ⟨w.heap.size, 0, none⟩ [92, 117, 48, 48, 49, 54] 6 rfl (by decide) (cells_put w _) ?_; intro v' w2 hown' hgrow))
  all_goals
    go_wp2
    go_ret
    exact ⟨_, rfl, HB.out.grewD rfl hown' hgrow⟩
set_option maxRecDepth 100000 in
set_option maxHeartbeats 1000000 in
theorem appq_23 (B : Nat) (v : Value) (l : List Nat) (w : World) (h : Buf B w v l) (hl : l.length ≤ 100000000000) :
    Calls Try.prog 20 #[v, .int .i32 23] w fun e w' => ∃ v', e = .returned v' ∧ Grew B w w' v' (l ++ [92, 117, 48, 48, 49, 55]) := by
  have HB := Lib.hid h
  clear h
  go_enter Try.func20, Try.ntmps20
  go_wp2
  go_region_held3 (fun _ => True) (first | trivial) ((refine step_append_mine rfl _ _ rfl B v l rfl (HB.out.own.alloc _) (by have := HB.out.le; simp; omega) (by omega) ⟨w.heap.size, 0, none⟩ [92, 117, 48, 48, 49, 55] 6 rfl (by decide) (cells_put w _) ?_; intro v' w2 hown' hgrow))
  all_goals
    go_wp2
    go_ret
    exact ⟨_, rfl, HB.out.grewD rfl hown' hgrow⟩
set_option maxRecDepth 100000 in
set_option maxHeartbeats 1000000 in
theorem appq_24 (B : Nat) (v : Value) (l : List Nat) (w : World) (h : Buf B w v l) (hl : l.length ≤ 100000000000) :
    Calls Try.prog 20 #[v, .int .i32 24] w fun e w' => ∃ v', e = .returned v' ∧ Grew B w w' v' (l ++ [92, 117, 48, 48, 49, 56]) := by
  have HB := Lib.hid h
  clear h
  go_enter Try.func20, Try.ntmps20
  go_wp2
  go_region_held3 (fun _ => True) (first | trivial) ((refine step_append_mine rfl _ _ rfl B v l rfl (HB.out.own.alloc _) (by have := HB.out.le; simp; omega) (by omega) ⟨w.heap.size, 0, none⟩ [92, 117, 48, 48, 49, 56] 6 rfl (by decide) (cells_put w _) ?_; intro v' w2 hown' hgrow))
  all_goals
    go_wp2
    go_ret
    exact ⟨_, rfl, HB.out.grewD rfl hown' hgrow⟩
set_option maxRecDepth 100000 in
set_option maxHeartbeats 1000000 in
theorem appq_25 (B : Nat) (v : Value) (l : List Nat) (w : World) (h : Buf B w v l) (hl : l.length ≤ 100000000000) :
    Calls Try.prog 20 #[v, .int .i32 25] w fun e w' => ∃ v', e = .returned v' ∧ Grew B w w' v' (l ++ [92, 117, 48, 48, 49, 57]) := by
  have HB := Lib.hid h
  clear h
  go_enter Try.func20, Try.ntmps20
  go_wp2
  go_region_held3 (fun _ => True) (first | trivial) ((refine step_append_mine rfl _ _ rfl B v l rfl (HB.out.own.alloc _) (by have := HB.out.le; simp; omega) (by omega) ⟨w.heap.size, 0, none⟩ [92, 117, 48, 48, 49, 57] 6 rfl (by decide) (cells_put w _) ?_; intro v' w2 hown' hgrow))
  all_goals
    go_wp2
    go_ret
    exact ⟨_, rfl, HB.out.grewD rfl hown' hgrow⟩
set_option maxRecDepth 100000 in
set_option maxHeartbeats 1000000 in
theorem appq_26 (B : Nat) (v : Value) (l : List Nat) (w : World) (h : Buf B w v l) (hl : l.length ≤ 100000000000) :
    Calls Try.prog 20 #[v, .int .i32 26] w fun e w' => ∃ v', e = .returned v' ∧ Grew B w w' v' (l ++ [92, 117, 48, 48, 49, 97]) := by
  have HB := Lib.hid h
  clear h
  go_enter Try.func20, Try.ntmps20
  go_wp2
  go_region_held3 (fun _ => True) (first | trivial) ((refine step_append_mine rfl _ _ rfl B v l rfl (HB.out.own.alloc _) (by have := HB.out.le; simp; omega) (by omega) ⟨w.heap.size, 0, none⟩ [92, 117, 48, 48, 49, 97] 6 rfl (by decide) (cells_put w _) ?_; intro v' w2 hown' hgrow))
  all_goals
    go_wp2
    go_ret
    exact ⟨_, rfl, HB.out.grewD rfl hown' hgrow⟩
set_option maxRecDepth 100000 in
set_option maxHeartbeats 1000000 in
theorem appq_27 (B : Nat) (v : Value) (l : List Nat) (w : World) (h : Buf B w v l) (hl : l.length ≤ 100000000000) :
    Calls Try.prog 20 #[v, .int .i32 27] w fun e w' => ∃ v', e = .returned v' ∧ Grew B w w' v' (l ++ [92, 117, 48, 48, 49, 98]) := by
  have HB := Lib.hid h
  clear h
  go_enter Try.func20, Try.ntmps20
  go_wp2
  go_region_held3 (fun _ => True) (first | trivial) ((refine step_append_mine rfl _ _ rfl B v l rfl (HB.out.own.alloc _) (by have := HB.out.le; simp; omega) (by omega) ⟨w.heap.size, 0, none⟩ [92, 117, 48, 48, 49, 98] 6 rfl (by decide) (cells_put w _) ?_; intro v' w2 hown' hgrow))
  all_goals
    go_wp2
    go_ret
    exact ⟨_, rfl, HB.out.grewD rfl hown' hgrow⟩
set_option maxRecDepth 100000 in
set_option maxHeartbeats 1000000 in
theorem appq_28 (B : Nat) (v : Value) (l : List Nat) (w : World) (h : Buf B w v l) (hl : l.length ≤ 100000000000) :
    Calls Try.prog 20 #[v, .int .i32 28] w fun e w' => ∃ v', e = .returned v' ∧ Grew B w w' v' (l ++ [92, 117, 48, 48, 49, 99]) := by
  have HB := Lib.hid h
  clear h
  go_enter Try.func20, Try.ntmps20
  go_wp2
  go_region_held3 (fun _ => True) (first | trivial) ((refine step_append_mine rfl _ _ rfl B v l rfl (HB.out.own.alloc _) (by have := HB.out.le; simp; omega) (by omega) ⟨w.heap.size, 0, none⟩ [92, 117, 48, 48, 49, 99] 6 rfl (by decide) (cells_put w _) ?_; intro v' w2 hown' hgrow))
  all_goals
    go_wp2
    go_ret
    exact ⟨_, rfl, HB.out.grewD rfl hown' hgrow⟩
set_option maxRecDepth 100000 in
set_option maxHeartbeats 1000000 in
theorem appq_29 (B : Nat) (v : Value) (l : List Nat) (w : World) (h : Buf B w v l) (hl : l.length ≤ 100000000000) :
    Calls Try.prog 20 #[v, .int .i32 29] w fun e w' => ∃ v', e = .returned v' ∧ Grew B w w' v' (l ++ [92, 117, 48, 48, 49, 100]) := by
  have HB := Lib.hid h
  clear h
  go_enter Try.func20, Try.ntmps20
  go_wp2
  go_region_held3 (fun _ => True) (first | trivial) ((refine step_append_mine rfl _ _ rfl B v l rfl (HB.out.own.alloc _) (by have := HB.out.le; simp; omega) (by omega) ⟨w.heap.size, 0, none⟩ [92, 117, 48, 48, 49, 100] 6 rfl (by decide) (cells_put w _) ?_; intro v' w2 hown' hgrow))
  all_goals
    go_wp2
    go_ret
    exact ⟨_, rfl, HB.out.grewD rfl hown' hgrow⟩
set_option maxRecDepth 100000 in
set_option maxHeartbeats 1000000 in
theorem appq_30 (B : Nat) (v : Value) (l : List Nat) (w : World) (h : Buf B w v l) (hl : l.length ≤ 100000000000) :
    Calls Try.prog 20 #[v, .int .i32 30] w fun e w' => ∃ v', e = .returned v' ∧ Grew B w w' v' (l ++ [92, 117, 48, 48, 49, 101]) := by
  have HB := Lib.hid h
  clear h
  go_enter Try.func20, Try.ntmps20
  go_wp2
  go_region_held3 (fun _ => True) (first | trivial) ((refine step_append_mine rfl _ _ rfl B v l rfl (HB.out.own.alloc _) (by have := HB.out.le; simp; omega) (by omega) ⟨w.heap.size, 0, none⟩ [92, 117, 48, 48, 49, 101] 6 rfl (by decide) (cells_put w _) ?_; intro v' w2 hown' hgrow))
  all_goals
    go_wp2
    go_ret
    exact ⟨_, rfl, HB.out.grewD rfl hown' hgrow⟩
set_option maxRecDepth 100000 in
set_option maxHeartbeats 1000000 in
theorem appq_31 (B : Nat) (v : Value) (l : List Nat) (w : World) (h : Buf B w v l) (hl : l.length ≤ 100000000000) :
    Calls Try.prog 20 #[v, .int .i32 31] w fun e w' => ∃ v', e = .returned v' ∧ Grew B w w' v' (l ++ [92, 117, 48, 48, 49, 102]) := by
  have HB := Lib.hid h
  clear h
  go_enter Try.func20, Try.ntmps20
  go_wp2
  go_region_held3 (fun _ => True) (first | trivial) ((refine step_append_mine rfl _ _ rfl B v l rfl (HB.out.own.alloc _) (by have := HB.out.le; simp; omega) (by omega) ⟨w.heap.size, 0, none⟩ [92, 117, 48, 48, 49, 102] 6 rfl (by decide) (cells_put w _) ?_; intro v' w2 hown' hgrow))
  all_goals
    go_wp2
    go_ret
    exact ⟨_, rfl, HB.out.grewD rfl hown' hgrow⟩
end Ut
end Go.Proofs.Ytbolnciofcmoaaa
