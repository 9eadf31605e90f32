/- JvalSimple answers true for every kind, number and text. -/
import Derived.Test.YtbfmgjgdpbffdaaJvLives
import Derived.Test.YtbfmgjgdpbffdaaJvSx
import Derived.Deep.DeepCutAuto
namespace Go.Proofs.Ytbfmgjgdpbffdaa
open Go.RowKit
namespace Jv
open _root_.Go.Proofs.Ytbfmgjgdpbffdaa.Nm
set_option maxRecDepth 100000 in
theorem list_v (v : Value) (w : World) (hv : ∃ a n c, v = .slice a n c) :
    Calls Try.prog 17 #[v] w fun e w' => e = .returned (.agg #[.int .i64 5, .int .i64 0, .int .i64 0, .string ⟨#[]⟩, v, .slice none 0 0]) ∧ Below w.heap.size w w' := by
  obtain ⟨a, n, c, rfl⟩ := hv
  go_enter Try.func17, Try.ntmps17
  go_wp2
  simp [bodyPost, results, Try.results17, go_sem]
  exact bA1 _ _
theorem VT.S (w : World) (s : ByteArray) (h : s.size ≤ maxLen) : VT w 1 ⟨4, 0, 0, s, .slice none 0 0, .slice none 0 0⟩ (.mk 4 0 0 s [] []) :=
  ⟨rfl, rfl, rfl, rfl, Ks.nil0 w, ⟨by show (-9223372036854775808 : Int) ≤ 4 ∧ (4 : Int) < _; decide, by show (-9223372036854775808 : Int) ≤ 0 ∧ (0 : Int) < _; decide, by show (-9223372036854775808 : Int) ≤ 0 ∧ (0 : Int) < _; decide, h, fun x hx => by simp [JV.keys] at hx⟩, [], Vs.nil0 w, rfl, fun j y z h => by simp at h⟩
theorem kname_out {k : Int} (h : ¬ (0 ≤ k ∧ k < 8)) : kname k = ⟨#[]⟩ := by
  unfold kname
  repeat' split
  all_goals (first | rfl | (exfalso; omega))
/-- is a number held? -/
def heldB (n : Int) : Bool := decide (-1000000000000000 < n ∧ n < 1000000000000000)
theorem intV_is (n : Int) : ∃ K C ST, intV n = .agg #[.int .i64 K, .int .i64 C, .int .i64 0, .string ST, .slice none 0 0, .slice none 0 0] ∧ ((heldB n = true ∧ K = 3 ∧ C = n) ∨ (heldB n = false ∧ K = 7 ∧ ST = (⟨#[110, 117, 109, 98, 101, 114]⟩ : ByteArray))) := by
  unfold intV heldB
  by_cases h : -1000000000000000 < n ∧ n < 1000000000000000
  · rw [if_pos h]
    exact ⟨3, n, ⟨#[]⟩, rfl, Or.inl ⟨decide_eq_true h, rfl, rfl⟩⟩
  · rw [if_neg h]
    exact ⟨7, 0, _, rfl, Or.inr ⟨decide_eq_false h, rfl, rfl⟩⟩

set_option maxRecDepth 100000 in
set_option maxHeartbeats 16000000 in
theorem simple_any (kind n : Int) (s : ByteArray) (w : World) (h0 : -9223372036854775808 ≤ n) (h1 : n < 9223372036854775808) (hs : s.size ≤ maxLen) :
    Calls Try.prog 4 #[.int .i64 kind, .int .i64 n, .string s] w fun e w' => e = .returned (.bool true) ∧ Below w.heap.size w w' := by
  have hint := fun w => int_v n w h0 h1
  have htext := fun w => text_v s w
  have hwrong := fun w => wrong_v s w
  have htr1 := fun w => truth_v true w
  have htr0 := fun w => truth_v false w
  have hlist0 := fun w => list_v (.slice none 0 0) w ⟨_, _, _, rfl⟩
  have hsame : ∀ w, Calls Try.prog 13 #[.agg #[.int .i64 4, .int .i64 0, .int .i64 0, .string s, .slice none 0 0, .slice none 0 0], .agg #[.int .i64 4, .int .i64 0, .int .i64 0, .string s, .slice none 0 0, .slice none 0 0]] w fun e w' => e = .returned (.bool true) ∧ Below w.heap.size w w' := fun w => by
    have := rsame_any 1 1 _ _ _ _ w (VT.S w s hs) (VT.S w s hs)
    rw [sameB_refl] at this
    exact this
  unfold vV at htext hwrong htr1 htr0
  simp only [if_true, Bool.false_eq_true, if_false] at htr1 htr0
  obtain ⟨K, C, ST, hX, hK⟩ := intV_is n
  rw [hX] at hint
  obtain ⟨hb, hhb⟩ : ∃ b, heldB n = b := ⟨_, rfl⟩
  have HHB := Lib.hid hhb
  rw [hhb] at hK
  have HK := Lib.hid hK
  clear hK hX hhb
  have hss := str_same s
  have hkk := str_same (kname kind)
  go_enter Try.func4, Try.ntmps4
  go_upto_region 3 with (fail)
  go_cut [20] (fun t wx => wx = (w.alloc (Obj.cells #[.string ⟨#[110, 117, 108, 108]⟩, .string ⟨#[98, 111, 111, 108, 101, 97, 110]⟩, .string ⟨#[98, 111, 111, 108, 101, 97, 110]⟩, .string ⟨#[110, 117, 109, 98, 101, 114]⟩, .string ⟨#[115, 116, 114, 105, 110, 103]⟩, .string ⟨#[97, 114, 114, 97, 121]⟩, .string ⟨#[111, 98, 106, 101, 99, 116]⟩, .string ⟨#[101, 114, 114, 111, 114]⟩] 9)) ∧ t = .bool (decide (0 ≤ kind ∧ kind < 8)))
  case first =>
    by_cases q0 : 0 ≤ kind
    · by_cases q1 : kind < 8
      · go_wp2
        go_meet
        exact ⟨rfl, congrArg Value.bool (by simp [q0, q1])⟩
      · go_wp2
        go_meet
        exact ⟨rfl, congrArg Value.bool (by simp [q0, q1])⟩
    · go_wp2
      go_meet
      exact ⟨rfl, congrArg Value.bool (by simp; omega)⟩
  case rest =>
  obtain ⟨rfl, rfl⟩ := hcut
  go_upto_if 20 with (fail)
  go_cut [8] (fun t wx => wx = (w.alloc (Obj.cells #[.string ⟨#[110, 117, 108, 108]⟩, .string ⟨#[98, 111, 111, 108, 101, 97, 110]⟩, .string ⟨#[98, 111, 111, 108, 101, 97, 110]⟩, .string ⟨#[110, 117, 109, 98, 101, 114]⟩, .string ⟨#[115, 116, 114, 105, 110, 103]⟩, .string ⟨#[97, 114, 114, 97, 121]⟩, .string ⟨#[111, 98, 106, 101, 99, 116]⟩, .string ⟨#[101, 114, 114, 111, 114]⟩] 9)) ∧ t = .string (kname kind))
  case first =>
    have hrow := heap_alloc_new w (Obj.cells #[.string ⟨#[110, 117, 108, 108]⟩, .string ⟨#[98, 111, 111, 108, 101, 97, 110]⟩, .string ⟨#[98, 111, 111, 108, 101, 97, 110]⟩, .string ⟨#[110, 117, 109, 98, 101, 114]⟩, .string ⟨#[115, 116, 114, 105, 110, 103]⟩, .string ⟨#[97, 114, 114, 97, 121]⟩, .string ⟨#[111, 98, 106, 101, 99, 116]⟩, .string ⟨#[101, 114, 114, 111, 114]⟩] 9)
    by_cases q : 0 ≤ kind ∧ kind < 8
    · rw [decide_eq_true q]
      obtain ⟨q0, q1⟩ := q
      obtain ⟨j, rfl⟩ : ∃ j : Nat, kind = j := ⟨kind.toNat, by omega⟩
      have hcell : (w.alloc (Obj.cells #[.string ⟨#[110, 117, 108, 108]⟩, .string ⟨#[98, 111, 111, 108, 101, 97, 110]⟩, .string ⟨#[98, 111, 111, 108, 101, 97, 110]⟩, .string ⟨#[110, 117, 109, 98, 101, 114]⟩, .string ⟨#[115, 116, 114, 105, 110, 103]⟩, .string ⟨#[97, 114, 114, 97, 121]⟩, .string ⟨#[111, 98, 106, 101, 99, 116]⟩, .string ⟨#[101, 114, 114, 111, 114]⟩] 9)).cell? ⟨w.heap.size, j, none⟩ = some (.string (kname j)) := by
        rw [cell_of_row _ w.heap.size j _ _ _ hrow]
        obtain rfl | rfl | rfl | rfl | rfl | rfl | rfl | rfl : j = 0 ∨ j = 1 ∨ j = 2 ∨ j = 3 ∨ j = 4 ∨ j = 5 ∨ j = 6 ∨ j = 7 := by omega
        all_goals rfl
      have hcell2 : (w.alloc (Obj.cells #[.string ⟨#[110, 117, 108, 108]⟩, .string ⟨#[98, 111, 111, 108, 101, 97, 110]⟩, .string ⟨#[98, 111, 111, 108, 101, 97, 110]⟩, .string ⟨#[110, 117, 109, 98, 101, 114]⟩, .string ⟨#[115, 116, 114, 105, 110, 103]⟩, .string ⟨#[97, 114, 114, 97, 121]⟩, .string ⟨#[111, 98, 106, 101, 99, 116]⟩, .string ⟨#[101, 114, 114, 111, 114]⟩] 9)).cell? ⟨w.heap.size, 0 + j, none⟩ = some (.string (kname j)) := by rw [Nat.zero_add]; exact hcell
      clear hrow hint
      go_wp2
      go_meet
      exact ⟨rfl, rfl⟩
    · rw [decide_eq_false q]
      clear hrow hint
      go_wp2
      go_meet
      exact ⟨rfl, by rw [kname_out q]⟩
  case rest =>
  obtain ⟨rfl, rfl⟩ := hcut
  go_upto_region 6 with (go_at_call 14; refine (hint _).mono ?_; rintro e w1 ⟨rfl, b1⟩)
  have HX := Lib.hid (Vb.new w1 #[.int .i64 K, .int .i64 C, .int .i64 0, .string ST, .slice none 0 0, .slice none 0 0])
  have HB1 := Lib.hid (bT (bT (bA1 w _) b1) (bA1 w1 (Obj.cells #[.int .i64 K, .int .i64 C, .int .i64 0, .string ST, .slice none 0 0, .slice none 0 0] 27)))
  obtain ⟨kx, hkx⟩ : ∃ k, w1.heap.size = k := ⟨_, rfl⟩
  obtain ⟨wy, hwy⟩ : ∃ wy, (w1.alloc (Obj.cells #[.int .i64 K, .int .i64 C, .int .i64 0, .string ST, .slice none 0 0, .slice none 0 0] 27)) = wy := ⟨_, rfl⟩
  rw [hwy, hkx]
  rw [hwy, hkx] at HX
  rw [hwy] at HB1
  clear hwy hkx b1 hint
  go_cut [10] (fun t wx => wy = wx ∧ t = .bool hb)
  case first =>
    by_cases q0 : n < 1000000000000000
    · by_cases q1 : -1000000000000000 < n
      · have HV : Hid (hb = true) := Lib.hid (by rw [← HHB.out]; exact decide_eq_true ⟨q1, q0⟩)
        go_wp2
        go_meet
        exact ⟨rfl, by rw [HV.out]⟩
      · have HV : Hid (hb = false) := Lib.hid (by rw [← HHB.out]; exact decide_eq_false (fun h => q1 h.1))
        go_wp2
        go_meet
        exact ⟨rfl, by rw [HV.out]⟩
    · have HV : Hid (hb = false) := Lib.hid (by rw [← HHB.out]; exact decide_eq_false (fun h => q0 h.2))
      go_wp2
      go_meet
      exact ⟨rfl, by rw [HV.out]⟩
  case rest =>
  obtain ⟨rfl, rfl⟩ := hcut
  obtain ⟨x0, x1, x2, x3, x4, x5⟩ := HX.out.six
  go_upto_region 7 with (fail)
  go_cut [59] (fun t wx => wy = wx ∧ t = .bool false)
  case first =>
    rcases HK.out with ⟨rfl, rfl, rfl⟩ | ⟨rfl, rfl, rfl⟩
    · have hne := run_eqN C 0 C 0
      simp only [beq_self_eq_true, Bool.and_self] at hne
      go_wp2
      go_meet
      exact ⟨rfl, rfl⟩
    · have hnn := str_same (⟨#[110, 117, 109, 98, 101, 114]⟩ : ByteArray)
      go_wp2
      go_meet
      exact ⟨rfl, rfl⟩
  case rest =>
  obtain ⟨rfl, rfl⟩ := hcut
  clear x0 x1 x2 x3 x4 x5
  go_upto_region 10 with (first | (go_at_call 16; refine (hwrong _).mono ?_; rintro e w3 ⟨rfl, b3⟩) | (go_at_call 15; refine (htext _).mono ?_; rintro e w2 ⟨rfl, b2⟩))
  have HB3 := bT (bT HB1.out b2) b3
  have HV := Lib.hid (And.intro ((HX.out.on (bT b2 b3)).on (bA2 w3 (Obj.cells #[.int .i64 4, .int .i64 0, .int .i64 0, .string s, .slice none 0 0, .slice none 0 0] 27) (Obj.cells #[.int .i64 7, .int .i64 0, .int .i64 0, .string s, .slice none 0 0, .slice none 0 0] 27))) (And.intro ((Vb.new w3 #[.int .i64 4, .int .i64 0, .int .i64 0, .string s, .slice none 0 0, .slice none 0 0]).alloc (Obj.cells #[.int .i64 7, .int .i64 0, .int .i64 0, .string s, .slice none 0 0, .slice none 0 0] 27)) (show Vb ((w3.alloc (Obj.cells #[.int .i64 4, .int .i64 0, .int .i64 0, .string s, .slice none 0 0, .slice none 0 0] 27)).alloc (Obj.cells #[.int .i64 7, .int .i64 0, .int .i64 0, .string s, .slice none 0 0, .slice none 0 0] 27)) (w3.heap.size + 1) #[.int .i64 7, .int .i64 0, .int .i64 0, .string s, .slice none 0 0, .slice none 0 0] by simpa using Vb.new (w3.alloc (Obj.cells #[.int .i64 4, .int .i64 0, .int .i64 0, .string s, .slice none 0 0, .slice none 0 0] 27)) #[.int .i64 7, .int .i64 0, .int .i64 0, .string s, .slice none 0 0, .slice none 0 0])))
  have HB := Lib.hid (bT HB3 (bA2 w3 (Obj.cells #[.int .i64 4, .int .i64 0, .int .i64 0, .string s, .slice none 0 0, .slice none 0 0] 27) (Obj.cells #[.int .i64 7, .int .i64 0, .int .i64 0, .string s, .slice none 0 0, .slice none 0 0] 27)))
  obtain ⟨kt, hkt⟩ : ∃ k, w3.heap.size = k := ⟨_, rfl⟩
  obtain ⟨wz, hwz⟩ : ∃ wz, ((w3.alloc (Obj.cells #[.int .i64 4, .int .i64 0, .int .i64 0, .string s, .slice none 0 0, .slice none 0 0] 27)).alloc (Obj.cells #[.int .i64 7, .int .i64 0, .int .i64 0, .string s, .slice none 0 0, .slice none 0 0] 27)) = wz := ⟨_, rfl⟩
  rw [hwz, hkt]
  rw [hwz, hkt] at HV
  rw [hwz] at HB
  clear HB3 b2 b3 HB1 hwz htext hwrong hkt HX HK HHB
  obtain ⟨x0, x1, x2, x3, x4, x5⟩ := HV.out.1.six
  obtain ⟨t0, t1, t2, t3, t4, t5⟩ := HV.out.2.1.six
  have HGN := Lib.hid (heap_alloc_new wz (Obj.cells #[.int .i64 K, .int .i64 C, .int .i64 0, .string ST, .slice none 0 0, .slice none 0 0, .int .i64 4, .int .i64 0, .int .i64 0, .string s, .slice none 0 0, .slice none 0 0] 27))
  go_upto_region 11 with (go_at_call 17; refine (list_v _ _ ⟨_, _, _, rfl⟩).mono ?_; rintro e w4 ⟨rfl, b4⟩)
  have hg4 : wz.heap.size < w4.heap.size := (by have := b4.size; simp at this; omega)
  have HV4 := Lib.hid (And.intro (((HV.out.2.1.alloc (Obj.cells #[.int .i64 K, .int .i64 C, .int .i64 0, .string ST, .slice none 0 0, .slice none 0 0, .int .i64 4, .int .i64 0, .int .i64 0, .string s, .slice none 0 0, .slice none 0 0] 27)).on b4).alloc (Obj.cells #[.int .i64 5, .int .i64 0, .int .i64 0, .string ⟨#[]⟩, .slice (some ⟨wz.heap.size, 0, none⟩) 2 2, .slice none 0 0] 27)) (And.intro (((HV.out.2.2.alloc (Obj.cells #[.int .i64 K, .int .i64 C, .int .i64 0, .string ST, .slice none 0 0, .slice none 0 0, .int .i64 4, .int .i64 0, .int .i64 0, .string s, .slice none 0 0, .slice none 0 0] 27)).on b4).alloc (Obj.cells #[.int .i64 5, .int .i64 0, .int .i64 0, .string ⟨#[]⟩, .slice (some ⟨wz.heap.size, 0, none⟩) 2 2, .slice none 0 0] 27)) (Vb.new w4 #[.int .i64 5, .int .i64 0, .int .i64 0, .string ⟨#[]⟩, .slice (some ⟨wz.heap.size, 0, none⟩) 2 2, .slice none 0 0])))
  have HG4 := Lib.hid (((bA1 w4 (Obj.cells #[.int .i64 5, .int .i64 0, .int .i64 0, .string ⟨#[]⟩, .slice (some ⟨wz.heap.size, 0, none⟩) 2 2, .slice none 0 0] 27)).block wz.heap.size hg4).trans ((b4.block wz.heap.size (by simp)).trans HGN.out))
  have HB4 := Lib.hid (bT (bT (bT HB.out (bA1 _ _)) b4) (bA1 w4 (Obj.cells #[.int .i64 5, .int .i64 0, .int .i64 0, .string ⟨#[]⟩, .slice (some ⟨wz.heap.size, 0, none⟩) 2 2, .slice none 0 0] 27)))
  clear x0 x1 x2 x3 x4 x5 t0 t1 t2 t3 t4 t5 HGN HV HB b4 hg4
  have hS1 : Sx w.heap.size w [(⟨kt, 0, none⟩, (.int .i64 4)), (⟨kt, 1, none⟩, (.int .i64 0)), (⟨kt, 2, none⟩, (.int .i64 0)), (⟨kt, 3, none⟩, (.string s)), (⟨kt, 4, none⟩, (.slice none 0 0)), (⟨kt, 5, none⟩, (.slice none 0 0)), (⟨kt + 1, 0, none⟩, (.int .i64 7)), (⟨kt + 1, 3, none⟩, (.string s)), (⟨w4.heap.size, 0, none⟩, (.int .i64 5)), (⟨w4.heap.size, 4, none⟩, (.slice (some ⟨wz.heap.size, 0, none⟩) 2 2)), (⟨wz.heap.size, 6, none⟩, (.int .i64 4)), (⟨wz.heap.size, 7, none⟩, (.int .i64 0)), (⟨wz.heap.size, 8, none⟩, (.int .i64 0)), (⟨wz.heap.size, 9, none⟩, (.string s)), (⟨wz.heap.size, 10, none⟩, (.slice none 0 0)), (⟨wz.heap.size, 11, none⟩, (.slice none 0 0))] (w4.alloc (Obj.cells #[.int .i64 5, .int .i64 0, .int .i64 0, .string ⟨#[]⟩, .slice (some ⟨wz.heap.size, 0, none⟩) 2 2, .slice none 0 0] 27)) := by
    refine ⟨HB4.out, ?_⟩
    intro t ht
    simp only [List.mem_cons, List.not_mem_nil, or_false] at ht
    rcases ht with rfl | rfl | rfl | rfl | rfl | rfl | rfl | rfl | rfl | rfl | rfl | rfl | rfl | rfl | rfl | rfl
    · exact Sx.mk (HV4.out.1.cell 0)
    · exact Sx.mk (HV4.out.1.cell 1)
    · exact Sx.mk (HV4.out.1.cell 2)
    · exact Sx.mk (HV4.out.1.cell 3)
    · exact Sx.mk (HV4.out.1.cell 4)
    · exact Sx.mk (HV4.out.1.cell 5)
    · exact Sx.mk (HV4.out.2.1.cell 0)
    · exact Sx.mk (HV4.out.2.1.cell 3)
    · exact Sx.mk (HV4.out.2.2.cell 0)
    · exact Sx.mk (HV4.out.2.2.cell 4)
    · exact Sx.mk (cell_of_row _ wz.heap.size 6 _ _ _ HG4.out)
    · exact Sx.mk (cell_of_row _ wz.heap.size 7 _ _ _ HG4.out)
    · exact Sx.mk (cell_of_row _ wz.heap.size 8 _ _ _ HG4.out)
    · exact Sx.mk (cell_of_row _ wz.heap.size 9 _ _ _ HG4.out)
    · exact Sx.mk (cell_of_row _ wz.heap.size 10 _ _ _ HG4.out)
    · exact Sx.mk (cell_of_row _ wz.heap.size 11 _ _ _ HG4.out)
  obtain ⟨fx1, hfx1⟩ : ∃ fx : List (Addr × Value), [(⟨kt, 0, none⟩, (.int .i64 4)), (⟨kt, 1, none⟩, (.int .i64 0)), (⟨kt, 2, none⟩, (.int .i64 0)), (⟨kt, 3, none⟩, (.string s)), (⟨kt, 4, none⟩, (.slice none 0 0)), (⟨kt, 5, none⟩, (.slice none 0 0)), (⟨kt + 1, 0, none⟩, (.int .i64 7)), (⟨kt + 1, 3, none⟩, (.string s)), (⟨w4.heap.size, 0, none⟩, (.int .i64 5)), (⟨w4.heap.size, 4, none⟩, (.slice (some ⟨wz.heap.size, 0, none⟩) 2 2)), (⟨wz.heap.size, 6, none⟩, (.int .i64 4)), (⟨wz.heap.size, 7, none⟩, (.int .i64 0)), (⟨wz.heap.size, 8, none⟩, (.int .i64 0)), (⟨wz.heap.size, 9, none⟩, (.string s)), (⟨wz.heap.size, 10, none⟩, (.slice none 0 0)), (⟨wz.heap.size, 11, none⟩, (.slice none 0 0))] = fx := ⟨_, rfl⟩
  rw [hfx1] at hS1
  have u1_0 := Sx.get (B := w.heap.size) (o := w) (fx := fx1) (p := ⟨kt, 0, none⟩) (v := (.int .i64 4)) (by subst hfx1; simp)
  have u1_1 := Sx.get (B := w.heap.size) (o := w) (fx := fx1) (p := ⟨kt, 1, none⟩) (v := (.int .i64 0)) (by subst hfx1; simp)
  have u1_2 := Sx.get (B := w.heap.size) (o := w) (fx := fx1) (p := ⟨kt, 2, none⟩) (v := (.int .i64 0)) (by subst hfx1; simp)
  have u1_3 := Sx.get (B := w.heap.size) (o := w) (fx := fx1) (p := ⟨kt, 3, none⟩) (v := (.string s)) (by subst hfx1; simp)
  have u1_4 := Sx.get (B := w.heap.size) (o := w) (fx := fx1) (p := ⟨kt, 4, none⟩) (v := (.slice none 0 0)) (by subst hfx1; simp)
  have u1_5 := Sx.get (B := w.heap.size) (o := w) (fx := fx1) (p := ⟨kt, 5, none⟩) (v := (.slice none 0 0)) (by subst hfx1; simp)
  have u1_6 := Sx.get (B := w.heap.size) (o := w) (fx := fx1) (p := ⟨kt + 1, 0, none⟩) (v := (.int .i64 7)) (by subst hfx1; simp)
  have u1_7 := Sx.get (B := w.heap.size) (o := w) (fx := fx1) (p := ⟨kt + 1, 3, none⟩) (v := (.string s)) (by subst hfx1; simp)
  have u1_8 := Sx.get (B := w.heap.size) (o := w) (fx := fx1) (p := ⟨w4.heap.size, 0, none⟩) (v := (.int .i64 5)) (by subst hfx1; simp)
  have u1_9 := Sx.get (B := w.heap.size) (o := w) (fx := fx1) (p := ⟨w4.heap.size, 4, none⟩) (v := (.slice (some ⟨wz.heap.size, 0, none⟩) 2 2)) (by subst hfx1; simp)
  have u1_10 := Sx.get (B := w.heap.size) (o := w) (fx := fx1) (p := ⟨wz.heap.size, 6, none⟩) (v := (.int .i64 4)) (by subst hfx1; simp)
  have u1_11 := Sx.get (B := w.heap.size) (o := w) (fx := fx1) (p := ⟨wz.heap.size, 7, none⟩) (v := (.int .i64 0)) (by subst hfx1; simp)
  have u1_12 := Sx.get (B := w.heap.size) (o := w) (fx := fx1) (p := ⟨wz.heap.size, 8, none⟩) (v := (.int .i64 0)) (by subst hfx1; simp)
  have u1_13 := Sx.get (B := w.heap.size) (o := w) (fx := fx1) (p := ⟨wz.heap.size, 9, none⟩) (v := (.string s)) (by subst hfx1; simp)
  have u1_14 := Sx.get (B := w.heap.size) (o := w) (fx := fx1) (p := ⟨wz.heap.size, 10, none⟩) (v := (.slice none 0 0)) (by subst hfx1; simp)
  have u1_15 := Sx.get (B := w.heap.size) (o := w) (fx := fx1) (p := ⟨wz.heap.size, 11, none⟩) (v := (.slice none 0 0)) (by subst hfx1; simp)
  clear hfx1
  have HS1 := Lib.hid hS1
  clear hS1
  clear HV4 HG4 HB4
  refine wp_region_held_drew (S := Sx w.heap.size w fx1) (by kernel_rfl) HS1.out.drew (fun hHeld => ?_)
  refine take_put (i := 0) (d := 68) (oi := _) (v := ?v0) rfl rfl (by kernel_rfl) (by kernel_rfl) (by kernel_rfl) (fun _ _ _ h => h) (Or.inl ⟨by rfl, ?y0⟩) hHeld ?r0
  case y0 => (intro w hSw; (try dsimp only at hSw); go_simp; try with_reducible rfl)
  simp only [Act.put, List.setIfInBounds_toArray, List.set_cons_zero, List.set_cons_succ]
  refine take_put (i := 2) (d := 70) (oi := _) (v := ?v2) rfl rfl (by kernel_rfl) (by kernel_rfl) (by kernel_rfl) (fun _ _ _ h => h) (Or.inl ⟨by rfl, ?y2⟩) hHeld ?r2
  case y2 => (intro w hSw; (try dsimp only at hSw); go_simp; try with_reducible rfl)
  simp only [Act.put, List.setIfInBounds_toArray, List.set_cons_zero, List.set_cons_succ]
  refine wpAnyH_ready (rs := [1]) (by kernel_rfl) (by simp) (AllReadyH.cons (o := _) rfl (fun K hK => ?_) AllReadyH.nil)
  go_simp
  refine (name_v kind _).mono ?_
  rintro e _ ⟨rfl, rfl⟩
  (try dsimp only)
  refine hK.out _ _ hHeld (fun hHeld => ?_)
  clear hK K
  refine take_put (i := 3) (d := 71) (oi := _) (v := ?v3) rfl rfl (by kernel_rfl) (by kernel_rfl) (by kernel_rfl) (fun _ _ _ h => h) (Or.inl ⟨by rfl, ?y3⟩) hHeld ?r3
  case y3 => (intro w hSw; (try dsimp only at hSw); go_simp; try with_reducible rfl)
  simp only [Act.put, List.setIfInBounds_toArray, List.set_cons_zero, List.set_cons_succ]
  refine take_put (i := 4) (d := 72) (oi := _) (v := ?v4) rfl rfl (by kernel_rfl) (by kernel_rfl) (by kernel_rfl) (fun _ _ _ h => h) (Or.inl ⟨by rfl, ?y4⟩) hHeld ?r4
  case y4 => (intro w hSw; (try dsimp only at hSw); go_simp; try with_reducible rfl)
  simp only [Act.put, List.setIfInBounds_toArray, List.set_cons_zero, List.set_cons_succ]
  refine take_put (i := 5) (d := 73) (oi := _) (v := ?v5) rfl rfl (by kernel_rfl) (by kernel_rfl) (by kernel_rfl) (fun _ _ _ h => h) (Or.inl ⟨by rfl, ?y5⟩) hHeld ?r5
  case y5 => (intro w hSw; (try dsimp only at hSw); go_simp; try with_reducible rfl)
  simp only [Act.put, List.setIfInBounds_toArray, List.set_cons_zero, List.set_cons_succ]
  refine take_put (i := 6) (d := 74) (oi := _) (v := ?v6) rfl rfl (by kernel_rfl) (by kernel_rfl) (by kernel_rfl) (fun _ _ _ h => h) (Or.inl ⟨by rfl, ?y6⟩) hHeld ?r6
  case y6 => (intro w hSw; (try dsimp only at hSw); go_simp; try with_reducible rfl)
  simp only [Act.put, List.setIfInBounds_toArray, List.set_cons_zero, List.set_cons_succ]
  refine take_put (i := 7) (d := 75) (oi := _) (v := ?v7) rfl rfl (by kernel_rfl) (by kernel_rfl) (by kernel_rfl) (fun _ _ _ h => h) (Or.inl ⟨by rfl, ?y7⟩) hHeld ?r7
  case y7 => (intro w hSw; (try dsimp only at hSw); go_simp; try with_reducible rfl)
  simp only [Act.put, List.setIfInBounds_toArray, List.set_cons_zero, List.set_cons_succ]
  refine take_put (i := 8) (d := 76) (oi := _) (v := ?v8) rfl rfl (by kernel_rfl) (by kernel_rfl) (by kernel_rfl) (fun _ _ _ h => h) (Or.inl ⟨by rfl, ?y8⟩) hHeld ?r8
  case y8 => (intro w hSw; (try dsimp only at hSw); go_simp; try with_reducible rfl)
  simp only [Act.put, List.setIfInBounds_toArray, List.set_cons_zero, List.set_cons_succ]
  refine take_put (i := 9) (d := 77) (oi := _) (v := ?v9) rfl rfl (by kernel_rfl) (by kernel_rfl) (by kernel_rfl) (fun _ _ _ h => h) (Or.inl ⟨by rfl, ?y9⟩) hHeld ?r9
  case y9 => (intro w hSw; (try dsimp only at hSw); go_simp; try with_reducible rfl)
  simp only [Act.put, List.setIfInBounds_toArray, List.set_cons_zero, List.set_cons_succ]
  refine take_put (i := 10) (d := 78) (oi := _) (v := ?v10) rfl rfl (by kernel_rfl) (by kernel_rfl) (by kernel_rfl) (fun _ _ _ h => h) (Or.inl ⟨by rfl, ?y10⟩) hHeld ?r10
  case y10 => (intro w hSw; (try dsimp only at hSw); go_simp; try with_reducible rfl)
  simp only [Act.put, List.setIfInBounds_toArray, List.set_cons_zero, List.set_cons_succ]
  refine take_put (i := 11) (d := 79) (oi := _) (v := ?v11) rfl rfl (by kernel_rfl) (by kernel_rfl) (by kernel_rfl) (fun _ _ _ h => h) (Or.inl ⟨by rfl, ?y11⟩) hHeld ?r11
  case y11 => (intro w hSw; (try dsimp only at hSw); go_simp; try with_reducible rfl)
  simp only [Act.put, List.setIfInBounds_toArray, List.set_cons_zero, List.set_cons_succ]
  refine take_put (i := 12) (d := 80) (oi := _) (v := ?v12) rfl rfl (by kernel_rfl) (by kernel_rfl) (by kernel_rfl) (fun _ _ _ h => h) (Or.inl ⟨by rfl, ?y12⟩) hHeld ?r12
  case y12 => (intro w hSw; (try dsimp only at hSw); go_simp; try with_reducible rfl)
  simp only [Act.put, List.setIfInBounds_toArray, List.set_cons_zero, List.set_cons_succ]
  refine take_put (i := 13) (d := 81) (oi := _) (v := ?v13) rfl rfl (by kernel_rfl) (by kernel_rfl) (by kernel_rfl) (fun _ _ _ h => h) (Or.inl ⟨by rfl, ?y13⟩) hHeld ?r13
  case y13 => (intro w hSw; (try dsimp only at hSw); go_simp; try with_reducible rfl)
  simp only [Act.put, List.setIfInBounds_toArray, List.set_cons_zero, List.set_cons_succ]
  refine take_put (i := 14) (d := 82) (oi := _) (v := ?v14) rfl rfl (by kernel_rfl) (by kernel_rfl) (by kernel_rfl) (fun _ _ _ h => h) (Or.inl ⟨by rfl, ?y14⟩) hHeld ?r14
  case y14 => (intro w hSw; (try dsimp only at hSw); go_simp; try with_reducible rfl)
  simp only [Act.put, List.setIfInBounds_toArray, List.set_cons_zero, List.set_cons_succ]
  refine take_put (i := 15) (d := 83) (oi := _) (v := ?v15) rfl rfl (by kernel_rfl) (by kernel_rfl) (by kernel_rfl) (fun _ _ _ h => h) (Or.inl ⟨by rfl, ?y15⟩) hHeld ?r15
  case y15 => (intro w hSw; (try dsimp only at hSw); go_simp; try with_reducible rfl)
  simp only [Act.put, List.setIfInBounds_toArray, List.set_cons_zero, List.set_cons_succ]
  refine take_put (i := 16) (d := 84) (oi := _) (v := ?v16) rfl rfl (by kernel_rfl) (by kernel_rfl) (by kernel_rfl) (fun _ _ _ h => h) (Or.inl ⟨by rfl, ?y16⟩) hHeld ?r16
  case y16 => (intro w hSw; (try dsimp only at hSw); go_simp; try with_reducible rfl)
  simp only [Act.put, List.setIfInBounds_toArray, List.set_cons_zero, List.set_cons_succ]
  refine take_put (i := 17) (d := 85) (oi := _) (v := ?v17) rfl rfl (by kernel_rfl) (by kernel_rfl) (by kernel_rfl) (fun _ _ _ h => h) (Or.inl ⟨by rfl, ?y17⟩) hHeld ?r17
  case y17 => (intro w hSw; (try dsimp only at hSw); go_simp; try with_reducible rfl)
  simp only [Act.put, List.setIfInBounds_toArray, List.set_cons_zero, List.set_cons_succ]
  refine take_put (i := 18) (d := 86) (oi := _) (v := ?v18) rfl rfl (by kernel_rfl) (by kernel_rfl) (by kernel_rfl) (fun _ _ _ h => h) (Or.inl ⟨by rfl, ?y18⟩) hHeld ?r18
  case y18 => (intro w hSw; (try dsimp only at hSw); go_simp; try with_reducible rfl)
  simp only [Act.put, List.setIfInBounds_toArray, List.set_cons_zero, List.set_cons_succ]
  refine take_put (i := 19) (d := 87) (oi := _) (v := ?v19) rfl rfl (by kernel_rfl) (by kernel_rfl) (by kernel_rfl) (fun _ _ _ h => h) (Or.inl ⟨by rfl, ?y19⟩) hHeld ?r19
  case y19 => (intro w hSw; (try dsimp only at hSw); go_simp; try with_reducible rfl)
  simp only [Act.put, List.setIfInBounds_toArray, List.set_cons_zero, List.set_cons_succ]
  refine take_put (i := 20) (d := 88) (oi := _) (v := ?v20) rfl rfl (by kernel_rfl) (by kernel_rfl) (by kernel_rfl) (fun _ _ _ h => h) (Or.inl ⟨by rfl, ?y20⟩) hHeld ?r20
  case y20 => (intro w hSw; (try dsimp only at hSw); go_simp; try with_reducible rfl)
  simp only [Act.put, List.setIfInBounds_toArray, List.set_cons_zero, List.set_cons_succ]
  refine take_put (i := 21) (d := 89) (oi := _) (v := ?v21) rfl rfl (by kernel_rfl) (by kernel_rfl) (by kernel_rfl) (fun _ _ _ h => h) (Or.inl ⟨by rfl, ?y21⟩) hHeld ?r21
  case y21 => (intro w hSw; (try dsimp only at hSw); go_simp; try with_reducible rfl)
  simp only [Act.put, List.setIfInBounds_toArray, List.set_cons_zero, List.set_cons_succ]
  refine take_put (i := 22) (d := 90) (oi := _) (v := ?v22) rfl rfl (by kernel_rfl) (by kernel_rfl) (by kernel_rfl) (fun _ _ _ h => h) (Or.inl ⟨by rfl, ?y22⟩) hHeld ?r22
  case y22 => (intro w hSw; (try dsimp only at hSw); go_simp; try with_reducible rfl)
  simp only [Act.put, List.setIfInBounds_toArray, List.set_cons_zero, List.set_cons_succ]
  refine take_put (i := 23) (d := 91) (oi := _) (v := ?v23) rfl rfl (by kernel_rfl) (by kernel_rfl) (by kernel_rfl) (fun _ _ _ h => h) (Or.inl ⟨by rfl, ?y23⟩) hHeld ?r23
  case y23 => (intro w hSw; (try dsimp only at hSw); go_simp; try with_reducible rfl)
  simp only [Act.put, List.setIfInBounds_toArray, List.set_cons_zero, List.set_cons_succ]
  refine take_put (i := 24) (d := 92) (oi := _) (v := ?v24) rfl rfl (by kernel_rfl) (by kernel_rfl) (by kernel_rfl) (fun _ _ _ h => h) (Or.inl ⟨by rfl, ?y24⟩) hHeld ?r24
  case y24 => (intro w hSw; (try dsimp only at hSw); go_simp; try with_reducible rfl)
  simp only [Act.put, List.setIfInBounds_toArray, List.set_cons_zero, List.set_cons_succ]
  refine take_put (i := 25) (d := 93) (oi := _) (v := ?v25) rfl rfl (by kernel_rfl) (by kernel_rfl) (by kernel_rfl) (fun _ _ _ h => h) (Or.inl ⟨by rfl, ?y25⟩) hHeld ?r25
  case y25 => (intro w hSw; (try dsimp only at hSw); go_simp; try with_reducible rfl)
  simp only [Act.put, List.setIfInBounds_toArray, List.set_cons_zero, List.set_cons_succ]
  refine take_put (i := 26) (d := 94) (oi := _) (v := ?v26) rfl rfl (by kernel_rfl) (by kernel_rfl) (by kernel_rfl) (fun _ _ _ h => h) (Or.inl ⟨by rfl, ?y26⟩) hHeld ?r26
  case y26 => (intro w hSw; (try dsimp only at hSw); go_simp; try with_reducible rfl)
  simp only [Act.put, List.setIfInBounds_toArray, List.set_cons_zero, List.set_cons_succ]
  refine wpAnyH_ready (rs := [27]) (by kernel_rfl) (by simp) (AllReadyH.cons (o := _) rfl (fun K hK => ?_) AllReadyH.nil)
  go_simp
  refine (htr1 _).mono ?_
  rintro e wq ⟨rfl, bk⟩
  (try dsimp only)
  refine hK.out _ _ (hHeld.call bk (Nat.le_refl _)) (fun hHeld => ?_)
  clear hK K
  refine take_put (i := 28) (d := 96) (oi := _) (v := ?v28) rfl rfl (by kernel_rfl) (by kernel_rfl) (by kernel_rfl) (fun _ _ _ h => h) (Or.inl ⟨by rfl, ?y28⟩) hHeld ?r28
  case y28 => (intro w hSw; go_simp; first | rfl | kernel_rfl | (simp [Sem.run]; done))
  simp only [Act.put, List.setIfInBounds_toArray, List.set_cons_zero, List.set_cons_succ]
  refine take_put (i := 29) (d := 97) (oi := _) (v := ?v29) rfl rfl (by kernel_rfl) (by kernel_rfl) (by kernel_rfl) (fun _ _ _ h => h) (Or.inl ⟨by rfl, ?y29⟩) hHeld ?r29
  case y29 => (intro w hSw; (try dsimp only at hSw); go_simp; try with_reducible rfl)
  simp only [Act.put, List.setIfInBounds_toArray, List.set_cons_zero, List.set_cons_succ]
  refine take_put (i := 30) (d := 98) (oi := _) (v := ?v30) rfl rfl (by kernel_rfl) (by kernel_rfl) (by kernel_rfl) (fun _ _ _ h => h) (Or.inl ⟨by rfl, ?y30⟩) hHeld ?r30
  case y30 => (intro w hSw; (try dsimp only at hSw); go_simp; try with_reducible rfl)
  simp only [Act.put, List.setIfInBounds_toArray, List.set_cons_zero, List.set_cons_succ]
  refine take_put (i := 31) (d := 99) (oi := _) (v := ?v31) rfl rfl (by kernel_rfl) (by kernel_rfl) (by kernel_rfl) (fun _ _ _ h => h) (Or.inl ⟨by rfl, ?y31⟩) hHeld ?r31
  case y31 => (intro w hSw; (try dsimp only at hSw); go_simp; try with_reducible rfl)
  simp only [Act.put, List.setIfInBounds_toArray, List.set_cons_zero, List.set_cons_succ]
  refine wpAnyH_ready (rs := [32]) (by kernel_rfl) (by simp) (AllReadyH.cons (o := _) rfl (fun K hK => ?_) AllReadyH.nil)
  go_simp
  refine (htr0 _).mono ?_
  rintro e wq ⟨rfl, bk⟩
  (try dsimp only)
  refine hK.out _ _ (hHeld.call bk (Nat.le_refl _)) (fun hHeld => ?_)
  clear hK K
  refine take_put (i := 33) (d := 101) (oi := _) (v := ?v33) rfl rfl (by kernel_rfl) (by kernel_rfl) (by kernel_rfl) (fun _ _ _ h => h) (Or.inl ⟨by rfl, ?y33⟩) hHeld ?r33
  case y33 => (intro w hSw; go_simp; first | rfl | kernel_rfl | (simp [Sem.run]; done))
  simp only [Act.put, List.setIfInBounds_toArray, List.set_cons_zero, List.set_cons_succ]
  refine take_put (i := 34) (d := 102) (oi := _) (v := ?v34) rfl rfl (by kernel_rfl) (by kernel_rfl) (by kernel_rfl) (fun _ _ _ h => h) (Or.inl ⟨by rfl, ?y34⟩) hHeld ?r34
  case y34 => (intro w hSw; (try dsimp only at hSw); go_simp; try with_reducible rfl)
  simp only [Act.put, List.setIfInBounds_toArray, List.set_cons_zero, List.set_cons_succ]
  refine take_put (i := 35) (d := 103) (oi := _) (v := ?v35) rfl rfl (by kernel_rfl) (by kernel_rfl) (by kernel_rfl) (fun _ _ _ h => h) (Or.inl ⟨by rfl, ?y35⟩) hHeld ?r35
  case y35 => (intro w hSw; (try dsimp only at hSw); go_simp; try with_reducible rfl)
  simp only [Act.put, List.setIfInBounds_toArray, List.set_cons_zero, List.set_cons_succ]
  refine take_put (i := 36) (d := 104) (oi := _) (v := ?v36) rfl rfl (by kernel_rfl) (by kernel_rfl) (by kernel_rfl) (fun _ _ _ h => h) (Or.inl ⟨by rfl, ?y36⟩) hHeld ?r36
  case y36 => (intro w hSw; (try dsimp only at hSw); go_simp; try with_reducible rfl)
  simp only [Act.put, List.setIfInBounds_toArray, List.set_cons_zero, List.set_cons_succ]
  refine take_put (i := 37) (d := 105) (oi := _) (v := ?v37) rfl rfl (by kernel_rfl) (by kernel_rfl) (by kernel_rfl) (fun _ _ _ h => h) (Or.inl ⟨by rfl, ?y37⟩) hHeld ?r37
  case y37 => (intro w hSw; (try dsimp only at hSw); go_simp; try with_reducible rfl)
  simp only [Act.put, List.setIfInBounds_toArray, List.set_cons_zero, List.set_cons_succ]
  refine take_put (i := 38) (d := 106) (oi := _) (v := ?v38) rfl rfl (by kernel_rfl) (by kernel_rfl) (by kernel_rfl) (fun _ _ _ h => h) (Or.inl ⟨by rfl, ?y38⟩) hHeld ?r38
  case y38 => (intro w hSw; (try dsimp only at hSw); go_simp; try with_reducible rfl)
  simp only [Act.put, List.setIfInBounds_toArray, List.set_cons_zero, List.set_cons_succ]
  refine take_put (i := 39) (d := 107) (oi := _) (v := ?v39) rfl rfl (by kernel_rfl) (by kernel_rfl) (by kernel_rfl) (fun _ _ _ h => h) (Or.inl ⟨by rfl, ?y39⟩) hHeld ?r39
  case y39 => (intro w hSw; (try dsimp only at hSw); go_simp; try with_reducible rfl)
  simp only [Act.put, List.setIfInBounds_toArray, List.set_cons_zero, List.set_cons_succ]
  refine take_put (i := 40) (d := 108) (oi := _) (v := ?v40) rfl rfl (by kernel_rfl) (by kernel_rfl) (by kernel_rfl) (fun _ _ _ h => h) (Or.inl ⟨by rfl, ?y40⟩) hHeld ?r40
  case y40 => (intro w hSw; (try dsimp only at hSw); go_simp; try with_reducible rfl)
  simp only [Act.put, List.setIfInBounds_toArray, List.set_cons_zero, List.set_cons_succ]
  refine take_put (i := 41) (d := 109) (oi := _) (v := ?v41) rfl rfl (by kernel_rfl) (by kernel_rfl) (by kernel_rfl) (fun _ _ _ h => h) (Or.inl ⟨by rfl, ?y41⟩) hHeld ?r41
  case y41 => (intro w hSw; (try dsimp only at hSw); go_simp; try with_reducible rfl)
  simp only [Act.put, List.setIfInBounds_toArray, List.set_cons_zero, List.set_cons_succ]
  refine take_put (i := 42) (d := 110) (oi := _) (v := ?v42) rfl rfl (by kernel_rfl) (by kernel_rfl) (by kernel_rfl) (fun _ _ _ h => h) (Or.inl ⟨by rfl, ?y42⟩) hHeld ?r42
  case y42 => (intro w hSw; (try dsimp only at hSw); go_simp; try with_reducible rfl)
  simp only [Act.put, List.setIfInBounds_toArray, List.set_cons_zero, List.set_cons_succ]
  refine take_put (i := 43) (d := 111) (oi := _) (v := ?v43) rfl rfl (by kernel_rfl) (by kernel_rfl) (by kernel_rfl) (fun _ _ _ h => h) (Or.inl ⟨by rfl, ?y43⟩) hHeld ?r43
  case y43 => (intro w hSw; (try dsimp only at hSw); go_simp; try with_reducible rfl)
  simp only [Act.put, List.setIfInBounds_toArray, List.set_cons_zero, List.set_cons_succ]
  refine take_put (i := 44) (d := 112) (oi := _) (v := ?v44) rfl rfl (by kernel_rfl) (by kernel_rfl) (by kernel_rfl) (fun _ _ _ h => h) (Or.inl ⟨by rfl, ?y44⟩) hHeld ?r44
  case y44 => (intro w hSw; (try dsimp only at hSw); go_simp; try with_reducible rfl)
  simp only [Act.put, List.setIfInBounds_toArray, List.set_cons_zero, List.set_cons_succ]
  refine take_put (i := 45) (d := 113) (oi := _) (v := ?v45) rfl rfl (by kernel_rfl) (by kernel_rfl) (by kernel_rfl) (fun _ _ _ h => h) (Or.inl ⟨by rfl, ?y45⟩) hHeld ?r45
  case y45 => (intro w hSw; (try dsimp only at hSw); go_simp; try with_reducible rfl)
  simp only [Act.put, List.setIfInBounds_toArray, List.set_cons_zero, List.set_cons_succ]
  refine take_put (i := 46) (d := 114) (oi := _) (v := ?v46) rfl rfl (by kernel_rfl) (by kernel_rfl) (by kernel_rfl) (fun _ _ _ h => h) (Or.inl ⟨by rfl, ?y46⟩) hHeld ?r46
  case y46 => (intro w hSw; (try dsimp only at hSw); go_simp; try with_reducible rfl)
  simp only [Act.put, List.setIfInBounds_toArray, List.set_cons_zero, List.set_cons_succ]
  refine take_put (i := 47) (d := 115) (oi := _) (v := ?v47) rfl rfl (by kernel_rfl) (by kernel_rfl) (by kernel_rfl) (fun _ _ _ h => h) (Or.inl ⟨by rfl, ?y47⟩) hHeld ?r47
  case y47 => (intro w hSw; (try dsimp only at hSw); go_simp; try with_reducible rfl)
  simp only [Act.put, List.setIfInBounds_toArray, List.set_cons_zero, List.set_cons_succ]
  refine take_put (i := 48) (d := 116) (oi := _) (v := ?v48) rfl rfl (by kernel_rfl) (by kernel_rfl) (by kernel_rfl) (fun _ _ _ h => h) (Or.inl ⟨by rfl, ?y48⟩) hHeld ?r48
  case y48 => (intro w hSw; (try dsimp only at hSw); go_simp; try with_reducible rfl)
  simp only [Act.put, List.setIfInBounds_toArray, List.set_cons_zero, List.set_cons_succ]
  refine take_put (i := 49) (d := 117) (oi := _) (v := ?v49) rfl rfl (by kernel_rfl) (by kernel_rfl) (by kernel_rfl) (fun _ _ _ h => h) (Or.inl ⟨by rfl, ?y49⟩) hHeld ?r49
  case y49 => (intro w hSw; (try dsimp only at hSw); go_simp; try with_reducible rfl)
  simp only [Act.put, List.setIfInBounds_toArray, List.set_cons_zero, List.set_cons_succ]
  refine take_put (i := 50) (d := 118) (oi := _) (v := ?v50) rfl rfl (by kernel_rfl) (by kernel_rfl) (by kernel_rfl) (fun _ _ _ h => h) (Or.inl ⟨by rfl, ?y50⟩) hHeld ?r50
  case y50 => (intro w hSw; (try dsimp only at hSw); go_simp; try with_reducible rfl)
  simp only [Act.put, List.setIfInBounds_toArray, List.set_cons_zero, List.set_cons_succ]
  refine take_put (i := 51) (d := 119) (oi := _) (v := ?v51) rfl rfl (by kernel_rfl) (by kernel_rfl) (by kernel_rfl) (fun _ _ _ h => h) (Or.inl ⟨by rfl, ?y51⟩) hHeld ?r51
  case y51 => (intro w hSw; (try dsimp only at hSw); go_simp; try with_reducible rfl)
  simp only [Act.put, List.setIfInBounds_toArray, List.set_cons_zero, List.set_cons_succ]
  refine take_put (i := 52) (d := 120) (oi := _) (v := ?v52) rfl rfl (by kernel_rfl) (by kernel_rfl) (by kernel_rfl) (fun _ _ _ h => h) (Or.inl ⟨by rfl, ?y52⟩) hHeld ?r52
  case y52 => (intro w hSw; (try dsimp only at hSw); go_simp; try with_reducible rfl)
  simp only [Act.put, List.setIfInBounds_toArray, List.set_cons_zero, List.set_cons_succ]
  refine wpAnyH_ready (rs := [53]) (by kernel_rfl) (by simp) (AllReadyH.cons (o := _) rfl (fun K hK => ?_) AllReadyH.nil)
  go_simp
  refine (hsame _).mono ?_
  rintro e wq ⟨rfl, bk⟩
  (try dsimp only)
  refine hK.out _ _ (hHeld.call bk (Nat.le_refl _)) (fun hHeld => ?_)
  clear hK K
  refine take_put (i := 54) (d := 122) (oi := _) (v := ?v54) rfl rfl (by kernel_rfl) (by kernel_rfl) (by kernel_rfl) (fun _ _ _ h => h) (Or.inl ⟨by rfl, ?y54⟩) hHeld ?r54
  case y54 => (intro w hSw; (try dsimp only at hSw); go_simp; try with_reducible rfl)
  simp only [Act.put, List.setIfInBounds_toArray, List.set_cons_zero, List.set_cons_succ]
  refine take_put (i := 55) (d := 123) (oi := _) (v := ?v55) rfl rfl (by kernel_rfl) (by kernel_rfl) (by kernel_rfl) (fun _ _ _ h => h) (Or.inl ⟨by rfl, ?y55⟩) hHeld ?r55
  case y55 => (intro w hSw; (try dsimp only at hSw); go_simp; try with_reducible rfl)
  simp only [Act.put, List.setIfInBounds_toArray, List.set_cons_zero, List.set_cons_succ]
  refine wpAnyH_ready (rs := [56]) (by kernel_rfl) (by simp) (AllReadyH.cons (o := _) rfl (fun K hK => ?_) AllReadyH.nil)
  go_simp
  refine (hlist0 _).mono ?_
  rintro e wq ⟨rfl, bk⟩
  (try dsimp only)
  refine hK.out _ _ (hHeld.call bk (Nat.le_refl _)) (fun hHeld => ?_)
  clear hK K
  refine take_put (i := 57) (d := 125) (oi := _) (v := ?v57) rfl rfl (by kernel_rfl) (by kernel_rfl) (by kernel_rfl) (fun _ _ _ h => h) (Or.inl ⟨by rfl, ?y57⟩) hHeld ?r57
  case y57 => (intro w hSw; go_simp; first | rfl | kernel_rfl | (simp [Sem.run]; done))
  simp only [Act.put, List.setIfInBounds_toArray, List.set_cons_zero, List.set_cons_succ]
  refine take_put (i := 58) (d := 126) (oi := _) (v := ?v58) rfl rfl (by kernel_rfl) (by kernel_rfl) (by kernel_rfl) (fun _ _ _ h => h) (Or.inl ⟨by rfl, ?y58⟩) hHeld ?r58
  case y58 => (intro w hSw; (try dsimp only at hSw); go_simp; try with_reducible rfl)
  simp only [Act.put, List.setIfInBounds_toArray, List.set_cons_zero, List.set_cons_succ]
  refine take_put (i := 59) (d := 127) (oi := _) (v := ?v59) rfl rfl (by kernel_rfl) (by kernel_rfl) (by kernel_rfl) (fun _ _ _ h => h) (Or.inl ⟨by rfl, ?y59⟩) hHeld ?r59
  case y59 => (intro w hSw; (try dsimp only at hSw); go_simp; try with_reducible rfl)
  simp only [Act.put, List.setIfInBounds_toArray, List.set_cons_zero, List.set_cons_succ]
  refine take_put (i := 60) (d := 128) (oi := _) (v := ?v60) rfl rfl (by kernel_rfl) (by kernel_rfl) (by kernel_rfl) (fun _ _ _ h => h) (Or.inl ⟨by rfl, ?y60⟩) hHeld ?r60
  case y60 => (intro w hSw; (try dsimp only at hSw); go_simp; try with_reducible rfl)
  simp only [Act.put, List.setIfInBounds_toArray, List.set_cons_zero, List.set_cons_succ]
  refine take_put (i := 61) (d := 129) (oi := _) (v := ?v61) rfl rfl (by kernel_rfl) (by kernel_rfl) (by kernel_rfl) (fun _ _ _ h => h) (Or.inl ⟨by rfl, ?y61⟩) hHeld ?r61
  case y61 => (intro w hSw; (try dsimp only at hSw); go_simp; try with_reducible rfl)
  simp only [Act.put, List.setIfInBounds_toArray, List.set_cons_zero, List.set_cons_succ]
  refine wpAnyH_ready (rs := [62]) (by kernel_rfl) (by simp) (AllReadyH.cons (o := _) rfl (fun K hK => ?_) AllReadyH.nil)
  go_simp
  refine (lives_any _).mono ?_
  rintro e wq ⟨rfl, bk⟩
  (try dsimp only)
  refine hK.out _ _ (hHeld.call bk (Nat.le_refl _)) (fun hHeld => ?_)
  clear hK K
  refine take_put (i := 63) (d := 131) (oi := _) (v := ?v63) rfl rfl (by kernel_rfl) (by kernel_rfl) (by kernel_rfl) (fun _ _ _ h => h) (Or.inl ⟨by rfl, ?y63⟩) hHeld ?r63
  case y63 => (intro w hSw; (try dsimp only at hSw); go_simp; try with_reducible rfl)
  simp only [Act.put, List.setIfInBounds_toArray, List.set_cons_zero, List.set_cons_succ]
  refine take_put (i := 64) (d := 6) (oi := _) (v := ?v64) rfl rfl (by kernel_rfl) (by kernel_rfl) (by kernel_rfl) (fun _ _ _ h => h) (Or.inl ⟨by rfl, ?y64⟩) hHeld ?r64
  case y64 => (intro w hSw; (try dsimp only at hSw); go_simp; try with_reducible rfl)
  simp only [Act.put, List.setIfInBounds_toArray, List.set_cons_zero, List.set_cons_succ]
  refine wpAnyH_done (by kernel_rfl) ?_ _
  have HF := Lib.hid hHeld
  clear hHeld u1_0 u1_1 u1_2 u1_3 u1_4 u1_5 u1_6 u1_7 u1_8 u1_9 u1_10 u1_11 u1_12 u1_13 u1_14 u1_15
  go_wp2
  go_ret
  exact ⟨rfl, HF.out.1⟩
end Jv
end Go.Proofs.Ytbfmgjgdpbffdaa
