/- Layer 13: the token ahead, by the code. -/
import Derived.Test.YtpddkchnogfjkaaDoorLxFn2
import Derived.Test.YtpddkchnogfjkaaDoorLxRows
import Derived.Test.YtpddkchnogfjkaaDoorNmParse
import Derived.Test.YtpddkchnogfjkaaDoorUtUnquote
import Derived.Lib.IndexAny
import Derived.StillTailTactics
namespace Go.Proofs.YtpddkchnogfjkaaDoor
open Go.RowKit
namespace Lx
open _root_.Go.Proofs.YtpddkchnogfjkaaDoor.Nm (prs)
open _root_.Go.Proofs.YtpddkchnogfjkaaDoor.Ut (ansV rdO)
/-- what first answers: the token as if it stood at place 0, its length, the error's number -/
def fstV : Except Nat (Nat × List UInt8 × (Int × Int) × Nat) → Value
  | .error e => .tuple #[.agg #[.int .i64 0, .string ByteArray.empty, .int .i64 0, .int .i64 0, .int .i64 0], .int .i64 0, .int .i64 (e : Nat)]
  | .ok (k, t, n, m) => .tuple #[.agg #[.int .i64 (k : Nat), .string ⟨t.toArray⟩, .int .i64 n.1, .int .i64 n.2, .int .i64 0], .int .i64 (m : Nat), .int .i64 0]
theorem fits_c (t : ByteArray) (m : Nat) (b : Bool) (w : World) (hm : t.size = m) (hs : m ≤ 1000000000) (hb : b = (!decide (m = 0) && decide (m ≤ 16))) :
    Calls Tryd.prog 12 #[.string t] w fun e w' => e = .returned (.bool b) ∧ w = w' := by
  rw [hb, ← hm]; exact fits_any t w (by omega)
theorem ex0_size {s : ByteArray} {a b : Nat} (h : b ≤ s.size) : (s.extract a b).size = b - a := by rw [ByteArray.size_extract]; omega
set_option maxRecDepth 100000 in
set_option maxHeartbeats 1000000 in
theorem firstName_any (s : ByteArray) (w : World) (hs : s.size ≤ 4200) (hi : 0 < s.size) (hL : isLn s[0].toNat = true) :
    Calls Tryd.prog 23 #[.string s] w fun e w' => e = .returned (fstV (tokL s.data.toList)) ∧ Below w.heap.size w w' := by
  obtain ⟨n, hn⟩ : ∃ n, nmE s 0 = n := ⟨_, rfl⟩
  have h1 := fun w => nameLength_any s w (by omega)
  rw [hn] at h1
  have hle := nmE_le (s := s) (i := 0) (by omega)
  rw [hn] at hle
  have ht := tok_name (n := n) hi hL (by omega)
  rw [List.drop_zero] at ht
  have h0 : n ≠ 0 := by
    intro g
    have e := nmE_run hi hL
    rw [run_go hi (by rw [isW_n, hL]; rfl)] at e
    have := run_ge isW s (0 + 1)
    omega
  by_cases h16 : 16 < n
  · rw [ht, if_pos h16]
    have h2 := fun w => fits_c (s.extract 0 n) n false w (by rw [ex0_size hle]; omega) (by omega) (by simp; omega)
    clear ht hn hL
    have hl : (n : Int) ≤ s.size := by omega
    go_enter Tryd.func23, Tryd.ntmps23
    go_wp2_with (first | (go_at_call 12; refine (h2 _).mono ?_; rintro e w' ⟨rfl, rfl⟩) | (go_at_call 13; refine (h1 _).mono ?_; rintro e w' ⟨rfl, rfl⟩))
    exact bodyPost_ret (v := .tuple #[.agg #[.int .i64 0, .string ⟨#[]⟩, .int .i64 0, .int .i64 0, .int .i64 0], .int .i64 0, .int .i64 14]) (by simp [results, Tryd.results23, go_sem]) rfl ⟨rfl, by simpa using (Below.refl w.heap.size w).alloc (Nat.le_refl _) _⟩
  · rw [ht, if_neg h16]
    have h2 := fun w => fits_c (s.extract 0 n) n true w (by rw [ex0_size hle]; omega) (by omega) (by simp; omega)
    have HX : Hid (s.extract 0 n = ⟨(s.data.toList.take n).toArray⟩) := Lib.hid (by rw [ex_sub, List.drop_zero, Nat.sub_zero])
    clear ht hn hL
    have hl : (n : Int) ≤ s.size := by omega
    go_enter Tryd.func23, Tryd.ntmps23
    go_wp2_with (first | (go_at_call 12; refine (h2 _).mono ?_; rintro e w' ⟨rfl, rfl⟩) | (go_at_call 13; refine (h1 _).mono ?_; rintro e w' ⟨rfl, rfl⟩))
    exact bodyPost_ret (v := .tuple #[.agg #[.int .i64 1, .string (s.extract 0 n), .int .i64 0, .int .i64 0, .int .i64 0], .int .i64 n, .int .i64 0]) (by simp [results, Tryd.results23, go_sem]) rfl ⟨ret_v (by rw [HX.out]; rfl), by simpa using (Below.refl w.heap.size w).alloc (Nat.le_refl _) _⟩
set_option maxRecDepth 100000 in
set_option maxHeartbeats 1000000 in
theorem firstVar_any (s : ByteArray) (w : World) (hs : s.size ≤ 4200) (hi : 0 < s.size) (hc : s[0].toNat = 36) :
    Calls Tryd.prog 24 #[.string s] w fun e w' => e = .returned (fstV (tokL s.data.toList)) ∧ Below w.heap.size w w' := by
  obtain ⟨n, hn⟩ : ∃ n, nmE (s.extract 1 s.size) 0 = n := ⟨_, rfl⟩
  have h1 := fun w => nameLength_any (s.extract 1 s.size) w (by rw [ext_size]; omega)
  rw [hn] at h1
  have hle := nmE_le (s := s.extract 1 s.size) (i := 0) (by omega)
  rw [hn, ext_size] at hle
  have hn2 : nmE s (0 + 1) = 0 + 1 + n := by
    rw [← hn]; unfold nmE
    rw [List.drop_zero, ext_drop, Nat.zero_add]; omega
  have ht := tok_var hi hc hn2
  rw [List.drop_zero] at ht
  have hl : (1 : Int) ≤ s.size := by omega
  have hl2 : (1 : Int) + n ≤ s.size := by omega
  by_cases h16 : n = 0 ∨ 16 < n
  · rw [ht, if_pos h16]
    have h2 := fun w => fits_c (s.extract 1 (1 + n)) n false w (by rw [ex0_size (by omega)]; omega) (by omega) (by simp; omega)
    clear ht hn hn2
    go_enter Tryd.func24, Tryd.ntmps24
    go_wp2_with (first | (go_at_call 12; refine (h2 _).mono ?_; rintro e w' ⟨rfl, rfl⟩) | (go_at_call 13; refine (h1 _).mono ?_; rintro e w' ⟨rfl, rfl⟩))
    exact bodyPost_ret (v := .tuple #[.agg #[.int .i64 0, .string ⟨#[]⟩, .int .i64 0, .int .i64 0, .int .i64 0], .int .i64 0, .int .i64 14]) (by simp [results, Tryd.results24, go_sem]) rfl ⟨rfl, by simpa using (Below.refl w.heap.size w).alloc (Nat.le_refl _) _⟩
  · rw [ht, if_neg h16]
    have h2 := fun w => fits_c (s.extract 1 (1 + n)) n true w (by rw [ex0_size (by omega)]; omega) (by omega) (by simp; omega)
    have HX : Hid (s.extract 1 (1 + n) = ⟨((s.data.toList.drop (0 + 1)).take n).toArray⟩) := Lib.hid (by rw [ex_sub, Nat.add_sub_cancel_left])
    clear ht hn hn2
    go_enter Tryd.func24, Tryd.ntmps24
    go_wp2_with (first | (go_at_call 12; refine (h2 _).mono ?_; rintro e w' ⟨rfl, rfl⟩) | (go_at_call 13; refine (h1 _).mono ?_; rintro e w' ⟨rfl, rfl⟩))
    exact bodyPost_ret (v := .tuple #[.agg #[.int .i64 2, .string (s.extract 1 (1 + n)), .int .i64 0, .int .i64 0, .int .i64 0], .int .i64 (1 + n), .int .i64 0]) (by simp [results, Tryd.results24, go_sem]) rfl ⟨ret_v (by rw [HX.out]; rfl), by simpa using (Below.refl w.heap.size w).alloc (Nat.le_refl _) _⟩
theorem b5 {w a : World} {k B : Nat} (h : Below B w a) (hk : B ≤ k) (u0 u1 u2 u3 u4 : Value) :
    Below B w (((((a.setCell ⟨k, 0, none⟩ u0).setCell ⟨k, 1, none⟩ u1).setCell ⟨k, 2, none⟩ u2).setCell ⟨k, 3, none⟩ u3).setCell ⟨k, 4, none⟩ u4) :=
  ((((h.setCell hk u0).setCell hk u1).setCell hk u2).setCell hk u3).setCell hk u4
theorem fcall {w w1 : World} {o : Obj} (b1 : Below (w.alloc o).heap.size (w.alloc o) w1) : Below w.heap.size w w1 :=
  ((Below.refl _ _).alloc (Nat.le_refl _) o).trans (b1.mono (by simp))
theorem cparse_c (t : ByteArray) (w : World) (hs : t.size ≤ 4200) (l : List UInt8) (hl : t = ⟨l.toArray⟩) (c s : Int) (e : Nat) (h : prs l = .tuple #[.agg #[.int .i64 c, .int .i64 s], .int .i64 (e : Nat)]) :
    Calls Tryd.prog 31 #[.string t] w fun r w' => r = .returned (.tuple #[.agg #[.int .i64 c, .int .i64 s], .int .i64 (e : Nat)]) ∧ Below w.heap.size w w' := by
  have h1 := Nm.parse_any t w (by omega)
  rw [hl] at h1 ⊢
  simp only at h1
  rw [h] at h1
  exact h1
set_option maxRecDepth 100000 in
set_option maxHeartbeats 1000000 in
theorem firstNumber_any (s : ByteArray) (w : World) (hs : s.size ≤ 4200) (hi : 0 < s.size) (hL : isLn s[0].toNat = false) (h36 : s[0].toNat ≠ 36) (hD : isDn s[0].toNat = true) :
    Calls Tryd.prog 26 #[.string s] w fun e w' => e = .returned (fstV (tokL s.data.toList)) ∧ Below w.heap.size w w' := by
  obtain ⟨n, hn⟩ : ∃ n, numL s.data.toList = n := ⟨_, rfl⟩
  have hle := numL_le s.data.toList
  rw [hn, show s.data.toList.length = s.size by simp] at hle
  have h1 := fun w => numberLength_any s w (by omega)
  rw [hn] at h1
  have ht := tok_num (n := n) hi hL h36 hD (by rw [numE_is, List.drop_zero, hn])
  rw [List.drop_zero] at ht
  have HX : s.extract 0 n = ⟨(s.data.toList.take n).toArray⟩ := by rw [ex_sub, List.drop_zero, Nat.sub_zero]
  obtain ⟨l, hl⟩ : ∃ l, s.data.toList.take n = l := ⟨_, rfl⟩
  rw [hl] at ht HX
  obtain ⟨cc, sc, er, hp⟩ := prs_form l
  have hN : numN l = (cc, sc, er) := by unfold numN; rw [hp]; rfl
  rw [hN] at ht
  have h4 := fun w => cparse_c (s.extract 0 n) w (by rw [ex0_size hle]; omega) l HX cc sc er hp
  have hli : (n : Int) ≤ s.size := by omega
  have HX2 := Lib.hid HX
  by_cases he : er = 0
  · subst he
    simp only [ne_eq, not_true_eq_false, if_false] at ht
    rw [show ((0 : Nat) : Int) = 0 from rfl] at h4
    rw [ht]
    clear ht hn hL hD hN hp hl HX
    go_enter Tryd.func26, Tryd.ntmps26
    go_wp2_with (first | (go_at_call 31; refine (h4 _).mono ?_; rintro e w1 ⟨rfl, b1⟩; have hc := fun o => b1.cell (p := ⟨w.heap.size, o, none⟩) (by simp); have hf := fun o => b1.frozen (p := ⟨w.heap.size, o, none⟩) (by simp); have hz : w.heap.size < w1.heap.size := (by have := b1.size; simp at this; omega)) | (go_at_call 30; refine (h1 _).mono ?_; rintro e w' ⟨rfl, rfl⟩))
    have hq := heap_alloc_new w1 (Obj.cells #[.int .i64 cc, .int .i64 sc] 32)
    have HV0 := Lib.hid (((Ub.new w #[.int .i64 0, .string ⟨#[]⟩, .int .i64 0, .int .i64 0, .int .i64 0]).on b1).on ((Below.refl w1.heap.size w1).alloc (Nat.le_refl _) (Obj.cells #[.int .i64 cc, .int .i64 sc] 32)))
    have HB0 := Lib.hid ((fcall b1).alloc (by omega) (Obj.cells #[.int .i64 cc, .int .i64 sc] 32))
    clear hc hf b1
    generalize w1.alloc (Obj.cells #[.int .i64 cc, .int .i64 sc] 32) = w2 at hq HV0 HB0 ⊢
    have q0 : w2.cell? ⟨w1.heap.size, 0, none⟩ = some (.int .i64 cc) := cell_of_row w2 _ 0 _ _ _ hq
    have q1 : w2.cell? ⟨w1.heap.size, 1, none⟩ = some (.int .i64 sc) := cell_of_row w2 _ 1 _ _ _ hq
    clear hq
    obtain ⟨y0, y1, y2, y3, y4⟩ := HV0.out.five
    have hf := fun o => HV0.out.free o
    go_region
    have HV := Lib.hid ((HV0.out.put (.int .i64 3) (.string (s.extract 0 n)) (.int .i64 cc) (.int .i64 sc) (.int .i64 0)).on (Below.refl _ _).drew)
    have HB := Lib.hid ((b5 HB0.out (Nat.le_refl _) (.int .i64 3) (.string (s.extract 0 n)) (.int .i64 cc) (.int .i64 sc) (.int .i64 0)).drew)
    clear y0 y1 y2 y3 y4 hf q0 q1 HV0 HB0
    generalize (((((w2.setCell ⟨w.heap.size, 0, none⟩ (.int .i64 3)).setCell ⟨w.heap.size, 1, none⟩ (.string (s.extract 0 n))).setCell ⟨w.heap.size, 2, none⟩ (.int .i64 cc)).setCell ⟨w.heap.size, 3, none⟩ (.int .i64 sc)).setCell ⟨w.heap.size, 4, none⟩ (.int .i64 0)).drew = w3 at HV HB ⊢
    obtain ⟨z0, z1, z2, z3, z4⟩ := HV.out.five
    go_wp2_with fail
    have HX3 := HX2.out
    simp [bodyPost, results, Tryd.results26, go_sem, z0, z1, z2, z3, z4, fstV]
    exact ⟨HX3, HB.out⟩
  · simp only [ne_eq, he, not_false_eq_true, if_true] at ht
    rw [ht]
    have g1 : ((er : Int) == 0) = false := by simp; omega
    have g3 : ((er : Int) != 0) = true := by simp; omega
    clear ht hn hL hD hN hp hl HX
    go_enter Tryd.func26, Tryd.ntmps26
    go_wp2_with (first | (go_at_call 31; refine (h4 _).mono ?_; rintro e w1 ⟨rfl, b1⟩; have hc := fun o => b1.cell (p := ⟨w.heap.size, o, none⟩) (by simp); have hf := fun o => b1.frozen (p := ⟨w.heap.size, o, none⟩) (by simp); have hz : w.heap.size < w1.heap.size := (by have := b1.size; simp at this; omega)) | (go_at_call 30; refine (h1 _).mono ?_; rintro e w' ⟨rfl, rfl⟩))
    have HV := Lib.hid (((Ub.new w #[.int .i64 0, .string ⟨#[]⟩, .int .i64 0, .int .i64 0, .int .i64 0]).on b1).put (.int .i64 0) (.string ⟨#[]⟩) (.int .i64 0) (.int .i64 0) (.int .i64 0))
    obtain ⟨z0, z1, z2, z3, z4⟩ := (HV.out.on ((Below.refl _ _).alloc (Nat.le_refl _) (Obj.cells #[.int .i64 cc, .int .i64 sc] 32))).five
    have HB := Lib.hid ((b5 (fcall b1) (Nat.le_refl _) (.int .i64 0) (.string ⟨#[]⟩) (.int .i64 0) (.int .i64 0) (.int .i64 0)).alloc (by have := hz; simp; omega) (Obj.cells #[.int .i64 cc, .int .i64 sc] 32))
    clear hc hf
    simp [bodyPost, results, Tryd.results26, go_sem, z0, z1, z2, z3, z4, fstV]
    exact ⟨rfl, HB.out⟩
theorem cunq_c (t : ByteArray) (w : World) (hs : t.size ≤ 4200) (l : List UInt8) (hl : t = ⟨l.toArray⟩) (b : ByteArray) (e : Nat) (h : ansV (rdO ⟨l.toArray⟩) = .tuple #[.string b, .int .i64 (e : Nat)]) :
    Calls Tryd.prog 33 #[.string t] w fun r w' => r = .returned (.tuple #[.string b, .int .i64 (e : Nat)]) ∧ Below w.heap.size w w' := by
  have h1 := Ut.unquote_any t w (by omega)
  rw [hl] at h1 ⊢
  rw [h] at h1
  exact h1
set_option maxRecDepth 100000 in
set_option maxHeartbeats 1000000 in
theorem firstString_any (s : ByteArray) (w : World) (hs : s.size ≤ 4200) (hi : 0 < s.size) (hc : s[0].toNat = 34) :
    Calls Tryd.prog 27 #[.string s] w fun e w' => e = .returned (fstV (tokL s.data.toList)) ∧ Below w.heap.size w w' := by
  have ht := tok_str hi hc
  rw [List.drop_zero, Nat.zero_add] at ht
  have h1 := fun w => stringLength_any s w (by omega) hi
  cases hR : strO s 1 with
  | none =>
    rw [hR] at ht h1
    simp only [Option.getD_none] at h1
    simp only at ht
    rw [ht]
    clear ht hR
    go_enter Tryd.func27, Tryd.ntmps27
    go_wp2_with (first | (go_at_call 32; refine (h1 _).mono ?_; rintro e w' ⟨rfl, rfl⟩))
    exact bodyPost_ret (v := .tuple #[.agg #[.int .i64 0, .string ⟨#[]⟩, .int .i64 0, .int .i64 0, .int .i64 0], .int .i64 0, .int .i64 14]) (by simp [results, Tryd.results27, go_sem]) rfl ⟨rfl, by simpa using (Below.refl w.heap.size w).alloc (Nat.le_refl _) _⟩
  | some n =>
    have hq := strO_le hR
    rw [hR] at ht h1
    simp only [Option.getD_some] at h1
    simp only [Nat.sub_zero] at ht
    have HX : s.extract 0 n = ⟨(s.data.toList.take n).toArray⟩ := by rw [ex_sub, List.drop_zero, Nat.sub_zero]
    obtain ⟨l, hl⟩ : ∃ l, s.data.toList.take n = l := ⟨_, rfl⟩
    rw [hl] at ht HX
    obtain ⟨bs, er, hp⟩ := ansV_form (rdO ⟨l.toArray⟩)
    have hS : strS l = (bs.data.toList, er) := by unfold strS; rw [hp]; rfl
    rw [hS] at ht
    have h4 := fun w => cunq_c (s.extract 0 n) w (by rw [ex0_size hq.1]; omega) l HX bs er hp
    have hli : (n : Int) ≤ s.size := by omega
    have hn0 : ((n : Int) == 0) = false := by simp; omega
    by_cases he3 : er = 3
    · subst he3
      simp only [if_true] at ht
      rw [ht]
      clear ht hR hp hl HX hS hq
      go_enter Tryd.func27, Tryd.ntmps27
      go_wp2_with (first | (go_at_call 33; refine (h4 _).mono ?_; rintro e w1 ⟨rfl, b1⟩; have hc := fun o => b1.cell (p := ⟨w.heap.size, o, none⟩) (by simp); have hf := fun o => b1.frozen (p := ⟨w.heap.size, o, none⟩) (by simp); have hz : w.heap.size < w1.heap.size := (by have := b1.size; simp at this; omega)) | (go_at_call 32; refine (h1 _).mono ?_; rintro e w' ⟨rfl, rfl⟩))
      have HV := Lib.hid (((Ub.new w #[.int .i64 0, .string ⟨#[]⟩, .int .i64 0, .int .i64 0, .int .i64 0]).on b1).put (.int .i64 0) (.string ⟨#[]⟩) (.int .i64 0) (.int .i64 0) (.int .i64 0))
      obtain ⟨z0, z1, z2, z3, z4⟩ := HV.out.five
      have HB := Lib.hid (b5 (fcall b1) (Nat.le_refl _) (.int .i64 0) (.string ⟨#[]⟩) (.int .i64 0) (.int .i64 0) (.int .i64 0))
      clear hc hf
      simp [bodyPost, results, Tryd.results27, go_sem, z0, z1, z2, z3, z4, fstV]
      first | exact ⟨rfl, HB.out⟩ | exact HB.out
    · have g3 : ((er : Int) == 3) = false := by simp; omega
      by_cases he : er = 0
      · subst he
        simp only [he3, if_false, ne_eq, not_true_eq_false] at ht
        rw [show ((0 : Nat) : Int) = 0 from rfl] at h4
        rw [ht]
        clear ht hR hp hl HX hS hq g3
        go_enter Tryd.func27, Tryd.ntmps27
        go_wp2_with (first | (go_at_call 33; refine (h4 _).mono ?_; rintro e w1 ⟨rfl, b1⟩; have hc := fun o => b1.cell (p := ⟨w.heap.size, o, none⟩) (by simp); have hf := fun o => b1.frozen (p := ⟨w.heap.size, o, none⟩) (by simp); have hz : w.heap.size < w1.heap.size := (by have := b1.size; simp at this; omega)) | (go_at_call 32; refine (h1 _).mono ?_; rintro e w' ⟨rfl, rfl⟩))
        have HV := Lib.hid (((Ub.new w #[.int .i64 0, .string ⟨#[]⟩, .int .i64 0, .int .i64 0, .int .i64 0]).on b1).put (.int .i64 4) (.string bs) (.int .i64 0) (.int .i64 0) (.int .i64 0))
        obtain ⟨z0, z1, z2, z3, z4⟩ := HV.out.five
        have HB := Lib.hid (b5 (fcall b1) (Nat.le_refl _) (.int .i64 4) (.string bs) (.int .i64 0) (.int .i64 0) (.int .i64 0))
        clear hc hf
        simp [bodyPost, results, Tryd.results27, go_sem, z0, z1, z2, z3, z4, fstV]
        first | exact ⟨rfl, HB.out⟩ | exact HB.out
      · simp only [he3, he, if_false, ne_eq, not_false_eq_true, if_true] at ht
        rw [ht]
        have g1 : ((er : Int) == 0) = false := by simp; omega
        have g2 : ((er : Int) != 0) = true := by simp; omega
        clear ht hR hp hl HX hS hq
        go_enter Tryd.func27, Tryd.ntmps27
        go_wp2_with (first | (go_at_call 33; refine (h4 _).mono ?_; rintro e w1 ⟨rfl, b1⟩; have hc := fun o => b1.cell (p := ⟨w.heap.size, o, none⟩) (by simp); have hf := fun o => b1.frozen (p := ⟨w.heap.size, o, none⟩) (by simp); have hz : w.heap.size < w1.heap.size := (by have := b1.size; simp at this; omega)) | (go_at_call 32; refine (h1 _).mono ?_; rintro e w' ⟨rfl, rfl⟩))
        have HV := Lib.hid (((Ub.new w #[.int .i64 0, .string ⟨#[]⟩, .int .i64 0, .int .i64 0, .int .i64 0]).on b1).put (.int .i64 0) (.string ⟨#[]⟩) (.int .i64 0) (.int .i64 0) (.int .i64 0))
        obtain ⟨z0, z1, z2, z3, z4⟩ := HV.out.five
        have HB := Lib.hid (b5 (fcall b1) (Nat.le_refl _) (.int .i64 0) (.string ⟨#[]⟩) (.int .i64 0) (.int .i64 0) (.int .i64 0))
        clear hc hf
        simp [bodyPost, results, Tryd.results27, go_sem, z0, z1, z2, z3, z4, fstV]
        first | exact ⟨rfl, HB.out⟩ | exact HB.out
/-- how long a sign ahead is -/
def sgL (s : ByteArray) (h : 0 < s.size) : Nat := if twos.contains (s.data.toList.take 2) then 2 else if ones.contains s[0] then 1 else 0
theorem ix_ones (c : UInt8) : ones.contains c = decide (0 ≤ Lib.indexByte ones c) := Lib.contains_iff_indexByte ones c
theorem byte_back (b : UInt8) : ((b.toNat : Int)).toNat.toUInt8 = b := by simp
theorem index_c (b : UInt8) (w : World) : ∃ r : Int, (ones.contains b = decide (0 ≤ r)) ∧
    Calls Tryd.prog 51 #[.string ⟨#[46, 124, 44, 60, 62, 43, 45, 42, 47, 37, 40, 41, 91, 93, 123, 125, 58, 59]⟩, .int .u8 (b.toNat : Int)] w fun e w' => e = .returned (.int .i64 r) ∧ w' = w := by
  refine ⟨Lib.indexByte ones b, ix_ones b, ?_⟩
  have := Tryd.strings_IndexByte ⟨#[46, 124, 44, 60, 62, 43, 45, 42, 47, 37, 40, 41, 91, 93, 123, 125, 58, 59]⟩ (b.toNat : Int) w
  rw [byte_back] at this
  exact this
theorem twos_is (s : ByteArray) : twos.contains (s.data.toList.take 2) = decide ((s.extract 0 2).toList ∈ twos) := by
  rw [ByteArray.toList_eq, ex_sub, List.drop_zero, Nat.sub_zero, Bool.eq_iff_iff, List.contains_iff_mem, decide_eq_true_eq]
theorem min_two (s : ByteArray) : s.extract 0 (min (s.size : Int) 2).toNat = s.extract 0 2 := by
  rw [ex_sub, ex_sub]
  rcases Nat.lt_or_ge s.size 2 with h | h
  · rw [show (min (s.size : Int) 2).toNat = s.size by omega]
    simp only [List.drop_zero, Nat.sub_zero]
    have e : s.data.toList.length = s.size := by simp
    rw [List.take_of_length_le (by omega), List.take_of_length_le (by omega)]
  · rw [show (min (s.size : Int) 2).toNat = 2 by omega]
set_option maxRecDepth 100000 in
set_option maxHeartbeats 2000000 in
theorem signLength_any (s : ByteArray) (w : World) (hi : 0 < s.size) :
    Calls Tryd.prog 34 #[.string s] w fun e w' => e = .returned (.int .i64 (sgL s hi : Nat)) ∧ w = w' := by
  obtain ⟨r, hr, hc⟩ := index_c s[0] w
  have HS : Hid (sgL s hi = if decide ((s.extract 0 (min (s.size : Int) 2).toNat).toList ∈ twos) then 2 else if 0 ≤ r then 1 else 0) := Lib.hid (by
    unfold sgL
    rw [min_two, twos_is, hr]
    simp)
  have m1 : 0 ≤ min (s.size : Int) 2 := by omega
  have m2 : min (s.size : Int) 2 ≤ (s.size : Int) := by omega
  clear hr
  go_enter Tryd.func34, Tryd.ntmps34
  go_wp2_with (go_at_call 51; refine hc.mono ?_; rintro e w' ⟨rfl, rfl⟩)
  all_goals first | (exfalso; simp_all; done) | skip
  all_goals go_ret
  all_goals refine ⟨ret_i ?_, rfl⟩
  all_goals rw [HS.out]
  all_goals clear hc HS
  all_goals simp_all [twos]
  all_goals (split <;> omega)
set_option maxRecDepth 100000 in
set_option maxHeartbeats 1000000 in
theorem firstSign_any (s : ByteArray) (w : World) (hs : s.size ≤ 4200) (hi : 0 < s.size) (hL : isLn s[0].toNat = false) (h36 : s[0].toNat ≠ 36) (hD : isDn s[0].toNat = false) (h34 : s[0].toNat ≠ 34) :
    Calls Tryd.prog 28 #[.string s] w fun e w' => e = .returned (fstV (tokL s.data.toList)) ∧ Below w.heap.size w w' := by
  have ht := tok_sign hi hL h36 hD h34
  rw [List.drop_zero] at ht
  have h1 := fun w => signLength_any s w hi
  unfold sgL at h1
  by_cases h2 : twos.contains (s.data.toList.take 2) = true
  · rw [if_pos h2] at ht h1
    have hl : (2 : Int) ≤ s.size := by
      rcases Nat.lt_or_ge s.size 2 with g | g
      · have := two_no (s := s) (i := 0) (by omega)
        rw [List.drop_zero, h2] at this; cases this
      · omega
    have HX : Hid (s.extract 0 2 = ⟨(s.data.toList.take 2).toArray⟩) := Lib.hid (by rw [ex_sub, List.drop_zero, Nat.sub_zero])
    rw [ht]
    rw [show (((2 : Nat) : Int)) = 2 from rfl] at h1
    clear ht h2 hL h36 hD h34
    go_enter Tryd.func28, Tryd.ntmps28
    go_wp2_with (go_at_call 34; refine (h1 _).mono ?_; rintro e w' ⟨rfl, rfl⟩)
    exact bodyPost_ret (v := .tuple #[.agg #[.int .i64 5, .string (s.extract 0 2), .int .i64 0, .int .i64 0, .int .i64 0], .int .i64 2, .int .i64 0]) (by simp [results, Tryd.results28, go_sem]) rfl ⟨ret_v (by rw [HX.out]; rfl), by simpa using (Below.refl w.heap.size w).alloc (Nat.le_refl _) _⟩
  · rw [if_neg h2] at ht h1
    by_cases h3 : ones.contains s[0] = true
    · rw [if_pos h3] at ht h1
      have hl : (1 : Int) ≤ s.size := by omega
      have HX : Hid (s.extract 0 1 = ⟨[s[0]].toArray⟩) := Lib.hid (by
        have := at_drop s 0 hi
        rw [List.drop_zero] at this
        rw [ex_sub, List.drop_zero, Nat.sub_zero, this]; rfl)
      rw [ht]
      rw [show (((1 : Nat) : Int)) = 1 from rfl] at h1
      clear ht h2 h3 hL h36 hD h34
      go_enter Tryd.func28, Tryd.ntmps28
      go_wp2_with (go_at_call 34; refine (h1 _).mono ?_; rintro e w' ⟨rfl, rfl⟩)
      exact bodyPost_ret (v := .tuple #[.agg #[.int .i64 5, .string (s.extract 0 1), .int .i64 0, .int .i64 0, .int .i64 0], .int .i64 1, .int .i64 0]) (by simp [results, Tryd.results28, go_sem]) rfl ⟨ret_v (by rw [HX.out]; rfl), by simpa using (Below.refl w.heap.size w).alloc (Nat.le_refl _) _⟩
    · rw [if_neg h3] at ht h1
      rw [ht]
      rw [show (((0 : Nat) : Int)) = 0 from rfl] at h1
      clear ht h2 h3 hL h36 hD h34
      go_enter Tryd.func28, Tryd.ntmps28
      go_wp2_with (go_at_call 34; refine (h1 _).mono ?_; rintro e w' ⟨rfl, rfl⟩)
      exact bodyPost_ret (v := .tuple #[.agg #[.int .i64 0, .string ⟨#[]⟩, .int .i64 0, .int .i64 0, .int .i64 0], .int .i64 0, .int .i64 14]) (by simp [results, Tryd.results28, go_sem]) rfl ⟨rfl, by simpa using (Below.refl w.heap.size w).alloc (Nat.le_refl _) _⟩
theorem fstV_form (x : Except Nat (Nat × List UInt8 × (Int × Int) × Nat)) : ∃ (k : Nat) (t : ByteArray) (c s : Int) (m e : Nat), fstV x = .tuple #[.agg #[.int .i64 (k : Nat), .string t, .int .i64 c, .int .i64 s, .int .i64 0], .int .i64 (m : Nat), .int .i64 (e : Nat)] := by
  cases x with
  | error e => exact ⟨0, _, 0, 0, 0, e, rfl⟩
  | ok z => exact ⟨_, _, _, _, _, 0, rfl⟩
set_option maxRecDepth 100000 in
set_option maxHeartbeats 1000000 in
theorem first_any (s : ByteArray) (w : World) (hs : s.size ≤ 4200) (hi : 0 < s.size) :
    Calls Tryd.prog 16 #[.string s] w fun e w' => e = .returned (fstV (tokL s.data.toList)) ∧ Below w.heap.size w w' := by
  obtain ⟨k, t, cc, sc, m, er, hR⟩ := fstV_form (tokL s.data.toList)
  have hn := fun w => firstName_any s w hs hi
  have hv := fun w => firstVar_any s w hs hi
  have hu := fun w => firstNumber_any s w hs hi
  have hst := fun w => firstString_any s w hs hi
  have hsi := fun w => firstSign_any s w hs hi
  obtain ⟨c, hc⟩ : ∃ c, s[0].toNat = c := ⟨_, rfl⟩
  have hc256 : c < 256 := by rw [← hc]; exact s[0].toNat_lt
  have h1 := fun w => letter_any c w hc256
  have h2 := fun w => digit_any c w hc256
  rw [hR] at hn hv hu hst hsi ⊢
  rw [hc] at hn hv hu hst hsi
  clear hR
  cases hL : isLn c with
  | true =>
    have h := fun w => hn w hL
    rw [hL] at h1
    clear hn hv hu hst hsi hL hc256
    go_enter Tryd.func16, Tryd.ntmps16
    go_wp2_with (first | (go_at_call 23; refine (h _).mono ?_; rintro e w1 ⟨rfl, b1⟩; have hc := fun o => b1.cell (p := ⟨w.heap.size, o, none⟩) (by simp); have hf := fun o => b1.frozen (p := ⟨w.heap.size, o, none⟩) (by simp); have hz : w.heap.size < w1.heap.size := (by have := b1.size; simp at this; omega)) | (go_at_call 17; refine (h1 _).mono ?_; rintro e w' ⟨rfl, rfl⟩))
    have HV := Lib.hid (((Ub.new w #[.int .i64 0, .string ⟨#[]⟩, .int .i64 0, .int .i64 0, .int .i64 0]).on b1).put (.int .i64 (k : Nat)) (.string t) (.int .i64 cc) (.int .i64 sc) (.int .i64 0))
    obtain ⟨z0, z1, z2, z3, z4⟩ := HV.out.five
    have HB := Lib.hid (b5 (fcall b1) (Nat.le_refl _) (.int .i64 (k : Nat)) (.string t) (.int .i64 cc) (.int .i64 sc) (.int .i64 0))
    clear hc hf
    simp [bodyPost, results, Tryd.results16, go_sem, z0, z1, z2, z3, z4]
    exact HB.out
  | false =>
    rw [hL] at h1
    by_cases h36 : c = 36
    · have h := fun w => hv w h36
      subst h36
      clear hn hv hu hst hsi hL hc256
      go_enter Tryd.func16, Tryd.ntmps16
      go_wp2_with (first | (go_at_call 24; refine (h _).mono ?_; rintro e w1 ⟨rfl, b1⟩; have hc := fun o => b1.cell (p := ⟨w.heap.size, o, none⟩) (by simp); have hf := fun o => b1.frozen (p := ⟨w.heap.size, o, none⟩) (by simp); have hz : w.heap.size < w1.heap.size := (by have := b1.size; simp at this; omega)) | (go_at_call 17; refine (h1 _).mono ?_; rintro e w' ⟨rfl, rfl⟩))
      have HV := Lib.hid (((Ub.new w #[.int .i64 0, .string ⟨#[]⟩, .int .i64 0, .int .i64 0, .int .i64 0]).on b1).put (.int .i64 (k : Nat)) (.string t) (.int .i64 cc) (.int .i64 sc) (.int .i64 0))
      obtain ⟨z0, z1, z2, z3, z4⟩ := HV.out.five
      have HB := Lib.hid (b5 (fcall b1) (Nat.le_refl _) (.int .i64 (k : Nat)) (.string t) (.int .i64 cc) (.int .i64 sc) (.int .i64 0))
      clear hc hf
      simp [bodyPost, results, Tryd.results16, go_sem, z0, z1, z2, z3, z4]
      exact HB.out
    · have g1 : ((c : Int) == 36) = false := by simp; omega
      cases hD : isDn c with
      | true =>
        have h := fun w => hu w hL h36 hD
        rw [hD] at h2
        clear hn hv hu hst hsi hL hD hc256
        go_enter Tryd.func16, Tryd.ntmps16
        go_wp2_with (first | (go_at_call 26; refine (h _).mono ?_; rintro e w1 ⟨rfl, b1⟩; have hc := fun o => b1.cell (p := ⟨w.heap.size, o, none⟩) (by simp); have hf := fun o => b1.frozen (p := ⟨w.heap.size, o, none⟩) (by simp); have hz : w.heap.size < w1.heap.size := (by have := b1.size; simp at this; omega)) | (go_at_call 25; refine (h2 _).mono ?_; rintro e w' ⟨rfl, rfl⟩) | (go_at_call 17; refine (h1 _).mono ?_; rintro e w' ⟨rfl, rfl⟩))
        have HV := Lib.hid (((Ub.new w #[.int .i64 0, .string ⟨#[]⟩, .int .i64 0, .int .i64 0, .int .i64 0]).on b1).put (.int .i64 (k : Nat)) (.string t) (.int .i64 cc) (.int .i64 sc) (.int .i64 0))
        obtain ⟨z0, z1, z2, z3, z4⟩ := HV.out.five
        have HB := Lib.hid (b5 (fcall b1) (Nat.le_refl _) (.int .i64 (k : Nat)) (.string t) (.int .i64 cc) (.int .i64 sc) (.int .i64 0))
        clear hc hf
        simp [bodyPost, results, Tryd.results16, go_sem, z0, z1, z2, z3, z4]
        exact HB.out
      | false =>
        rw [hD] at h2
        by_cases h34 : c = 34
        · have h := fun w => hst w h34
          subst h34
          clear hn hv hu hst hsi hL hD hc256
          go_enter Tryd.func16, Tryd.ntmps16
          go_wp2_with (first | (go_at_call 27; refine (h _).mono ?_; rintro e w1 ⟨rfl, b1⟩; have hc := fun o => b1.cell (p := ⟨w.heap.size, o, none⟩) (by simp); have hf := fun o => b1.frozen (p := ⟨w.heap.size, o, none⟩) (by simp); have hz : w.heap.size < w1.heap.size := (by have := b1.size; simp at this; omega)) | (go_at_call 25; refine (h2 _).mono ?_; rintro e w' ⟨rfl, rfl⟩) | (go_at_call 17; refine (h1 _).mono ?_; rintro e w' ⟨rfl, rfl⟩))
          have HV := Lib.hid (((Ub.new w #[.int .i64 0, .string ⟨#[]⟩, .int .i64 0, .int .i64 0, .int .i64 0]).on b1).put (.int .i64 (k : Nat)) (.string t) (.int .i64 cc) (.int .i64 sc) (.int .i64 0))
          obtain ⟨z0, z1, z2, z3, z4⟩ := HV.out.five
          have HB := Lib.hid (b5 (fcall b1) (Nat.le_refl _) (.int .i64 (k : Nat)) (.string t) (.int .i64 cc) (.int .i64 sc) (.int .i64 0))
          clear hc hf
          simp [bodyPost, results, Tryd.results16, go_sem, z0, z1, z2, z3, z4]
          exact HB.out
        · have g2 : ((c : Int) == 34) = false := by simp; omega
          have h := fun w => hsi w hL h36 hD h34
          clear hn hv hu hst hsi hL hD hc256
          go_enter Tryd.func16, Tryd.ntmps16
          go_wp2_with (first | (go_at_call 28; refine (h _).mono ?_; rintro e w1 ⟨rfl, b1⟩; have hc := fun o => b1.cell (p := ⟨w.heap.size, o, none⟩) (by simp); have hf := fun o => b1.frozen (p := ⟨w.heap.size, o, none⟩) (by simp); have hz : w.heap.size < w1.heap.size := (by have := b1.size; simp at this; omega)) | (go_at_call 25; refine (h2 _).mono ?_; rintro e w' ⟨rfl, rfl⟩) | (go_at_call 17; refine (h1 _).mono ?_; rintro e w' ⟨rfl, rfl⟩))
          have HV := Lib.hid (((Ub.new w #[.int .i64 0, .string ⟨#[]⟩, .int .i64 0, .int .i64 0, .int .i64 0]).on b1).put (.int .i64 (k : Nat)) (.string t) (.int .i64 cc) (.int .i64 sc) (.int .i64 0))
          obtain ⟨z0, z1, z2, z3, z4⟩ := HV.out.five
          have HB := Lib.hid (b5 (fcall b1) (Nat.le_refl _) (.int .i64 (k : Nat)) (.string t) (.int .i64 cc) (.int .i64 sc) (.int .i64 0))
          clear hc hf
          simp [bodyPost, results, Tryd.results16, go_sem, z0, z1, z2, z3, z4]
          exact HB.out
end Lx
end Go.Proofs.YtpddkchnogfjkaaDoor
