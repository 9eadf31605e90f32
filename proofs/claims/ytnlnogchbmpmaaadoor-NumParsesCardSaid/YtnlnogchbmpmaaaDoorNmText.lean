/- Text, of any number: its sign, its digits, its point. -/
import Derived.Test.YtnlnogchbmpmaaaDoorNmArith
import Derived.Test.YtnlnogchbmpmaaaDoorNmSplit
import Derived.Lib.AppendIntMem
import Derived.Lib.ItoaLen
namespace Go.Proofs.YtnlnogchbmpmaaaDoor
open Go.RowKit
namespace Nm
/-- the table of powers of ten that the library reads, whatever is done from block B on -/
def Tab (B : Nat) (w : World) : Prop := Lib.TabBelow Tryd.prog B w "internal/strconv.uint64pow10" .u64 Lib.pow10Tab
theorem fmt_any {B : Nat} {w : World} (hT : Tab B w) (n : Nat) (hn : n < 1000000000000000) :
    Calls Tryd.prog 26 #[.int .i64 (n : Int), .int .i64 10] w fun e w' => e = .returned (.string (sb (Lib.decDigits n))) ∧ Below w.heap.size w w' := by
  refine (Tryd.strconv_FormatInt_10 (n : Int) (by omega) (by omega) w hT.here).mono ?_
  rintro e w' ⟨rfl, k, os, rfl⟩
  refine ⟨?_, Lib.below_grow _ _ (Nat.le_refl _) _ _⟩
  unfold Lib.itoa
  rw [if_neg (by omega)]
  rfl
/-- digits filled up with noughts -/
def fill (s : Nat) (d : List UInt8) : List UInt8 := List.replicate (s + 1 - d.length) 48 ++ d
/-- digits with a point -/
def ptd (s : Nat) (d : List UInt8) : List UInt8 := if s = 0 then d else (fill s d).take ((fill s d).length - s) ++ [46] ++ (fill s d).drop ((fill s d).length - s)
/-- a number's text -/
def txt (c : Int) (s : Nat) : List UInt8 := (if c < 0 then [45] else []) ++ ptd s (Lib.decDigits c.natAbs)
theorem sb_app (a b : List UInt8) : sb a ++ sb b = sb (a ++ b) := by apply ByteArray.ext; simp [sb]
theorem rep48 (k : Nat) : Lib.repeatL [48] k = List.replicate k 48 := by
  induction k with
  | zero => rfl
  | succ k ih => simp [Lib.repeatL, ih, List.replicate_succ]
theorem dec_len (n : Nat) (hn : n < 1000000000000000) : (Lib.decDigits n).length ≤ 21 := by
  have := Lib.itoa_length_le (n : Int) (by omega) (by omega)
  unfold Lib.itoa at this
  rw [if_neg (by omega)] at this
  exact this
theorem ex_take' (l : List UInt8) (k : Nat) : (sb l).extract 0 k = sb (l.take k) := by rw [ex_take, sb_list]
theorem ex_drop' (l : List UInt8) (k : Nat) : (sb l).extract k (sb l).size = sb (l.drop k) := by rw [ex_drop, sb_list]
set_option maxRecDepth 100000 in
set_option maxHeartbeats 4000000 in
theorem text_any {B : Nat} (c s : Int) (w : World) (hT : Tab B w) (hB : B ≤ w.heap.size) :
    Calls Tryd.prog 8 #[nv c s] w fun e w' => e = .returned (.string (if isB c s = true then sb (txt c s.toNat) else ⟨#[63]⟩)) ∧ Below w.heap.size w w' := by
  unfold nv
  by_cases ia : isB c s = true
  case neg =>
    rw [if_neg ia]
    have ia : isB c s = false := by simpa using ia
    go_enter Tryd.func8, Tryd.ntmps8
    go_wp2_with (go_at_call 20; refine (is_c ia _).mono ?_; rintro e w1 ⟨rfl, b1⟩; have bel1 := bT (bA1 _ _) b1)
    go_ret
    exact ⟨rfl, bel1⟩
  rw [if_pos ia]
  have hi := isB_iff.1 ia
  have hT0 : Hid (∀ w', Below w.heap.size w w' → Tab B w') := Lib.hid (fun w' h => hT.on (h.mono hB))
  unfold txt
  have hfm : ∀ w', Hid (Below w.heap.size w w') → Calls Tryd.prog 26 #[.int .i64 (c.natAbs : Int), .int .i64 10] w' fun e w'' => e = .returned (.string (sb (Lib.decDigits c.natAbs))) ∧ Below w'.heap.size w' w'' := fun w' h => fmt_any (hT0.out w' h.out) c.natAbs (by omega)
  have hdl := dec_len c.natAbs (by omega)
  generalize Lib.decDigits c.natAbs = d at *
  obtain ⟨n, hn⟩ : ∃ n : Int, ((c.natAbs : Nat) : Int) = n := ⟨_, rfl⟩
  rw [hn] at hfm
  obtain ⟨k, rfl⟩ := Int.eq_ofNat_of_zero_le hi.1.1
  rw [show ((k : Nat) : Int).toNat = k by omega]
  obtain ⟨D, hD⟩ : ∃ D, sb d = D := ⟨_, rfl⟩
  rw [hD] at hfm
  have hDs : D.size = d.length := by rw [← hD, sb_size]
  have hD21 : D.size ≤ 21 := by omega
  obtain ⟨E, hE⟩ : ∃ E, sb (fill k d) = E := ⟨_, rfl⟩
  have hfl : (fill k d).length = (k + 1 - d.length) + d.length := by simp [fill]
  have hEs : E.size = (k + 1 - D.size) + D.size := by rw [← hE, sb_size, hfl, hDs]
  have hrep : ∀ (j : Nat) w, j ≤ 10 → Calls Tryd.prog 27 #[.string ⟨#[48]⟩, .int .i64 (j : Int)] w fun e w' => e = .returned (.string (sb (List.replicate j 48))) ∧ Below w.heap.size w w' := fun j w hj => by
    rw [← rep48]
    exact Tryd.strings_Repeat ⟨#[48]⟩ j w (by omega) (by have : (⟨#[48]⟩ : ByteArray).size = 1 := rfl; rw [this]; omega)
  by_cases hc : c < 0
  · rw [if_pos hc]
    have hnc : -c = n := by omega
    unfold ptd
    by_cases h0 : k = 0
    · rw [if_pos h0]
      subst h0
      have hadd := fun w => run_string_add_sum (P := Tryd.prog) w ⟨#[45]⟩ D (by have : (⟨#[45]⟩ : ByteArray).size = 1 := rfl; omega)
      rw [show (⟨#[45]⟩ : ByteArray) ++ D = sb ([45] ++ d) by rw [← hD, show (⟨#[45]⟩ : ByteArray) = sb [45] from rfl, sb_app]] at hadd
      obtain ⟨R, hR⟩ : ∃ R, sb ([45] ++ d) = R := ⟨_, rfl⟩
      rw [hR] at hadd ⊢
      clear hrep hE hEs hfl hDs hD hT0 hT hn hR
      go_enter Tryd.func8, Tryd.ntmps8
      go_wp2_with (go_at_call 20; refine (is_c ia _).mono ?_; rintro e w1 ⟨rfl, b1⟩; obtain ⟨p0, p1, p2, p3⟩ := boxed b1 w.heap.size (.int .i64 c) (.int .i64 0) (by simp [go_sem]) (by simp [go_sem]) (by simp [go_sem]) (by simp [go_sem]); have bel1 := bT (bA1 _ _) b1)
      go_quiet (fail)
      go_wp2_with (go_at_call 26; refine (hfm _ (Lib.hid (bD bel1 _))).mono ?_; rintro e w2 ⟨rfl, b2⟩; obtain ⟨q0, q1, q2, q3⟩ := boxed b2 w.heap.size _ _ p0 p1 p2 p3; have bel2 := bT (bD bel1 _) b2)
      go_ret
      exact ⟨rfl, bel2⟩
    rw [if_neg h0]
    have hk0 : ((k : Int) == 0) = false := by simp; omega
    by_cases hm : D.size < k + 1
    · obtain ⟨q, hq⟩ : ∃ q : Nat, E.size - k = q := ⟨_, rfl⟩
      have hqi : (E.size : Int) - (k : Int) = (q : Int) := by omega
      have hqE : q ≤ E.size := by omega
      rw [show (fill k d).length = E.size by rw [← hE, sb_size], hq]
      obtain ⟨X1, hX1⟩ : ∃ X, E.extract 0 q = X := ⟨_, rfl⟩
      obtain ⟨X2, hX2⟩ : ∃ X, E.extract q E.size = X := ⟨_, rfl⟩
      have hX1l : X1 = sb ((fill k d).take q) := by rw [← hX1, ← hE, ex_take']
      have hX2l : X2 = sb ((fill k d).drop q) := by rw [← hX2, ← hE, ex_drop']
      have l1 : X1.size ≤ 100 := by rw [← hX1, ByteArray.size_extract]; omega
      have l2 : X2.size ≤ 100 := by rw [← hX2, ByteArray.size_extract]; omega
      have ad1 := fun w => run_string_add_sum (P := Tryd.prog) w ⟨#[45]⟩ X1 (by have : (⟨#[45]⟩ : ByteArray).size = 1 := rfl; omega)
      obtain ⟨T1, hT1⟩ : ∃ X, (⟨#[45]⟩ : ByteArray) ++ X1 = X := ⟨_, rfl⟩
      have hT1l : T1 = sb ([45] ++ (fill k d).take q) := by rw [← hT1, hX1l, show (⟨#[45]⟩ : ByteArray) = sb [45] from rfl, sb_app]
      have l3 : T1.size ≤ 101 := by rw [← hT1, ByteArray.size_append]; have : (⟨#[45]⟩ : ByteArray).size = 1 := rfl; omega
      have ad2 := fun w => run_string_add_sum (P := Tryd.prog) w T1 ⟨#[46]⟩ (by have : (⟨#[46]⟩ : ByteArray).size = 1 := rfl; omega)
      obtain ⟨T2, hT2⟩ : ∃ X, T1 ++ (⟨#[46]⟩ : ByteArray) = X := ⟨_, rfl⟩
      have l4 : T2.size ≤ 102 := by rw [← hT2, ByteArray.size_append]; have : (⟨#[46]⟩ : ByteArray).size = 1 := rfl; omega
      have hT2l : T2 = sb (([45] ++ (fill k d).take q) ++ [46]) := by rw [← hT2, hT1l, show (⟨#[46]⟩ : ByteArray) = sb [46] from rfl, sb_app]
      have ad3 := fun w => run_string_add_sum (P := Tryd.prog) w T2 X2 (by omega)
      obtain ⟨T3, hT3⟩ : ∃ X, T2 ++ X2 = X := ⟨_, rfl⟩
      have hT3l : T3 = sb ([45] ++ ((fill k d).take q ++ [46] ++ (fill k d).drop q)) := by rw [← hT3, hT2l, hX2l, sb_app]; simp
      rw [hT1] at ad1
      rw [hT2] at ad2
      rw [hT3] at ad3
      rw [← hT3l]
      obtain ⟨j, hj⟩ : ∃ j : Nat, k + 1 - D.size = j := ⟨_, rfl⟩
      have hji : (k : Int) + 1 - (D.size : Int) = (j : Int) := by omega
      have hj0 : 0 < j := by omega
      have hrp := fun w => hrep j w (by omega)
      obtain ⟨RR, hRR⟩ : ∃ X, sb (List.replicate j 48) = X := ⟨_, rfl⟩
      rw [hRR] at hrp
      have ad0 := fun w => run_string_add_sum (P := Tryd.prog) w RR D (by rw [← hRR, sb_size, List.length_replicate]; omega)
      rw [show RR ++ D = E by rw [← hRR, ← hD, sb_app, ← hE]; unfold fill; rw [← hDs, hj]] at ad0
      have hE100 : E.size ≤ 100 := by omega
      clear hrep hEs hfl hDs hT0 hT hn hT1 hT2 hT3 hT1l hT2l hT3l hX1l hX2l hRR hj hq
      have HE := Lib.hid hE
      have HD := Lib.hid hD
      clear hE hD
      go_enter Tryd.func8, Tryd.ntmps8
      go_wp2_with (go_at_call 20; refine (is_c ia _).mono ?_; rintro e w1 ⟨rfl, b1⟩; obtain ⟨p0, p1, p2, p3⟩ := boxed b1 w.heap.size (.int .i64 c) (.int .i64 k) (by simp [go_sem]) (by simp [go_sem]) (by simp [go_sem]) (by simp [go_sem]); have bel1 := bT (bA1 _ _) b1)
      go_quiet (fail)
      go_wp2_with (first | (go_at_call 26; refine (hfm _ (Lib.hid (bD bel1 _))).mono ?_; rintro e w2 ⟨rfl, b2⟩; obtain ⟨q0, q1, q2, q3⟩ := boxed b2 w.heap.size _ _ p0 p1 p2 p3; have bel2 := bT (bD bel1 _) b2) | (go_at_call 27; refine (hrp _).mono ?_; rintro e w3 ⟨rfl, b3⟩; obtain ⟨s0, s1, s2, s3⟩ := boxed b3 _ _ _ q0 q1 q2 q3; have bel3 := bT bel2 b3))
      go_quiet (fail)
      go_wp2
      go_ret
      exact ⟨rfl, bD bel3 _⟩
    obtain ⟨q, hq⟩ : ∃ q : Nat, E.size - k = q := ⟨_, rfl⟩
    have hqi : (E.size : Int) - (k : Int) = (q : Int) := by omega
    have hqE : q ≤ E.size := by omega
    rw [show (fill k d).length = E.size by rw [← hE, sb_size], hq]
    obtain ⟨X1, hX1⟩ : ∃ X, E.extract 0 q = X := ⟨_, rfl⟩
    obtain ⟨X2, hX2⟩ : ∃ X, E.extract q E.size = X := ⟨_, rfl⟩
    have hX1l : X1 = sb ((fill k d).take q) := by rw [← hX1, ← hE, ex_take']
    have hX2l : X2 = sb ((fill k d).drop q) := by rw [← hX2, ← hE, ex_drop']
    have l1 : X1.size ≤ 100 := by rw [← hX1, ByteArray.size_extract]; omega
    have l2 : X2.size ≤ 100 := by rw [← hX2, ByteArray.size_extract]; omega
    have ad1 := fun w => run_string_add_sum (P := Tryd.prog) w ⟨#[45]⟩ X1 (by have : (⟨#[45]⟩ : ByteArray).size = 1 := rfl; omega)
    obtain ⟨T1, hT1⟩ : ∃ X, (⟨#[45]⟩ : ByteArray) ++ X1 = X := ⟨_, rfl⟩
    have hT1l : T1 = sb ([45] ++ (fill k d).take q) := by rw [← hT1, hX1l, show (⟨#[45]⟩ : ByteArray) = sb [45] from rfl, sb_app]
    have l3 : T1.size ≤ 101 := by rw [← hT1, ByteArray.size_append]; have : (⟨#[45]⟩ : ByteArray).size = 1 := rfl; omega
    have ad2 := fun w => run_string_add_sum (P := Tryd.prog) w T1 ⟨#[46]⟩ (by have : (⟨#[46]⟩ : ByteArray).size = 1 := rfl; omega)
    obtain ⟨T2, hT2⟩ : ∃ X, T1 ++ (⟨#[46]⟩ : ByteArray) = X := ⟨_, rfl⟩
    have l4 : T2.size ≤ 102 := by rw [← hT2, ByteArray.size_append]; have : (⟨#[46]⟩ : ByteArray).size = 1 := rfl; omega
    have hT2l : T2 = sb (([45] ++ (fill k d).take q) ++ [46]) := by rw [← hT2, hT1l, show (⟨#[46]⟩ : ByteArray) = sb [46] from rfl, sb_app]
    have ad3 := fun w => run_string_add_sum (P := Tryd.prog) w T2 X2 (by omega)
    obtain ⟨T3, hT3⟩ : ∃ X, T2 ++ X2 = X := ⟨_, rfl⟩
    have hT3l : T3 = sb ([45] ++ ((fill k d).take q ++ [46] ++ (fill k d).drop q)) := by rw [← hT3, hT2l, hX2l, sb_app]; simp
    rw [hT1] at ad1
    rw [hT2] at ad2
    rw [hT3] at ad3
    rw [← hT3l]
    have hDE : D = E := by rw [← hD, ← hE]; unfold fill; rw [show k + 1 - d.length = 0 by omega]; rfl
    have hjn : (k : Int) + 1 - (D.size : Int) ≤ 0 := by omega
    have hE100 : E.size ≤ 100 := by omega
    rw [hDE] at hfm hjn hD21
    clear hrep hEs hfl hDs hT0 hT hn hT1 hT2 hT3 hT1l hT2l hT3l hX1l hX2l hE hD hDE hq
    go_enter Tryd.func8, Tryd.ntmps8
    go_wp2_with (go_at_call 20; refine (is_c ia _).mono ?_; rintro e w1 ⟨rfl, b1⟩; obtain ⟨p0, p1, p2, p3⟩ := boxed b1 w.heap.size (.int .i64 c) (.int .i64 k) (by simp [go_sem]) (by simp [go_sem]) (by simp [go_sem]) (by simp [go_sem]); have bel1 := bT (bA1 _ _) b1)
    go_quiet (fail)
    go_wp2_with (go_at_call 26; refine (hfm _ (Lib.hid (bD bel1 _))).mono ?_; rintro e w2 ⟨rfl, b2⟩; obtain ⟨q0, q1, q2, q3⟩ := boxed b2 w.heap.size _ _ p0 p1 p2 p3; have bel2 := bT (bD bel1 _) b2)
    go_quiet (fail)
    go_wp2
    go_ret
    exact ⟨rfl, bD bel2 _⟩
  rw [if_neg hc]
  have hnc : n = c := by omega
  rw [hnc] at hfm hn
  clear hnc
  unfold ptd
  by_cases h0 : k = 0
  · rw [if_pos h0]
    subst h0
    have hadd := fun w => run_string_add_sum (P := Tryd.prog) w ⟨#[]⟩ D (by have : (⟨#[]⟩ : ByteArray).size = 0 := rfl; omega)
    rw [show (⟨#[]⟩ : ByteArray) ++ D = sb ([] ++ d) by rw [← hD, show (⟨#[]⟩ : ByteArray) = sb [] from rfl, sb_app]] at hadd
    obtain ⟨R, hR⟩ : ∃ R, sb ([] ++ d) = R := ⟨_, rfl⟩
    rw [hR] at hadd ⊢
    clear hrep hE hEs hfl hDs hD hT0 hT hn hR
    go_enter Tryd.func8, Tryd.ntmps8
    go_wp2_with (go_at_call 20; refine (is_c ia _).mono ?_; rintro e w1 ⟨rfl, b1⟩; obtain ⟨p0, p1, p2, p3⟩ := boxed b1 w.heap.size (.int .i64 c) (.int .i64 0) (by simp [go_sem]) (by simp [go_sem]) (by simp [go_sem]) (by simp [go_sem]); have bel1 := bT (bA1 _ _) b1)
    go_quiet (fail)
    go_wp2_with (go_at_call 26; refine (hfm _ (Lib.hid (bD bel1 _))).mono ?_; rintro e w2 ⟨rfl, b2⟩; obtain ⟨q0, q1, q2, q3⟩ := boxed b2 w.heap.size _ _ p0 p1 p2 p3; have bel2 := bT (bD bel1 _) b2)
    go_ret
    exact ⟨rfl, bel2⟩
  rw [if_neg h0]
  have hk0 : ((k : Int) == 0) = false := by simp; omega
  by_cases hm : D.size < k + 1
  · obtain ⟨q, hq⟩ : ∃ q : Nat, E.size - k = q := ⟨_, rfl⟩
    have hqi : (E.size : Int) - (k : Int) = (q : Int) := by omega
    have hqE : q ≤ E.size := by omega
    rw [show (fill k d).length = E.size by rw [← hE, sb_size], hq]
    obtain ⟨X1, hX1⟩ : ∃ X, E.extract 0 q = X := ⟨_, rfl⟩
    obtain ⟨X2, hX2⟩ : ∃ X, E.extract q E.size = X := ⟨_, rfl⟩
    have hX1l : X1 = sb ((fill k d).take q) := by rw [← hX1, ← hE, ex_take']
    have hX2l : X2 = sb ((fill k d).drop q) := by rw [← hX2, ← hE, ex_drop']
    have l1 : X1.size ≤ 100 := by rw [← hX1, ByteArray.size_extract]; omega
    have l2 : X2.size ≤ 100 := by rw [← hX2, ByteArray.size_extract]; omega
    have ad1 := fun w => run_string_add_sum (P := Tryd.prog) w ⟨#[]⟩ X1 (by have : (⟨#[]⟩ : ByteArray).size = 0 := rfl; omega)
    obtain ⟨T1, hT1⟩ : ∃ X, (⟨#[]⟩ : ByteArray) ++ X1 = X := ⟨_, rfl⟩
    have hT1l : T1 = sb ([] ++ (fill k d).take q) := by rw [← hT1, hX1l, show (⟨#[]⟩ : ByteArray) = sb [] from rfl, sb_app]
    have l3 : T1.size ≤ 101 := by rw [← hT1, ByteArray.size_append]; have : (⟨#[]⟩ : ByteArray).size = 0 := rfl; omega
    have ad2 := fun w => run_string_add_sum (P := Tryd.prog) w T1 ⟨#[46]⟩ (by have : (⟨#[46]⟩ : ByteArray).size = 1 := rfl; omega)
    obtain ⟨T2, hT2⟩ : ∃ X, T1 ++ (⟨#[46]⟩ : ByteArray) = X := ⟨_, rfl⟩
    have l4 : T2.size ≤ 102 := by rw [← hT2, ByteArray.size_append]; have : (⟨#[46]⟩ : ByteArray).size = 1 := rfl; omega
    have hT2l : T2 = sb (([] ++ (fill k d).take q) ++ [46]) := by rw [← hT2, hT1l, show (⟨#[46]⟩ : ByteArray) = sb [46] from rfl, sb_app]
    have ad3 := fun w => run_string_add_sum (P := Tryd.prog) w T2 X2 (by omega)
    obtain ⟨T3, hT3⟩ : ∃ X, T2 ++ X2 = X := ⟨_, rfl⟩
    have hT3l : T3 = sb ([] ++ ((fill k d).take q ++ [46] ++ (fill k d).drop q)) := by rw [← hT3, hT2l, hX2l, sb_app]; simp
    rw [hT1] at ad1
    rw [hT2] at ad2
    rw [hT3] at ad3
    rw [← hT3l]
    obtain ⟨j, hj⟩ : ∃ j : Nat, k + 1 - D.size = j := ⟨_, rfl⟩
    have hji : (k : Int) + 1 - (D.size : Int) = (j : Int) := by omega
    have hj0 : 0 < j := by omega
    have hrp := fun w => hrep j w (by omega)
    obtain ⟨RR, hRR⟩ : ∃ X, sb (List.replicate j 48) = X := ⟨_, rfl⟩
    rw [hRR] at hrp
    have ad0 := fun w => run_string_add_sum (P := Tryd.prog) w RR D (by rw [← hRR, sb_size, List.length_replicate]; omega)
    rw [show RR ++ D = E by rw [← hRR, ← hD, sb_app, ← hE]; unfold fill; rw [← hDs, hj]] at ad0
    have hE100 : E.size ≤ 100 := by omega
    clear hrep hEs hfl hDs hT0 hT hn hT1 hT2 hT3 hT1l hT2l hT3l hX1l hX2l hRR hj hq
    have HE := Lib.hid hE
    have HD := Lib.hid hD
    clear hE hD
    go_enter Tryd.func8, Tryd.ntmps8
    go_wp2_with (go_at_call 20; refine (is_c ia _).mono ?_; rintro e w1 ⟨rfl, b1⟩; obtain ⟨p0, p1, p2, p3⟩ := boxed b1 w.heap.size (.int .i64 c) (.int .i64 k) (by simp [go_sem]) (by simp [go_sem]) (by simp [go_sem]) (by simp [go_sem]); have bel1 := bT (bA1 _ _) b1)
    go_quiet (fail)
    go_wp2_with (first | (go_at_call 26; refine (hfm _ (Lib.hid (bD bel1 _))).mono ?_; rintro e w2 ⟨rfl, b2⟩; obtain ⟨q0, q1, q2, q3⟩ := boxed b2 w.heap.size _ _ p0 p1 p2 p3; have bel2 := bT (bD bel1 _) b2) | (go_at_call 27; refine (hrp _).mono ?_; rintro e w3 ⟨rfl, b3⟩; obtain ⟨s0, s1, s2, s3⟩ := boxed b3 _ _ _ q0 q1 q2 q3; have bel3 := bT bel2 b3))
    go_quiet (fail)
    go_wp2
    go_ret
    exact ⟨rfl, bD bel3 _⟩
  obtain ⟨q, hq⟩ : ∃ q : Nat, E.size - k = q := ⟨_, rfl⟩
  have hqi : (E.size : Int) - (k : Int) = (q : Int) := by omega
  have hqE : q ≤ E.size := by omega
  rw [show (fill k d).length = E.size by rw [← hE, sb_size], hq]
  obtain ⟨X1, hX1⟩ : ∃ X, E.extract 0 q = X := ⟨_, rfl⟩
  obtain ⟨X2, hX2⟩ : ∃ X, E.extract q E.size = X := ⟨_, rfl⟩
  have hX1l : X1 = sb ((fill k d).take q) := by rw [← hX1, ← hE, ex_take']
  have hX2l : X2 = sb ((fill k d).drop q) := by rw [← hX2, ← hE, ex_drop']
  have l1 : X1.size ≤ 100 := by rw [← hX1, ByteArray.size_extract]; omega
  have l2 : X2.size ≤ 100 := by rw [← hX2, ByteArray.size_extract]; omega
  have ad1 := fun w => run_string_add_sum (P := Tryd.prog) w ⟨#[]⟩ X1 (by have : (⟨#[]⟩ : ByteArray).size = 0 := rfl; omega)
  obtain ⟨T1, hT1⟩ : ∃ X, (⟨#[]⟩ : ByteArray) ++ X1 = X := ⟨_, rfl⟩
  have hT1l : T1 = sb ([] ++ (fill k d).take q) := by rw [← hT1, hX1l, show (⟨#[]⟩ : ByteArray) = sb [] from rfl, sb_app]
  have l3 : T1.size ≤ 101 := by rw [← hT1, ByteArray.size_append]; have : (⟨#[]⟩ : ByteArray).size = 0 := rfl; omega
  have ad2 := fun w => run_string_add_sum (P := Tryd.prog) w T1 ⟨#[46]⟩ (by have : (⟨#[46]⟩ : ByteArray).size = 1 := rfl; omega)
  obtain ⟨T2, hT2⟩ : ∃ X, T1 ++ (⟨#[46]⟩ : ByteArray) = X := ⟨_, rfl⟩
  have l4 : T2.size ≤ 102 := by rw [← hT2, ByteArray.size_append]; have : (⟨#[46]⟩ : ByteArray).size = 1 := rfl; omega
  have hT2l : T2 = sb (([] ++ (fill k d).take q) ++ [46]) := by rw [← hT2, hT1l, show (⟨#[46]⟩ : ByteArray) = sb [46] from rfl, sb_app]
  have ad3 := fun w => run_string_add_sum (P := Tryd.prog) w T2 X2 (by omega)
  obtain ⟨T3, hT3⟩ : ∃ X, T2 ++ X2 = X := ⟨_, rfl⟩
  have hT3l : T3 = sb ([] ++ ((fill k d).take q ++ [46] ++ (fill k d).drop q)) := by rw [← hT3, hT2l, hX2l, sb_app]; simp
  rw [hT1] at ad1
  rw [hT2] at ad2
  rw [hT3] at ad3
  rw [← hT3l]
  have hDE : D = E := by rw [← hD, ← hE]; unfold fill; rw [show k + 1 - d.length = 0 by omega]; rfl
  have hjn : (k : Int) + 1 - (D.size : Int) ≤ 0 := by omega
  have hE100 : E.size ≤ 100 := by omega
  rw [hDE] at hfm hjn hD21
  clear hrep hEs hfl hDs hT0 hT hn hT1 hT2 hT3 hT1l hT2l hT3l hX1l hX2l hE hD hDE hq
  go_enter Tryd.func8, Tryd.ntmps8
  go_wp2_with (go_at_call 20; refine (is_c ia _).mono ?_; rintro e w1 ⟨rfl, b1⟩; obtain ⟨p0, p1, p2, p3⟩ := boxed b1 w.heap.size (.int .i64 c) (.int .i64 k) (by simp [go_sem]) (by simp [go_sem]) (by simp [go_sem]) (by simp [go_sem]); have bel1 := bT (bA1 _ _) b1)
  go_quiet (fail)
  go_wp2_with (go_at_call 26; refine (hfm _ (Lib.hid (bD bel1 _))).mono ?_; rintro e w2 ⟨rfl, b2⟩; obtain ⟨q0, q1, q2, q3⟩ := boxed b2 w.heap.size _ _ p0 p1 p2 p3; have bel2 := bT (bD bel1 _) b2)
  go_quiet (fail)
  go_wp2
  go_ret
  exact ⟨rfl, bD bel2 _⟩
end Nm
end Go.Proofs.YtnlnogchbmpmaaaDoor
