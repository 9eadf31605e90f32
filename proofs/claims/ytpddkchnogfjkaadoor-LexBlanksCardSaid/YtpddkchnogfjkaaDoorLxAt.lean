/- Layer 13: what the document's functions of bytes at a place answer. -/
import Derived.Test.YtpddkchnogfjkaaDoorLxMath
import Derived.Test.YtpddkchnogfjkaaDoorChecked
import Derived.ProofKit
import Derived.Lib.Hide
import Derived.Deep.QuietTactic
import Derived.BigQuiet
import Derived.BigRegion
import Derived.RegionTactic
import Derived.ChangeAlike
import Derived.Deep.RegionHeld3
import Derived.Deep.DeepCutAuto
import Derived.IntWalk
import Derived.Laws.Unary
namespace Go.Proofs.YtpddkchnogfjkaaDoor
open Go.RowKit
namespace Lx
theorem at_drop (s : ByteArray) (k : Nat) (h : k < s.size) : s.data.toList.drop k = s[k] :: s.data.toList.drop (k + 1) :=
  List.drop_eq_getElem_cons (show k < s.data.toList.length by simpa using h)
theorem at_end (s : ByteArray) (k : Nat) (h : s.size ≤ k) : s.data.toList.drop k = [] := List.drop_eq_nil_of_le (by simpa using h)
/-- how far bytes of a kind go on from a place -/
def run (p : UInt8 → Bool) (s : ByteArray) (k : Nat) : Nat := k + ((s.data.toList.drop k).takeWhile p).length
theorem run_go {p : UInt8 → Bool} {s : ByteArray} {k : Nat} (h : k < s.size) (hp : p s[k] = true) : run p s k = run p s (k + 1) := by
  unfold run; rw [at_drop s k h, List.takeWhile_cons, if_pos hp, List.length_cons]; omega
theorem run_out {p : UInt8 → Bool} {s : ByteArray} {k : Nat} (h : k < s.size) (hp : p s[k] = false) : run p s k = k := by
  unfold run; rw [at_drop s k h, List.takeWhile_cons, if_neg (by rw [hp]; simp)]; rfl
theorem run_end {p : UInt8 → Bool} {s : ByteArray} {k : Nat} (h : s.size ≤ k) : run p s k = k := by
  unfold run; rw [at_end s k h]; rfl
theorem run_le (p : UInt8 → Bool) (s : ByteArray) {k : Nat} (h : k ≤ s.size) : run p s k ≤ s.size := by
  have := tw_le p (s.data.toList.drop k)
  rw [List.length_drop] at this
  have e : s.data.toList.length = s.size := by simp
  unfold run; omega
theorem run_ge (p : UInt8 → Bool) (s : ByteArray) (k : Nat) : k ≤ run p s k := by unfold run; omega
theorem ret_i {a b : Int} (h : a = b) : Ending.returned (.int .i64 a) = .returned (.int .i64 b) := by rw [h]
theorem ret_b {a b : Bool} (h : a = b) : Ending.returned (.bool a) = .returned (.bool b) := by rw [h]
def isLn (c : Nat) : Bool := decide (97 ≤ c ∧ c ≤ 122 ∨ 65 ≤ c ∧ c ≤ 90 ∨ c = 95)
def isDn (c : Nat) : Bool := decide (48 ≤ c ∧ c ≤ 57)
set_option maxRecDepth 100000 in
set_option maxHeartbeats 1000000 in
theorem rletter_any (b : Nat) (w : World) (hb : b < 256) :
    Calls Tryd.prog 20 #[.int .u8 b] w fun e w' => e = .returned (.bool (isLn b)) ∧ w = w' := by
  go_enter Tryd.func20, Tryd.ntmps20
  go_wp2
  all_goals
    go_ret
    refine ⟨ret_b ?_, rfl⟩
    unfold isLn
    (try simp only [beq_iff_eq, beq_eq_false_iff_ne, ne_eq] at *)
    first
    | (symm; apply decide_eq_true; omega)
    | (symm; apply decide_eq_false; omega)
    | (rw [Bool.eq_iff_iff]; simp only [Bool.or_eq_true, decide_eq_true_eq, beq_iff_eq]; omega)
set_option maxRecDepth 100000 in
set_option maxHeartbeats 1000000 in
theorem rdigit_any (b : Nat) (w : World) (hb : b < 256) :
    Calls Tryd.prog 21 #[.int .u8 b] w fun e w' => e = .returned (.bool (isDn b)) ∧ w = w' := by
  go_enter Tryd.func21, Tryd.ntmps21
  go_wp2
  all_goals
    go_ret
    refine ⟨ret_b ?_, rfl⟩
    unfold isDn
    (try simp only [beq_iff_eq, beq_eq_false_iff_ne, ne_eq] at *)
    first
    | (symm; apply decide_eq_true; omega)
    | (symm; apply decide_eq_false; omega)
    | (rw [Bool.eq_iff_iff]; simp only [decide_eq_true_eq]; omega)
/-- where a name that begins at a place ends -/
def nmE (s : ByteArray) (i : Nat) : Nat := i + nm (s.data.toList.drop i)
theorem isL_n (b : UInt8) : isL b = isLn b.toNat := rfl
theorem isD_n (b : UInt8) : isD b = isDn b.toNat := rfl
theorem nmE_no {s : ByteArray} {i : Nat} (h : i < s.size) (hL : isLn s[i].toNat = false) : nmE s i = i := by
  unfold nmE nm; rw [at_drop s i h]
  simp only [List.head?_cons, Option.map_some, Option.getD_some, isL_n, hL]; rfl
theorem nmE_end {s : ByteArray} {i : Nat} (h : s.size ≤ i) : nmE s i = i := by
  unfold nmE nm; rw [at_end s i h]; rfl
theorem nmE_run {s : ByteArray} {i : Nat} (h : i < s.size) (hL : isLn s[i].toNat = true) : nmE s i = run isW s i := by
  unfold nmE nm run; rw [at_drop s i h]
  simp only [List.head?_cons, Option.map_some, Option.getD_some, isL_n, hL, if_true]
theorem isW_n (b : UInt8) : isW b = (isLn b.toNat || isDn b.toNat) := rfl
set_option maxRecDepth 100000 in
set_option maxHeartbeats 1000000 in
theorem rname_any (s : ByteArray) (i : Nat) (w : World) (hs : s.size ≤ 1000000000) (hi : i ≤ s.size) :
    Calls Tryd.prog 14 #[.string s, .int .i64 (i : Nat)] w fun e w' => e = .returned (.int .i64 (nmE s i : Nat)) ∧ w = w' := by
  by_cases h0 : i < s.size
  · obtain ⟨c, hc⟩ : ∃ c, s[i].toNat = c := ⟨_, rfl⟩
    have hc256 : c < 256 := by rw [← hc]; exact s[i].toNat_lt
    have hl := fun w => rletter_any c w hc256
    cases hL : isLn c with
    | false =>
      rw [nmE_no h0 (by rw [hc]; exact hL)]
      rw [hL] at hl
      clear hL hc256
      go_enter Tryd.func14, Tryd.ntmps14
      go_wp2_with (go_at_call 20; refine (hl _).mono ?_; rintro e w' ⟨rfl, rfl⟩)
      go_ret
      exact ⟨rfl, rfl⟩
    | true =>
      rw [nmE_run h0 (by rw [hc]; exact hL)]
      rw [hL] at hl
      obtain ⟨R, hR⟩ : ∃ R, run isW s i = R := ⟨_, rfl⟩
      rw [hR]
      have HR := Lib.hid hR
      clear hL hc256 hR
      go_enter Tryd.func14, Tryd.ntmps14
      go_wp2_with (go_at_call 20; refine (hl _).mono ?_; rintro e w' ⟨rfl, rfl⟩)
      simp only [show decide (s.size ≤ i) = false from decide_eq_false (by omega)]
      go_loop [1] (fun j => ∃ k : Nat, j = .int .i64 (k : Nat) ∧ k ≤ s.size ∧ Hid (run isW s k = R)) (fun j => s.size - (intOf j).toNat)
      case atStart => exact ⟨i, rfl, hi, HR⟩
      case round =>
        clear hl
        obtain ⟨k, rfl, hk, HK⟩ := hrel
        by_cases hlt : k < s.size
        · obtain ⟨d, hd⟩ : ∃ d, s[k].toNat = d := ⟨_, rfl⟩
          have hd256 : d < 256 := by rw [← hd]; exact s[k].toNat_lt
          have h1 := fun w => rletter_any d w hd256
          have h2 := fun w => rdigit_any d w hd256
          have hw : isW s[k] = (isLn d || isDn d) := by rw [isW_n, hd]
          have HW := Lib.hid hw
          clear hw hd256
          cases hL : isLn d with
          | true =>
            have HN : Hid (run isW s (k + 1) = R) := Lib.hid (by rw [← run_go hlt (by rw [HW.out, hL]; rfl)]; exact HK.out)
            rw [hL] at h1
            clear hL h2 HW HK HR
            go_wp2_with (go_at_call 20; refine (h1 _).mono ?_; rintro e w' ⟨rfl, rfl⟩)
            go_round
            case rel => exact ⟨k + 1, by go_num, by omega, HN⟩
            case measure => simp [intOf]; omega
          | false =>
            cases hD : isDn d with
            | true =>
              have HN : Hid (run isW s (k + 1) = R) := Lib.hid (by rw [← run_go hlt (by rw [HW.out, hL, hD]; rfl)]; exact HK.out)
              rw [hL] at h1
              rw [hD] at h2
              clear hL hD HW HK HR
              go_wp2_with (first | (go_at_call 20; refine (h1 _).mono ?_; rintro e w' ⟨rfl, rfl⟩) | (go_at_call 21; refine (h2 _).mono ?_; rintro e w' ⟨rfl, rfl⟩))
              go_round
              case rel => exact ⟨k + 1, by go_num, by omega, HN⟩
              case measure => simp [intOf]; omega
            | false =>
              have HN : Hid (k = R) := Lib.hid (by rw [← HK.out]; exact (run_out hlt (by rw [HW.out, hL, hD]; rfl)).symm)
              rw [hL] at h1
              rw [hD] at h2
              clear hL hD HW HK HR
              go_wp2_with (first | (go_at_call 20; refine (h1 _).mono ?_; rintro e w' ⟨rfl, rfl⟩) | (go_at_call 21; refine (h2 _).mono ?_; rintro e w' ⟨rfl, rfl⟩))
              go_ret
              exact ⟨by rw [HN.out]; rfl, rfl⟩
        · have HN : Hid (k = R) := Lib.hid (by rw [← HK.out]; exact (run_end (by omega)).symm)
          clear HK HR
          go_wp2_with (fail)
          all_goals first | exact absurd ‹some undef = some (Value.bool _)› (by unfold undef; simp) | skip
          all_goals go_ret
          all_goals exact ⟨by rw [HN.out]; rfl, rfl⟩
  · rw [nmE_end (by omega)]
    go_enter Tryd.func14, Tryd.ntmps14
    go_wp2
    go_ret
    exact ⟨rfl, rfl⟩
/-- where a string ends whose quote stands at a place; none: it doesn't end -/
def strO (s : ByteArray) (k : Nat) : Option Nat := (strE (s.data.toList.drop k)).map (k + ·)
theorem strO_end {s : ByteArray} {k : Nat} (h : s.size ≤ k) : strO s k = none := by unfold strO; rw [at_end s k h]; rfl
theorem strO_q {s : ByteArray} {k : Nat} (h : k < s.size) (hc : s[k].toNat = 34) : strO s k = some (k + 1) := by
  unfold strO; rw [at_drop s k h]
  cases s.data.toList.drop (k + 1) with
  | nil => simp [strE, hc]
  | cons d t => simp [strE, hc]
theorem strO_esc {s : ByteArray} {k : Nat} (h : k < s.size) (hc : s[k].toNat = 92) : strO s k = strO s (k + 2) := by
  unfold strO; rw [at_drop s k h]
  by_cases h2 : k + 1 < s.size
  · rw [at_drop s (k + 1) h2]
    simp only [strE, if_pos hc, Option.map_map]
    congr 1
    funext x
    simp only [Function.comp]; omega
  · rw [at_end s (k + 1) (by omega), at_end s (k + 2) (by omega)]
    simp [strE, hc]
theorem strO_more {s : ByteArray} {k : Nat} (h : k < s.size) (h1 : s[k].toNat ≠ 92) (h2 : s[k].toNat ≠ 34) : strO s k = strO s (k + 1) := by
  unfold strO; rw [at_drop s k h]
  cases s.data.toList.drop (k + 1) with
  | nil => simp [strE, h2]
  | cons d t =>
    simp only [strE, if_neg h1, if_neg h2, Option.map_map]
    congr 1
    funext x
    simp only [Function.comp]; omega
/-- a place, or -1 -/
def orM (o : Option Nat) : Int := match o with | some n => (n : Nat) | none => -1
/-- where blanks end; 'b': within a line that a # has begun -/
def blkE (b : Bool) (s : ByteArray) (k : Nat) : Nat := k + blk b (s.data.toList.drop k)
theorem blkE_end {b : Bool} {s : ByteArray} {k : Nat} (h : s.size ≤ k) : blkE b s k = k := by unfold blkE; rw [at_end s k h]; cases b <;> rfl
theorem blkE_hash {s : ByteArray} {k : Nat} (h : k < s.size) (hc : s[k].toNat = 35) : blkE false s k = blkE true s k := by
  unfold blkE; rw [at_drop s k h]
  simp only [blk, hc]; rfl
theorem blkE_sp {s : ByteArray} {k : Nat} (h : k < s.size) (h1 : s[k].toNat ≠ 35) (hb : isB s[k] = true) : blkE false s k = blkE false s (k + 1) := by
  unfold blkE; rw [at_drop s k h]
  simp only [blk, if_neg h1, if_pos hb]; omega
theorem blkE_no {s : ByteArray} {k : Nat} (h : k < s.size) (h1 : s[k].toNat ≠ 35) (hb : isB s[k] = false) : blkE false s k = k := by
  unfold blkE; rw [at_drop s k h]
  simp only [blk, if_neg h1, hb]; simp
theorem blkE_in {s : ByteArray} {k : Nat} (h : k < s.size) (h1 : s[k].toNat ≠ 10) : blkE true s k = blkE true s (k + 1) := by
  unfold blkE; rw [at_drop s k h]
  simp only [blk]; rw [show (s[k].toNat != 10) = true by simpa using h1]; omega
theorem blkE_line {s : ByteArray} {k : Nat} (h : k < s.size) (h1 : s[k].toNat = 10) : blkE true s k = blkE false s k := by
  unfold blkE; rw [at_drop s k h]
  simp only [blk, h1]
  rw [if_neg (by omega), if_pos (by unfold isB; rw [h1]; rfl)]; rfl
theorem blkE_le (b : Bool) (s : ByteArray) {k : Nat} (h : k ≤ s.size) : blkE b s k ≤ s.size := by
  have := blk_le b (s.data.toList.drop k)
  rw [List.length_drop] at this
  have e : s.data.toList.length = s.size := by simp
  unfold blkE; omega
end Lx
end Go.Proofs.YtpddkchnogfjkaaDoor
