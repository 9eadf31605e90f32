/- Numbers' texts taken apart: digitsAhead, signAhead, number, of every text. -/
import Derived.Test.YtpddkchnogfjkaaDoorNmOps
import Derived.Lib.Strings
import Derived.Lib.IndexBytes
namespace Go.Proofs.YtpddkchnogfjkaaDoor
open Go.RowKit
namespace Nm
/-- a text of these bytes -/
def sb (l : List UInt8) : ByteArray := ⟨l.toArray⟩
theorem sb_list (l : List UInt8) : (sb l).data.toList = l := by simp [sb]
theorem sb_of (s : ByteArray) : sb s.data.toList = s := by simp [sb]
theorem sb_size (l : List UInt8) : (sb l).size = l.length := by simp [sb, ByteArray.size]
/-- a digit -/
def isD (b : UInt8) : Bool := decide (48 ≤ b.toNat ∧ b.toNat ≤ 57)
theorem take_of (p : UInt8 → Bool) : ∀ (l : List UInt8) (k : Nat), k ≤ l.length → (∀ j b, j < k → l[j]? = some b → p b = true) → (∀ b, l[k]? = some b → p b = false) → l.takeWhile p = l.take k ∧ l.dropWhile p = l.drop k
  | [], k, hk, _, _ => by simp at hk; subst hk; simp
  | c :: t, 0, _, _, h2 => by
    have : p c = false := h2 c rfl
    simp [List.takeWhile, List.dropWhile, this]
  | c :: t, k + 1, hk, h1, h2 => by
    have hc : p c = true := h1 0 c (by omega) rfl
    have ih := take_of p t k (by simp at hk; omega) (fun j b hj hb => h1 (j + 1) b (by omega) (by simpa using hb)) (fun b hb => h2 b (by simpa using hb))
    simp [List.takeWhile, List.dropWhile, hc, ih]
theorem ex_take (s : ByteArray) (k : Nat) : s.extract 0 k = sb (s.data.toList.take k) := by
  rw [← sb_of (s.extract 0 k), Lib.extract_data]; simp
theorem ex_drop (s : ByteArray) (k : Nat) : s.extract k s.size = sb (s.data.toList.drop k) := by
  rw [← sb_of (s.extract k s.size), Lib.extract_to_end]
theorem get_at (s : ByteArray) (k : Nat) (h : k < s.size) : s.data.toList[k]? = some s[k] := by
  rw [Array.getElem?_toList, Array.getElem?_eq_getElem (show k < s.data.size from h)]; rfl
set_option maxRecDepth 100000 in
theorem digitsAhead_any (s : ByteArray) (w : World) (hs : s.size ≤ 9223372036854775807) :
    Calls Tryd.prog 57 #[.string s] w fun e w' => e = .returned (.tuple #[.string (sb (s.data.toList.takeWhile isD)), .string (sb (s.data.toList.dropWhile isD))]) ∧ ∃ n, w' = w.drewN n := by
  go_enter Tryd.func57, Tryd.ntmps57
  go_wp2
  go_loop [4] (fun i => ∃ k : Nat, i = .int .i64 (k : Int) ∧ k ≤ s.size ∧ Hid (∀ j b, j < k → s.data.toList[j]? = some b → isD b = true)) (fun i => s.size - (intOf i).toNat)
  case atStart => exact ⟨0, rfl, by omega, Lib.hid (fun j b hj _ => by omega)⟩
  case round =>
    obtain ⟨k, rfl, hk, HD⟩ := hrel
    have fin : ∀ (h : ∀ b, s.data.toList[k]? = some b → isD b = false), sb (s.data.toList.takeWhile isD) = s.extract 0 k ∧ sb (s.data.toList.dropWhile isD) = s.extract k s.size := fun h => by
      have := take_of isD s.data.toList k (by rw [← Lib.size_eq]; exact hk) HD.out h
      rw [this.1, this.2, ex_take, ex_drop]
      exact ⟨rfl, rfl⟩
    have FIN := Lib.hid fin
    clear fin
    by_cases hlt : k < s.size
    · obtain ⟨b, hb⟩ : ∃ b, s[k].toNat = b := ⟨_, rfl⟩
      have hget := Lib.hid (get_at s k hlt)
      by_cases h1 : 48 ≤ b
      · by_cases h2 : b ≤ 57
        · have HD' : Hid (∀ j b, j < k + 1 → s.data.toList[j]? = some b → isD b = true) := Lib.hid (fun j c hj hc => by
            by_cases e : j = k
            · subst e
              rw [hget.out] at hc
              obtain rfl := Option.some.inj hc
              exact decide_eq_true (by omega)
            · exact HD.out j c (by omega) hc)
          clear HD FIN
          go_wp2
          go_round
          case rel => exact ⟨k + 1, by go_num, by omega, HD'⟩
          case measure => simp [intOf]; omega
        · have F := Lib.hid (FIN.out (fun c hc => by rw [hget.out] at hc; obtain rfl := Option.some.inj hc; exact decide_eq_false (by omega)))
          clear FIN HD hget
          go_wp2
          go_quiet (fail)
          go_wp2
          go_ret2
          exact ⟨by rw [F.out.1, F.out.2]; rfl, _, rfl⟩
      · have F := Lib.hid (FIN.out (fun c hc => by rw [hget.out] at hc; obtain rfl := Option.some.inj hc; exact decide_eq_false (by omega)))
        clear FIN HD hget
        go_wp2
        go_quiet (fail)
        go_wp2
        go_ret2
        exact ⟨by rw [F.out.1, F.out.2]; rfl, _, rfl⟩
    · have F := Lib.hid (FIN.out (fun c hc => by have := (List.getElem?_eq_some_iff.1 hc).1; rw [← Lib.size_eq] at this; omega))
      clear FIN HD
      go_wp2
      go_quiet (fail)
      go_wp2
      go_ret2
      exact ⟨by rw [F.out.1, F.out.2]; rfl, _, rfl⟩
/-- a sign ahead -/
def sgn : List UInt8 → Bool × List UInt8
  | [] => (false, [])
  | c :: t => if c = 45 then (true, t) else if c = 43 then (false, t) else (false, c :: t)
theorem pre_cons (c d : UInt8) (t : List UInt8) : Lib.hasPrefix (c :: t) [d] = (d == c) := by simp [Lib.hasPrefix, List.isPrefixOf]
theorem pre_nil (d : UInt8) : Lib.hasPrefix [] [d] = false := rfl
theorem trim_yes {c : UInt8} {t : List UInt8} : Lib.trimPrefix (c :: t) [c] = t := by simp [Lib.trimPrefix, pre_cons]
theorem trim_no {d : UInt8} {l : List UInt8} (h : Lib.hasPrefix l [d] = false) : Lib.trimPrefix l [d] = l := by simp [Lib.trimPrefix, h]
theorem cut_any (s : ByteArray) (d : UInt8) (w : World) : Calls Tryd.prog 56 #[.string s, .string ⟨#[d]⟩] w fun e w' => e = .returned (.tuple #[.string (sb (Lib.trimPrefix s.data.toList [d])), .bool (Lib.hasPrefix s.data.toList [d])]) ∧ w' = w := Tryd.strings_CutPrefix s ⟨#[d]⟩ w
set_option maxRecDepth 100000 in
theorem signAhead_any (s : ByteArray) (w : World) :
    Calls Tryd.prog 58 #[.string s] w fun e w' => e = .returned (.tuple #[.bool (sgn s.data.toList).1, .string (sb (sgn s.data.toList).2)]) ∧ w' = w := by
  have hc := fun w => cut_any s 45 w
  have ht : ∀ w, Calls Tryd.prog 80 #[.string s, .string ⟨#[43]⟩] w fun e w' => e = .returned (.string (sb (Lib.trimPrefix s.data.toList [43]))) ∧ w' = w := fun w => Tryd.strings_TrimPrefix s ⟨#[43]⟩ w
  obtain ⟨l, hl⟩ : ∃ l, s.data.toList = l := ⟨_, rfl⟩
  rw [hl] at hc ht ⊢
  clear hl
  obtain ⟨x, hx⟩ : ∃ x, sb (sgn l).2 = x := ⟨_, rfl⟩
  by_cases h : Lib.hasPrefix l [45] = true
  · have e1 : (sgn l).1 = true ∧ Lib.trimPrefix l [45] = (sgn l).2 := by
      cases l with
      | nil => simp [pre_nil] at h
      | cons c t =>
        rw [pre_cons] at h
        obtain rfl : 45 = c := by simpa using h
        exact ⟨rfl, trim_yes⟩
    rw [h, e1.2, hx] at hc
    rw [e1.1, hx]
    clear e1 hx h ht
    go_enter Tryd.func58, Tryd.ntmps58
    go_wp2_with (go_at_call 56; refine (hc _).mono ?_; rintro e w' ⟨rfl, rfl⟩)
    go_ret2
    exact ⟨rfl, rfl⟩
  · have h : Lib.hasPrefix l [45] = false := by simpa using h
    have e1 : (sgn l).1 = false ∧ Lib.trimPrefix l [43] = (sgn l).2 := by
      cases l with
      | nil => exact ⟨rfl, rfl⟩
      | cons c t =>
        rw [pre_cons] at h
        have h' : c ≠ 45 := by intro e; subst e; simp at h
        simp only [sgn]
        rw [if_neg h']
        by_cases h2 : c = 43
        · subst h2; exact ⟨rfl, trim_yes⟩
        · rw [if_neg h2]
          exact ⟨rfl, trim_no (by rw [pre_cons]; simp; exact fun e => h2 e.symm)⟩
    rw [h] at hc
    rw [e1.2, hx] at ht
    rw [e1.1, hx]
    clear e1 hx h
    generalize sb (Lib.trimPrefix l [45]) = z at hc
    go_enter Tryd.func58, Tryd.ntmps58
    go_wp2_with (first | (go_at_call 56; refine (hc _).mono ?_; rintro e w' ⟨rfl, rfl⟩) | (go_at_call 80; refine (ht _).mono ?_; rintro e w' ⟨rfl, rfl⟩))
    go_ret2
    exact ⟨rfl, rfl⟩
/-- what digits stand for -/
def vl (l : List UInt8) : Nat := l.foldl (fun n b => n * 10 + (b.toNat - 48)) 0
theorem vl_snoc (l : List UInt8) (b : UInt8) : vl (l ++ [b]) = vl l * 10 + (b.toNat - 48) := by simp [vl, List.foldl_append]
set_option maxRecDepth 100000 in
theorem number_any (s : ByteArray) (w : World) (hs : s.size ≤ 9223372036854775807) (hd : ∀ b, b ∈ s.data.toList → isD b = true) :
    Calls Tryd.prog 42 #[.string s] w fun e w' => e = .returned (.int .i64 ((min (vl s.data.toList) 1000000000000000 : Nat) : Int)) ∧ w = w' := by
  have HD := Lib.hid hd
  clear hd
  obtain ⟨P, hP⟩ : ∃ P : Int, ((min (vl s.data.toList) 1000000000000000 : Nat) : Int) = P := ⟨_, rfl⟩
  rw [hP]
  have HP := Lib.hid hP
  clear hP
  go_enter Tryd.func42, Tryd.ntmps42
  go_wp2
  go_loop [3, 4, 7] (fun n _ i => ∃ (k : Nat) (x : Int), i = .int .i64 (k : Int) ∧ n = .int .i64 x ∧ k ≤ s.size ∧ 0 ≤ x ∧ x ≤ 1000000000000000 ∧ Hid (x = ((min (vl (s.data.toList.take k)) 1000000000000000 : Nat) : Int))) (fun _ _ i => s.size - (intOf i).toNat)
  case atStart => exact ⟨0, 0, rfl, rfl, by omega, by omega, by omega, Lib.hid (by simp [vl])⟩
  case round =>
    obtain ⟨k, x, rfl, rfl, hk, x0, x1, HX⟩ := hrel
    by_cases hlt : k < s.size
    · obtain ⟨b, hb⟩ : ∃ b, s[k].toNat = b := ⟨_, rfl⟩
      have hget := get_at s k hlt
      have hdb := HD.out s[k] (by exact List.mem_of_getElem? hget)
      have hbb : 48 ≤ b ∧ b ≤ 57 := by rw [← hb]; exact of_decide_eq_true hdb
      obtain ⟨b0, b1⟩ := hbb
      have hst : Hid (vl (s.data.toList.take (k + 1)) = vl (s.data.toList.take k) * 10 + (b - 48)) := Lib.hid (by rw [List.take_add_one, hget, Option.toList_some, vl_snoc, hb])
      clear hget hdb
      obtain ⟨y, hy⟩ : ∃ y : Int, x * 10 + ((b : Int) - 48) = y := ⟨_, rfl⟩
      have y0 : 0 ≤ y := by omega
      have y1 : y ≤ 10000000000000009 := by omega
      by_cases hc : y < 1000000000000000
      · go_wp2
        go_round
        case rel => exact ⟨k + 1, y, by go_num, by go_num, by omega, by omega, by omega, Lib.hid (by have := HX.out; have := hst.out; omega)⟩
        case measure => simp [intOf]; omega
      · go_wp2
        go_round
        case rel => exact ⟨k + 1, 1000000000000000, by go_num, by go_num, by omega, by omega, by omega, Lib.hid (by have := HX.out; have := hst.out; omega)⟩
        case measure => simp [intOf]; omega
    · obtain rfl : k = s.size := by omega
      go_wp2
      go_ret
      exact ⟨by rw [← HP.out, HX.out, List.take_of_length_le (by rw [← Lib.size_eq]; exact Nat.le_refl _)]; rfl, rfl⟩
end Nm
end Go.Proofs.YtpddkchnogfjkaaDoor
