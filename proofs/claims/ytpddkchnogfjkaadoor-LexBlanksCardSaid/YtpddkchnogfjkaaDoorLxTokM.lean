/- Layer 13: the token ahead in a row of bytes, by what num and utf answer; no program. -/
import Derived.Test.YtpddkchnogfjkaaDoorLxRef
import Derived.Test.YtpddkchnogfjkaaDoorLxKeys
import Derived.Test.YtpddkchnogfjkaaDoorNmParse
import Derived.Test.YtpddkchnogfjkaaDoorUtUnq
namespace Go.Proofs.YtpddkchnogfjkaaDoor
open Go.RowKit
namespace Lx
open _root_.Go.Proofs.YtpddkchnogfjkaaDoor.Nm (prs nv)
open _root_.Go.Proofs.YtpddkchnogfjkaaDoor.Ut (ansV rdO)
theorem ans_form (o : Option (Int × Nat)) : ∃ (c s : Int) (e : Nat), Nm.ans o = .tuple #[.agg #[.int .i64 c, .int .i64 s], .int .i64 (e : Nat)] := by
  cases o with
  | none => exact ⟨0, 0, 8, rfl⟩
  | some p => exact ⟨_, _, 0, rfl⟩
theorem prs_form (l : List UInt8) : ∃ (c s : Int) (e : Nat), prs l = .tuple #[.agg #[.int .i64 c, .int .i64 s], .int .i64 (e : Nat)] := by
  unfold prs
  split
  · exact ⟨0, 0, 3, rfl⟩
  · dsimp only
    split
    · exact ⟨0, 0, 0, rfl⟩
    · exact ans_form _
def numN (l : List UInt8) : Int × Int × Nat := match prs l with
  | .tuple #[.agg #[.int _ c, .int _ s], .int _ e] => (c, s, e.toNat)
  | _ => (0, 0, 0)
def strS (l : List UInt8) : List UInt8 × Nat := match ansV (rdO ⟨l.toArray⟩) with
  | .tuple #[.string b, .int _ e] => (b.data.toList, e.toNat)
  | _ => ([], 0)
abbrev tokL := tok numN strS
def tkV (i : Nat) : Except Nat (Nat × List UInt8 × (Int × Int) × Nat) → Value
  | .error e => .agg #[.int .i64 0, .string ByteArray.empty, .int .i64 0, .int .i64 0, .int .i64 0, .int .i64 0, .int .i64 (e : Nat)]
  | .ok (k, t, n, m) => .agg #[.int .i64 (k : Nat), .string ⟨t.toArray⟩, .int .i64 n.1, .int .i64 n.2, .int .i64 (i : Nat), .int .i64 (m : Nat), .int .i64 0]
theorem ex_sub (s : ByteArray) (a b : Nat) : s.extract a b = ⟨((s.data.toList.drop a).take (b - a)).toArray⟩ := by
  apply ByteArray.ext
  rw [ByteArray.data_extract]
  apply Array.toList_inj.1
  simp
theorem ret_v {a b : Value} (h : a = b) : Ending.returned a = .returned b := by rw [h]
theorem dl_0 {c : UInt8} (h : c.toNat ≠ 36) : dl c = 0 := by unfold dl; rw [if_neg h]
theorem dl_1 {c : UInt8} (h : c.toNat = 36) : dl c = 1 := by unfold dl; rw [if_pos h]
theorem tok_name {s : ByteArray} {i n : Nat} (hi : i < s.size) (hL : isLn s[i].toNat = true) (hn : nmE s i = i + n) :
    tokL (s.data.toList.drop i) = if 16 < n then .error 14 else .ok (1, (s.data.toList.drop i).take n, (0, 0), n) := by
  have h36 : s[i].toNat ≠ 36 := by intro g; rw [g] at hL; cases hL
  have h0 : 0 < n := by
    have e := nmE_run hi hL
    rw [run_go hi (by rw [isW_n, hL]; rfl)] at e
    have := run_ge isW s (i + 1)
    omega
  have hm : nm (s.data.toList.drop i) = n := by unfold nmE at hn; omega
  have hd := at_drop s i hi
  unfold tokL tok
  rw [hd] at hm ⊢
  simp only [isL_n, hL, true_or, if_true, dl_0 h36, List.drop_zero, hm, Nat.add_zero, Nat.zero_add]
  by_cases g : 16 < n
  · rw [if_pos (Or.inr g), if_pos g]
  · rw [if_neg (by omega), if_neg g]
theorem tok_var {s : ByteArray} {i n : Nat} (hi : i < s.size) (hc : s[i].toNat = 36) (hn : nmE s (i + 1) = i + 1 + n) :
    tokL (s.data.toList.drop i) = if n = 0 ∨ 16 < n then .error 14 else .ok (2, (s.data.toList.drop (i + 1)).take n, (0, 0), 1 + n) := by
  have hm : nm (s.data.toList.drop (i + 1)) = n := by unfold nmE at hn; omega
  have hd := at_drop s i hi
  unfold tokL tok
  rw [hd]
  simp only [hc, or_true, if_true, dl_1 hc, List.drop_succ_cons, List.drop_zero, hm]
theorem not_L {c : Nat} (h : isLn c = false) {d : UInt8} (hd : d.toNat = c) (h36 : c ≠ 36) : ¬ (isL d = true ∨ d.toNat = 36) := by
  rw [isL_n, hd, h]; simp [h36]
theorem tok_num {s : ByteArray} {i n : Nat} (hi : i < s.size) (hL : isLn s[i].toNat = false) (h36 : s[i].toNat ≠ 36) (hD : isDn s[i].toNat = true) (hn : numE s i = i + n) :
    tokL (s.data.toList.drop i) = if (numN ((s.data.toList.drop i).take n)).2.2 ≠ 0 then .error (numN ((s.data.toList.drop i).take n)).2.2 else .ok (3, (s.data.toList.drop i).take n, ((numN ((s.data.toList.drop i).take n)).1, (numN ((s.data.toList.drop i).take n)).2.1), n) := by
  have hm : numL (s.data.toList.drop i) = n := by rw [numE_is] at hn; omega
  have hd := at_drop s i hi
  unfold tokL tok
  rw [hd] at hm ⊢
  simp only [if_neg (not_L hL rfl h36), isD_n, hD, if_true, hm]
theorem tok_str {s : ByteArray} {i : Nat} (hi : i < s.size) (hc : s[i].toNat = 34) :
    tokL (s.data.toList.drop i) = match strO s (i + 1) with
      | none => .error 14
      | some n => if (strS ((s.data.toList.drop i).take (n - i))).2 = 3 then .error 14 else if (strS ((s.data.toList.drop i).take (n - i))).2 ≠ 0 then .error (strS ((s.data.toList.drop i).take (n - i))).2 else .ok (4, (strS ((s.data.toList.drop i).take (n - i))).1, (0, 0), n - i) := by
  have hL : isLn s[i].toNat = false := by rw [hc]; rfl
  have hD : isDn s[i].toNat = false := by rw [hc]; rfl
  have hd := at_drop s i hi
  have hN := not_L hL rfl (show s[i].toNat ≠ 36 by omega)
  unfold tokL tok strO
  rw [hd]
  simp only [if_neg hN, isD_n, hD, Bool.false_eq_true, if_false]
  rw [if_pos hc]
  cases strE (s.data.toList.drop (i + 1)) with
  | none => rfl
  | some n =>
    simp only [Option.map_some, show i + 1 + n - i = n + 1 by omega]
theorem tok_sign {s : ByteArray} {i : Nat} (hi : i < s.size) (hL : isLn s[i].toNat = false) (h36 : s[i].toNat ≠ 36) (hD : isDn s[i].toNat = false) (h34 : s[i].toNat ≠ 34) :
    tokL (s.data.toList.drop i) = if twos.contains ((s.data.toList.drop i).take 2) then .ok (5, (s.data.toList.drop i).take 2, (0, 0), 2) else if ones.contains s[i] then .ok (5, [s[i]], (0, 0), 1) else .error 14 := by
  have hd := at_drop s i hi
  unfold tokL tok
  rw [hd]
  simp only [if_neg (not_L hL rfl h36), isD_n, hD, if_neg h34]
  simp
theorem nmE_ge (s : ByteArray) (i : Nat) : i ≤ nmE s i := by unfold nmE; omega
theorem nmE_le {s : ByteArray} {i : Nat} (hi : i ≤ s.size) : nmE s i ≤ s.size := by
  have := nm_le (s.data.toList.drop i)
  rw [List.length_drop] at this
  have e : s.data.toList.length = s.size := by simp
  unfold nmE; omega
theorem ex_size {s : ByteArray} {a b : Nat} (h : b ≤ s.size) : (s.extract a b).size ≤ s.size := by rw [ByteArray.size_extract]; omega
theorem ansV_form (o : Option (Option (List Nat))) : ∃ (b : ByteArray) (e : Nat), ansV o = .tuple #[.string b, .int .i64 (e : Nat)] := by
  unfold ansV
  split
  · exact ⟨_, 3, rfl⟩
  · exact ⟨_, 7, rfl⟩
  · split
    · exact ⟨_, 0, rfl⟩
    · exact ⟨_, 7, rfl⟩
theorem strO_le {s : ByteArray} {k n : Nat} (h : strO s k = some n) : n ≤ s.size ∧ k < n := by
  unfold strO at h
  obtain ⟨m, hm, rfl⟩ := Option.map_eq_some_iff.1 h
  have := strE_le _ _ hm
  rw [List.length_drop] at this
  have e : s.data.toList.length = s.size := by simp
  omega
theorem two_no {s : ByteArray} {i : Nat} (h : s.size < i + 2) : twos.contains ((s.data.toList.drop i).take 2) = false := by
  have hl : ((s.data.toList.drop i).take 2).length < 2 := by
    rw [List.length_take, List.length_drop]
    have e : s.data.toList.length = s.size := by simp
    omega
  generalize (s.data.toList.drop i).take 2 = t at hl
  cases hc : twos.contains t with
  | false => rfl
  | true =>
    have := List.contains_iff_mem.1 hc
    simp only [twos, List.mem_cons, List.not_mem_nil, or_false] at this
    rcases this with rfl | rfl | rfl | rfl | rfl <;> simp at hl
end Lx
end Go.Proofs.YtpddkchnogfjkaaDoor
