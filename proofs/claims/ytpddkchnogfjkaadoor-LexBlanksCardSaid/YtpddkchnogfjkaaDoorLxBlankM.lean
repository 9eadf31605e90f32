/- Layer 13: blanks ahead turn nothing but places: mathematics. -/
import Derived.Test.YtpddkchnogfjkaaDoorLxJoins
namespace Go.Proofs.YtpddkchnogfjkaaDoor
open Go.RowKit
namespace Lx
/-- what one number of LexBlanks stands for -/
def pcN (d : Nat) : List Nat := if d % 5 = 4 then [35, 32, 97, 32, 36, 32, 34, 10] else [([32, 9, 10, 13] : List Nat).getD (d % 5) 0]
def bs (l : List Nat) : List Nat := l.flatMap pcN
theorem bs_snoc (l : List Nat) (d : Nat) : bs (l ++ [d]) = bs l ++ pcN d := by unfold bs; rw [List.flatMap_append]; simp
theorem pcN_len (d : Nat) : (pcN d).length ≤ 8 := by unfold pcN; split <;> simp
theorem bs_len : ∀ l : List Nat, (bs l).length ≤ 8 * l.length
  | [] => by simp [bs]
  | d :: l => by
    have := bs_len l
    have := pcN_len d
    unfold bs at *
    rw [List.flatMap_cons, List.length_append, List.length_cons]; omega
theorem blk_pc (d : Nat) (r : List UInt8) : blk false ((pcN d).map Nat.toUInt8 ++ r) = (pcN d).length + blk false r := by
  unfold pcN
  split
  · show blk false (35 :: 32 :: 97 :: 32 :: 36 :: 32 :: 34 :: 10 :: r) = 8 + blk false r
    have e1 : (35 : UInt8).toNat = 35 := rfl
    have e2 : ((32 : UInt8).toNat != 10) = true := rfl
    have e3 : ((97 : UInt8).toNat != 10) = true := rfl
    have e4 : ((36 : UInt8).toNat != 10) = true := rfl
    have e5 : ((34 : UInt8).toNat != 10) = true := rfl
    have e6 : ((10 : UInt8).toNat != 10) = false := rfl
    simp only [blk, e1, if_true, e2, e3, e4, e5, e6]
    omega
  · rename_i h
    have hd : d % 5 = 0 ∨ d % 5 = 1 ∨ d % 5 = 2 ∨ d % 5 = 3 := by omega
    have g : ∀ c : UInt8, c.toNat ≠ 35 → isB c = true → blk false (c :: r) = 1 + blk false r := fun c h1 h2 => by
      simp only [blk, if_neg h1, h2, if_true]
    rcases hd with hd | hd | hd | hd <;> rw [hd]
    · exact g 32 (by decide) (by decide)
    · exact g 9 (by decide) (by decide)
    · exact g 10 (by decide) (by decide)
    · exact g 13 (by decide) (by decide)
theorem blk_bs : ∀ (l : List Nat) (r : List UInt8), blk false ((bs l).map Nat.toUInt8 ++ r) = ((bs l).map Nat.toUInt8).length + blk false r
  | [], r => by simp [bs]
  | d :: l, r => by
    have ih := blk_bs l r
    have e : bs (d :: l) = pcN d ++ bs l := by unfold bs; rw [List.flatMap_cons]
    rw [e, List.map_append, List.append_assoc, blk_pc, ih, List.length_append, List.length_map, List.length_map, Nat.add_assoc]
/-- with blanks ahead: the same tokens, the same error, at later places -/
theorem blank_ans {q c : ByteArray} {x : List Nat} {l : List Tk} {p e : Nat} (hc : c.data.toList = (bs x).map Nat.toUInt8 ++ q.data.toList) (hq : q.size ≤ 2000) (hx : x.length ≤ 20) (h : ansT q = (l, p, e)) :
    (e = 0 ∧ p = 0 ∧ ansT c = (l.map (Tk.by (bs x).length), 0, 0)) ∨ (e ≠ 0 ∧ l = [] ∧ ansT c = ([], p + (bs x).length, e)) := by
  have e1 : q.data.toList.length = q.size := by simp
  have e3 : c.data.toList.length = c.size := by simp
  have hb := bs_len x
  have hs : c.size = (bs x).length + q.size := by rw [← e3, hc, List.length_append, List.length_map, e1]
  have h1 := lxs_blank numN strS 0 (blk_bs x q.data.toList)
  have h2 := lxs_shift numN strS (bs x).length _ 0 q.data.toList (Nat.le_refl _)
  rw [List.length_map, h2, ← hc] at h1
  unfold ansT at h ⊢
  rw [if_neg (by omega)] at h
  rw [if_neg (by omega), h1]
  cases hl : lxs numN strS 0 q.data.toList with
  | error z =>
    rw [hl] at h
    obtain ⟨a, r⟩ := z
    simp only [Prod.mk.injEq] at h
    obtain ⟨rfl, rfl, rfl⟩ := h
    exact Or.inr ⟨lxs_e0 _ 0 _ _ _ (Nat.le_refl _) hl, rfl, rfl⟩
  | ok l2 =>
    rw [hl] at h
    simp only [Prod.mk.injEq] at h
    obtain ⟨rfl, rfl, rfl⟩ := h
    exact Or.inl ⟨rfl, rfl, rfl⟩
end Lx
end Go.Proofs.YtpddkchnogfjkaaDoor
