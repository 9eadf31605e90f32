/- The document's Is and Text. -/
import Derived.Test.YtkbmaimocoljeaaGreatDoorNrNum
import Derived.Test.YtkbmaimocoljeaaGreatDoorNmBackMath
import Derived.Laws.BytesString
import Derived.Laws.Concat
namespace Go.Proofs.YtkbmaimocoljeaaGreatDoor
open Go.RowKit
namespace Nm
/-- a digit's sign -/
def ch (d : Nat) : UInt8 := UInt8.ofNat (48 + d)
/-- the digits below i, the highest first -/
def Fd (l : List Nat) : Nat → List UInt8
  | 0 => []
  | i + 1 => ch (dat l i) :: Fd l i
theorem Fd_len (l : List Nat) (i : Nat) : (Fd l i).length = i := by
  induction i with
  | zero => rfl
  | succ i ih => simp [Fd, ih]
theorem Fd_snoc (d : Nat) (t : List Nat) (i : Nat) : Fd (d :: t) (i + 1) = Fd t i ++ [ch d] := by
  induction i with
  | zero => rfl
  | succ i ih =>
    have e : Fd (d :: t) (i + 1 + 1) = ch (dat (d :: t) (i + 1)) :: Fd (d :: t) (i + 1) := rfl
    rw [e, ih]; rfl
theorem Fd_more (l : List Nat) {i : Nat} (h : l.length ≤ i) (k : Nat) : Fd l (i + k) = List.replicate k 48 ++ Fd l i := by
  induction k with
  | zero => rfl
  | succ k ih =>
    have e : Fd l (i + k + 1) = ch (dat l (i + k)) :: Fd l (i + k) := rfl
    rw [← Nat.add_assoc, e, ih, dat_no (by omega)]
    rfl
theorem Fd_drop (l : List Nat) (i k : Nat) : (Fd l (i + k)).drop k = Fd l i := by
  induction k with
  | zero => rfl
  | succ k ih => rw [← Nat.add_assoc]; exact ih
theorem dec_Fd (n : Nat) : Lib.decDigits n = Fd (dgs n) (max (dgs n).length 1) := by
  induction n using Nat.strongRecOn with
  | _ n ih =>
    obtain ⟨l, hl, hc⟩ := dec_step n
    rw [hl]
    by_cases h0 : n = 0
    · subst h0
      rcases hc with ⟨_, rfl⟩ | ⟨h, _⟩
      · rw [dgs_zero]; rfl
      · omega
    · rw [dgs_pos h0]
      rcases hc with ⟨h, rfl⟩ | ⟨h, rfl⟩
      · rw [show n / 10 = 0 by omega, dgs_zero]
        rfl
      · have h1 := dgs_ne (c := n / 10) (by omega)
        rw [ih (n / 10) (by omega), List.length_cons, show max ((dgs (n / 10)).length + 1) 1 = (dgs (n / 10)).length + 1 by omega, Fd_snoc, show max (dgs (n / 10)).length 1 = (dgs (n / 10)).length by omega]
        rfl
/-- what the document's Text has written, lowest digits first done -/
def rtx (l : List Nat) (k : Nat) : Nat → List UInt8
  | 0 => []
  | i + 1 => ch (dat l i) :: (if i = k ∧ 0 < i then 46 :: rtx l k i else rtx l k i)
theorem rtx_succ (l : List Nat) (k i : Nat) : rtx l k (i + 1) = ch (dat l i) :: (if i = k ∧ 0 < i then 46 :: rtx l k i else rtx l k i) := rfl
theorem rtx_low (l : List Nat) (k i : Nat) (h : i ≤ k ∨ k = 0) : rtx l k i = Fd l i := by
  induction i with
  | zero => rfl
  | succ i ih => rw [rtx_succ, if_neg (by omega), ih (by omega)]; rfl
theorem rtx_high (l : List Nat) (k j : Nat) (hk : 0 < k) : rtx l k (k + 1 + j) = (Fd l (k + 1 + j)).take (1 + j) ++ [46] ++ Fd l k := by
  induction j with
  | zero =>
    rw [Nat.add_zero, Nat.add_zero]
    rw [rtx_succ, if_pos ⟨rfl, hk⟩, rtx_low l k k (Or.inl (Nat.le_refl _))]
    rfl
  | succ j ih =>
    rw [← Nat.add_assoc, ← Nat.add_assoc]
    rw [rtx_succ, if_neg (by omega), ih]
    rfl
theorem rtx_len (l : List Nat) (k i : Nat) : (rtx l k i).length ≤ i + 1 := by
  by_cases h : i ≤ k ∨ k = 0
  · rw [rtx_low l k i h, Fd_len]; omega
  · obtain ⟨j, rfl⟩ : ∃ j, i = k + 1 + j := ⟨i - k - 1, by omega⟩
    rw [rtx_high l k j (by omega)]
    simp only [List.length_append, List.length_take, Fd_len, List.length_cons, List.length_nil]
    omega
theorem fill_Fd (n k : Nat) : fill k (Lib.decDigits n) = Fd (dgs n) (max (dgs n).length (k + 1)) := by
  unfold fill
  rw [dec_Fd, Fd_len]
  by_cases h : k + 1 ≤ max (dgs n).length 1
  · rw [show k + 1 - max (dgs n).length 1 = 0 by omega, show max (dgs n).length (k + 1) = max (dgs n).length 1 by omega]
    rfl
  · have := Fd_more (dgs n) (i := max (dgs n).length 1) (by omega) (k + 1 - max (dgs n).length 1)
    rw [show max (dgs n).length 1 + (k + 1 - max (dgs n).length 1) = max (dgs n).length (k + 1) by omega] at this
    exact this.symm
theorem rtx_ptd (n k : Nat) : rtx (dgs n) k (max (dgs n).length (k + 1)) = ptd k (Lib.decDigits n) := by
  unfold ptd
  by_cases h : k = 0
  · subst h
    rw [if_pos rfl, rtx_low _ _ _ (Or.inr rfl), dec_Fd]
  · rw [if_neg h, fill_Fd, Fd_len]
    obtain ⟨j, hj⟩ : ∃ j, max (dgs n).length (k + 1) = k + 1 + j := ⟨max (dgs n).length (k + 1) - (k + 1), by omega⟩
    rw [hj, rtx_high _ _ _ (by omega), show k + 1 + j - k = 1 + j by omega]
    congr 1
    have := Fd_drop (dgs n) k (1 + j)
    rw [show k + (1 + j) = k + 1 + j by omega] at this
    exact this.symm
theorem rtx_txt {c : Int} {k : Nat} {X : List UInt8} (h : X = rtx (dgs c.natAbs) k (max (dgs c.natAbs).length (k + 1))) : (if c < 0 then [45] else []) ++ X = txt c k := by
  unfold txt
  rw [h, rtx_ptd]
set_option maxRecDepth 100000 in
set_option maxHeartbeats 1000000 in
theorem refIs_any (c s : Int) (w : World) :
    Calls Tryz.prog 7 #[nv c s] w fun e w' => e = .returned (.bool (isB c s)) ∧ Below w.heap.size w w' := by
  unfold nv
  by_cases h1 : s < 0
  · have e : Hid (isB c s = false) := Lib.hid (decide_eq_false (by omega))
    go_enter Tryz.func7, Tryz.ntmps7
    go_wp2
    go_ret
    exact ⟨ret_bool e.out.symm, bA1 _ _⟩
  by_cases h2 : 9 < s
  · have e : Hid (isB c s = false) := Lib.hid (decide_eq_false (by omega))
    go_enter Tryz.func7, Tryz.ntmps7
    go_wp2
    go_ret
    exact ⟨ret_bool e.out.symm, bA1 _ _⟩
  by_cases h4 : 1000000000000000 ≤ c
  · have e : Hid (isB c s = false) := Lib.hid (decide_eq_false (by omega))
    go_enter Tryz.func7, Tryz.ntmps7
    go_wp2
    go_ret
    exact ⟨ret_bool e.out.symm, bA1 _ _⟩
  by_cases h3 : c ≤ -1000000000000000
  · have e : Hid (isB c s = false) := Lib.hid (decide_eq_false (by omega))
    go_enter Tryz.func7, Tryz.ntmps7
    go_wp2
    go_ret
    exact ⟨ret_bool e.out.symm, bA1 _ _⟩
  by_cases h5 : s = 0
  · subst h5
    have e : Hid (isB c 0 = true) := Lib.hid (decide_eq_true (by omega))
    go_enter Tryz.func7, Tryz.ntmps7
    go_wp2
    go_ret
    exact ⟨ret_bool e.out.symm, bA1 _ _⟩
  have hs0 : (s == 0) = false := by simp; omega
  obtain ⟨t, ht⟩ : ∃ t, c.tmod 10 = t := ⟨_, rfl⟩
  have hb : -10 < t := by rw [← ht]; exact Int.lt_tmod_of_pos c (by decide)
  have hb' : t < 10 := by rw [← ht]; exact Int.tmod_lt_of_pos c (by decide)
  by_cases h6 : t = 0
  · have e : Hid (isB c s = false) := Lib.hid (decide_eq_false (by rw [ht]; omega))
    subst h6
    go_enter Tryz.func7, Tryz.ntmps7
    go_wp2
    go_ret
    exact ⟨ret_bool e.out.symm, bA1 _ _⟩
  · have e : Hid (isB c s = true) := Lib.hid (decide_eq_true (by rw [ht]; omega))
    have hz : (t == 0) = false := by simp; omega
    have hz' : (t != 0) = true := by simp; omega
    go_enter Tryz.func7, Tryz.ntmps7
    go_wp2
    go_ret
    exact ⟨ret_bool e.out.symm, bA1 _ _⟩
theorem conv_one (w : World) (b : UInt8) (x : Int) (hx : x = (b.toNat : Nat)) :
    (convert 94 9 (.slice (some ⟨w.heap.size, 0, none⟩) 1 1)).run Tryz.prog (w.alloc (.cells #[.int .u8 x] 5)) = .ok (.string (sb [b])) (w.alloc (.cells #[.int .u8 x] 5)) := by
  rw [run_convert_bytes_string _ _ _ _ _ _ _ Tryz.underlying94 Tryz.underlying5 Tryz.underlying9]
  have h1 := run_loadCells_list (P := Tryz.prog) (w := w.alloc (.cells #[.int .u8 x] 5)) ⟨w.heap.size, 0, none⟩ [.int .u8 x] (cells_new w _ _)
  rw [run_bytesToString _ ⟨w.heap.size, 0, none⟩ 1 1 [x] h1]
  subst hx
  congr 1
  simp only [List.foldl_cons, List.foldl_nil]
  rw [show UInt8.ofNat ((b.toNat : Int)).toNat = b by simp]
  rfl
theorem ch_nat {d : Nat} (h : d < 10) : (ch d).toNat = 48 + d := ofN d h
theorem sb_cons (b : UInt8) (S : List UInt8) : sb [b] ++ sb S = sb (b :: S) := by rw [sb_app]; rfl
end Nm
end Go.Proofs.YtkbmaimocoljeaaGreatDoor
