/- The document's Is and Text. -/
import Derived.Test.YtkbmaimocoljeaaDoorNrNum
import Derived.Test.YtkbmaimocoljeaaDoorNmBackMath
import Derived.Laws.BytesString
import Derived.Laws.Concat
namespace Go.Proofs.YtkbmaimocoljeaaDoor
open Go.RowKit
namespace Nm
/-- a digit's sign -/
def ch (d : Nat) : UInt8 := UInt8.ofNat (48 + d)
/-- the digits below i, the highest first -/
def Fd (l : List Nat) : Nat → List UInt8
  | 0 => []
  | i + 1 => ch (dat l i) :: Fd l i
theorem Fd_len (l : List Nat) (i : Nat) : (Fd l i).length = i := by
  induction i with
  | zero => rfl
  | succ i ih => simp [Fd, ih]
theorem Fd_snoc (d : Nat) (t : List Nat) (i : Nat) : Fd (d :: t) (i + 1) = Fd t i ++ [ch d] := by
  induction i with
  | zero => rfl
  | succ i ih =>
    have e : Fd (d :: t) (i + 1 + 1) = ch (dat (d :: t) (i + 1)) :: Fd (d :: t) (i + 1) := rfl
    rw [e, ih]; rfl
theorem Fd_more (l : List Nat) {i : Nat} (h : l.length ≤ i) (k : Nat) : Fd l (i + k) = List.replicate k 48 ++ Fd l i := by
  induction k with
  | zero => rfl
  | succ k ih =>
    have e : Fd l (i + k + 1) = ch (dat l (i + k)) :: Fd l (i + k) := rfl
    rw [← Nat.add_assoc, e, ih, dat_no (by omega)]
    rfl
theorem Fd_drop (l : List Nat) (i k : Nat) : (Fd l (i + k)).drop k = Fd l i := by
  induction k with
  | zero => rfl
  | succ k ih => rw [← Nat.add_assoc]; exact ih
theorem dec_Fd (n : Nat) : Lib.decDigits n = Fd (dgs n) (max (dgs n).length 1) := by
  induction n using Nat.strongRecOn with
  | _ n ih =>
    obtain ⟨l, hl, hc⟩ := dec_step n
    rw [hl]
    by_cases h0 : n = 0
    · subst h0
      rcases hc with ⟨_, rfl⟩ | ⟨h, _⟩
      · rw [dgs_zero]; rfl
      · omega
    · rw [dgs_pos h0]
      rcases hc with ⟨h, rfl⟩ | ⟨h, rfl⟩
      · rw [show n / 10 = 0 by omega, dgs_zero]
        rfl
      · have h1 := dgs_ne (c := n / 10) (by omega)
        rw [ih (n / 10) (by omega), List.length_cons, show max ((dgs (n / 10)).length + 1) 1 = (dgs (n / 10)).length + 1 by omega, Fd_snoc, show max (dgs (n / 10)).length 1 = (dgs (n / 10)).length by omega]
        rfl
/-- what the document's Text has written, lowest digits first done -/
def rtx (l : List Nat) (k : Nat) : Nat → List UInt8
  | 0 => []
  | i + 1 => ch (dat l i) :: (if i = k ∧ 0 < i then 46 :: rtx l k i else rtx l k i)
theorem rtx_succ (l : List Nat) (k i : Nat) : rtx l k (i + 1) = ch (dat l i) :: (if i = k ∧ 0 < i then 46 :: rtx l k i else rtx l k i) := rfl
theorem rtx_low (l : List Nat) (k i : Nat) (h : i ≤ k ∨ k = 0) : rtx l k i = Fd l i := by
  induction i with
  | zero => rfl
  | succ i ih => rw [rtx_succ, if_neg (by omega), ih (by omega)]; rfl
theorem rtx_high (l : List Nat) (k j : Nat) (hk : 0 < k) : rtx l k (k + 1 + j) = (Fd l (k + 1 + j)).take (1 + j) ++ [46] ++ Fd l k := by
  induction j with
  | zero =>
    rw [Nat.add_zero, Nat.add_zero]
    rw [rtx_succ, if_pos ⟨rfl, hk⟩, rtx_low l k k (Or.inl (Nat.le_refl _))]
    rfl
  | succ j ih =>
    rw [← Nat.add_assoc, ← Nat.add_assoc]
    rw [rtx_succ, if_neg (by omega), ih]
    rfl
theorem rtx_len (l : List Nat) (k i : Nat) : (rtx l k i).length ≤ i + 1 := by
  by_cases h : i ≤ k ∨ k = 0
  · rw [rtx_low l k i h, Fd_len]; omega
  · obtain ⟨j, rfl⟩ : ∃ j, i = k + 1 + j := ⟨i - k - 1, by omega⟩
    rw [rtx_high l k j (by omega)]
    simp only [List.length_append, List.length_take, Fd_len, List.length_cons, List.length_nil]
    omega
theorem fill_Fd (n k : Nat) : fill k (Lib.decDigits n) = Fd (dgs n) (max (dgs n).length (k + 1)) := by
  unfold fill
  rw [dec_Fd, Fd_len]
  by_cases h : k + 1 ≤ max (dgs n).length 1
  · rw [show k + 1 - max (dgs n).length 1 = 0 by omega, show max (dgs n).length (k + 1) = max (dgs n).length 1 by omega]
    rfl
  · have := Fd_more (dgs n) (i := max (dgs n).length 1) (by omega) (k + 1 - max (dgs n).length 1)
    rw [show max (dgs n).length 1 + (k + 1 - max (dgs n).length 1) = max (dgs n).length (k + 1) by omega] at this
    exact this.symm
theorem rtx_ptd (n k : Nat) : rtx (dgs n) k (max (dgs n).length (k + 1)) = ptd k (Lib.decDigits n) := by
  unfold ptd
  by_cases h : k = 0
  · subst h
    rw [if_pos rfl, rtx_low _ _ _ (Or.inr rfl), dec_Fd]
  · rw [if_neg h, fill_Fd, Fd_len]
    obtain ⟨j, hj⟩ : ∃ j, max (dgs n).length (k + 1) = k + 1 + j := ⟨max (dgs n).length (k + 1) - (k + 1), by omega⟩
    rw [hj, rtx_high _ _ _ (by omega), show k + 1 + j - k = 1 + j by omega]
    congr 1
    have := Fd_drop (dgs n) k (1 + j)
    rw [show k + (1 + j) = k + 1 + j by omega] at this
    exact this.symm
theorem rtx_txt {c : Int} {k : Nat} {X : List UInt8} (h : X = rtx (dgs c.natAbs) k (max (dgs c.natAbs).length (k + 1))) : (if c < 0 then [45] else []) ++ X = txt c k := by
  unfold txt
  rw [h, rtx_ptd]
set_option maxRecDepth 100000 in
set_option maxHeartbeats 1000000 in
theorem refIs_any (c s : Int) (w : World) :
    Calls Tryd.prog 10 #[nv c s] w fun e w' => e = .returned (.bool (isB c s)) ∧ Below w.heap.size w w' := by
  unfold nv
  by_cases h1 : s < 0
  · have e : Hid (isB c s = false) := Lib.hid (decide_eq_false (by omega))
    go_enter Tryd.func10, Tryd.ntmps10
    go_wp2
    go_ret
    exact ⟨ret_bool e.out.symm, bA1 _ _⟩
  by_cases h2 : 9 < s
  · have e : Hid (isB c s = false) := Lib.hid (decide_eq_false (by omega))
    go_enter Tryd.func10, Tryd.ntmps10
    go_wp2
    go_ret
    exact ⟨ret_bool e.out.symm, bA1 _ _⟩
  by_cases h4 : 1000000000000000 ≤ c
  · have e : Hid (isB c s = false) := Lib.hid (decide_eq_false (by omega))
    go_enter Tryd.func10, Tryd.ntmps10
    go_wp2
    go_ret
    exact ⟨ret_bool e.out.symm, bA1 _ _⟩
  by_cases h3 : c ≤ -1000000000000000
  · have e : Hid (isB c s = false) := Lib.hid (decide_eq_false (by omega))
    go_enter Tryd.func10, Tryd.ntmps10
    go_wp2
    go_ret
    exact ⟨ret_bool e.out.symm, bA1 _ _⟩
  by_cases h5 : s = 0
  · subst h5
    have e : Hid (isB c 0 = true) := Lib.hid (decide_eq_true (by omega))
    go_enter Tryd.func10, Tryd.ntmps10
    go_wp2
    go_ret
    exact ⟨ret_bool e.out.symm, bA1 _ _⟩
  have hs0 : (s == 0) = false := by simp; omega
  obtain ⟨t, ht⟩ : ∃ t, c.tmod 10 = t := ⟨_, rfl⟩
  have hb : -10 < t := by rw [← ht]; exact Int.lt_tmod_of_pos c (by decide)
  have hb' : t < 10 := by rw [← ht]; exact Int.tmod_lt_of_pos c (by decide)
  by_cases h6 : t = 0
  · have e : Hid (isB c s = false) := Lib.hid (decide_eq_false (by rw [ht]; omega))
    subst h6
    go_enter Tryd.func10, Tryd.ntmps10
    go_wp2
    go_ret
    exact ⟨ret_bool e.out.symm, bA1 _ _⟩
  · have e : Hid (isB c s = true) := Lib.hid (decide_eq_true (by rw [ht]; omega))
    have hz : (t == 0) = false := by simp; omega
    have hz' : (t != 0) = true := by simp; omega
    go_enter Tryd.func10, Tryd.ntmps10
    go_wp2
    go_ret
    exact ⟨ret_bool e.out.symm, bA1 _ _⟩
theorem conv_one (w : World) (b : UInt8) (x : Int) (hx : x = (b.toNat : Nat)) :
    (convert 54 9 (.slice (some ⟨w.heap.size, 0, none⟩) 1 1)).run Tryd.prog (w.alloc (.cells #[.int .u8 x] 5)) = .ok (.string (sb [b])) (w.alloc (.cells #[.int .u8 x] 5)) := by
  rw [run_convert_bytes_string _ _ _ _ _ _ _ Tryd.underlying54 Tryd.underlying5 Tryd.underlying9]
  have h1 := run_loadCells_list (P := Tryd.prog) (w := w.alloc (.cells #[.int .u8 x] 5)) ⟨w.heap.size, 0, none⟩ [.int .u8 x] (cells_new w _ _)
  rw [run_bytesToString _ ⟨w.heap.size, 0, none⟩ 1 1 [x] h1]
  subst hx
  congr 1
  simp only [List.foldl_cons, List.foldl_nil]
  rw [show UInt8.ofNat ((b.toNat : Int)).toNat = b by simp]
  rfl
theorem ch_nat {d : Nat} (h : d < 10) : (ch d).toNat = 48 + d := ofN d h
theorem sb_cons (b : UInt8) (S : List UInt8) : sb [b] ++ sb S = sb (b :: S) := by rw [sb_app]; rfl
set_option maxRecDepth 100000 in
set_option maxHeartbeats 8000000 in
theorem refText_pos (c : Int) (k : Nat) (w : World) (ia : isB c (k : Int) = true) (hcc : ¬ c < 0) :
    Calls Tryd.prog 12 #[.agg #[.int .i64 c, .int .i64 (k : Int)]] w fun e w' => e = .returned (.string (sb (txt c k))) ∧ Below w.heap.size w w' := by
  have hi := isB_iff.1 ia
  have hisw := fun w => refIs_any c (k : Int) w
  rw [ia] at hisw
  unfold nv at hisw
  have hk9 : k ≤ 9 := by omega
  obtain ⟨l, hl⟩ : ∃ l, dgs c.natAbs = l := ⟨_, rfl⟩
  have hll : l.length ≤ 15 := by rw [← hl]; exact dgs_len.2 (by omega)
  have hof : ∀ w', Calls Tryd.prog 8 #[.int .i64 c] w' (fun e w'' => ∃ ao cap, e = .returned (.agg #[.bool false, .slice ao l.length cap]) ∧ Hid (Rw w'' (.slice ao l.length cap) l) ∧ Below w'.heap.size w' w'') := fun w' => by
    refine (of_any c w' (by omega) (by omega)).mono ?_
    rintro e w'' ⟨v', rfl, h1, h2⟩
    rw [hl] at h1
    obtain ⟨ao, cap, rfl, _⟩ := h1.form
    exact ⟨ao, cap, by rw [decide_eq_false hcc], Lib.hid h1, h2⟩
  have HLD := Lib.hid hl
  have HDG : Hid (Dg l) := Lib.hid (by rw [← hl]; exact Dg_dgs _)
  have HCC := Lib.hid hcc
  clear hi ia hl hcc
  go_enter Tryd.func12, Tryd.ntmps12
  go_wp2_with (first | (go_at_call 10; refine (hisw _).mono ?_; rintro e w1 ⟨rfl, b1⟩; have HB1 := Lib.hid (bT (bA1 _ _) b1); obtain ⟨p0, p1, p2, p3⟩ := boxed b1 w.heap.size (.int .i64 c) (.int .i64 (k : Int)) (by simp [go_sem]) (by simp [go_sem]) (by simp [go_sem]) (by simp [go_sem]); clear b1) | (go_at_call 8; refine (hof _).mono ?_; rintro e w2 ⟨ao, ac, rfl, HR2, b2⟩; have HB2 := Lib.hid (bT HB1.out b2); obtain ⟨q0, q1, q2, q3⟩ := boxed b2 w.heap.size (.int .i64 c) (.int .i64 (k : Int)) p0 p1 p2 p3; have hlt2 := kl q0; clear b2))
  have HQ : Hid (Bx (w2.alloc (Obj.cells #[.bool false, .slice ao l.length ac] 31)) w.heap.size (.int .i64 c) (.int .i64 (k : Int))) := Lib.hid (Bx.alloc ⟨q0, q1, q2, q3⟩ _)
  have HX : Hid (Bx (w2.alloc (Obj.cells #[.bool false, .slice ao l.length ac] 31)) w2.heap.size (.bool false) (.slice ao l.length ac)) := Lib.hid (Lb.new w2 _ _).bx
  have HRR : Hid (Rw (w2.alloc (Obj.cells #[.bool false, .slice ao l.length ac] 31)) (.slice ao l.length ac) l) := Lib.hid (HR2.out.on (bA1 _ _))
  have HBB : Hid (Below w.heap.size w (w2.alloc (Obj.cells #[.bool false, .slice ao l.length ac] 31))) := Lib.hid (HB2.out.alloc HB2.out.size _)
  clear p0 p1 p2 p3 q0 q1 q2 q3 HB1 HB2 HR2
  go_loopw [4, 5] (fun ss iv wr => ∃ (i : Nat) (S : ByteArray), iv = .int .i64 (i : Nat) ∧ ss = .string S ∧ i ≤ max l.length (k + 1) ∧ Hid (S = sb (rtx l k i)) ∧ Hid (Bx wr w.heap.size (.int .i64 c) (.int .i64 (k : Int))) ∧ Hid (Bx wr w2.heap.size (.bool false) (.slice ao l.length ac)) ∧ Hid (Rw wr (.slice ao l.length ac) l) ∧ Hid (Below w.heap.size w wr)) (fun _ iv _ => max l.length (k + 1) - (intOf iv).toNat)
  case atStart => exact ⟨0, ⟨#[]⟩, rfl, rfl, by omega, Lib.hid rfl, HQ, HX, HRR, HBB⟩
  case round =>
    clear HQ HX HRR HBB hisw hof
    obtain ⟨i, S, rfl, rfl, hil, HS, HQ, HX, HRw, HBel⟩ := hrel
    obtain ⟨p0, p1, p2, p3⟩ := HQ.out
    obtain ⟨x0, x1, x2, x3⟩ := HX.out
    have hSs : S.size ≤ 100 := by
      have := rtx_len l k i
      rw [HS.out, sb_size]; omega
    by_cases hlt : i < max l.length (k + 1)
    · by_cases ha : i < l.length
      · obtain ⟨kk, oo, rfl⟩ := HRw.out.ptr (by omega)
        obtain ⟨d, hd⟩ : ∃ d, l[i]? = some d := ⟨l[i], List.getElem?_eq_getElem ha⟩
        have hcl : wr.cell? ⟨kk, oo + i, none⟩ = some (.int .i64 (d : Nat)) := HRw.out.cell hd
        have hd10 := HDG.out d (List.mem_of_getElem? hd)
        have HD : Hid (dat l i = d) := Lib.hid (dat_is hd)
        clear hd
        by_cases hp : i = k ∧ 0 < i
        · have hcv := fun w => conv_one w (ch d) (48 + (d : Int)) (by rw [ch_nat hd10]; rfl)
          obtain ⟨C, hC⟩ : ∃ C, sb [ch d] = C := ⟨_, rfl⟩
          have hCs : C.size = 1 := by rw [← hC]; rfl
          have ad1 := fun w => run_string_add_sum (P := Tryd.prog) w ⟨#[46]⟩ S (by have : (⟨#[46]⟩ : ByteArray).size = 1 := rfl; omega)
          obtain ⟨T, hT⟩ : ∃ T, (⟨#[46]⟩ : ByteArray) ++ S = T := ⟨_, rfl⟩
          have hTl : T = sb (46 :: rtx l k i) := by rw [← hT, HS.out]; exact sb_cons 46 _
          have hTs : T.size ≤ 102 := by
            have := rtx_len l k i
            rw [hTl, sb_size, List.length_cons]; omega
          rw [hT] at ad1
          have ad2 := fun w => run_string_add_sum (P := Tryd.prog) w C T (by omega)
          obtain ⟨R, hR⟩ : ∃ R, C ++ T = R := ⟨_, rfl⟩
          have HR' : Hid (R = sb (rtx l k (i + 1))) := Lib.hid (by
            rw [← hR, ← hC, hTl, sb_cons]
            rw [rtx_succ, if_pos hp, HD.out])
          rw [hC] at hcv
          rw [hR] at ad2
          clear hC hCs hR hT hTl hTs HS
          obtain ⟨rfl, hp1⟩ := hp
          go_wp2
          go_roundw
          case rel => exact ⟨i + 1, R, by go_num, rfl, by omega, HR', Lib.hid (HQ.out.alloc _), Lib.hid (HX.out.alloc _), Lib.hid (HRw.out.on (bA1 _ _)), Lib.hid (HBel.out.alloc HBel.out.size _)⟩
          case measure => simp [intOf]; omega
        · by_cases hik : i = k
          · have hcv := fun w => conv_one w (ch d) (48 + (d : Int)) (by rw [ch_nat hd10]; rfl)
            obtain ⟨C, hC⟩ : ∃ C, sb [ch d] = C := ⟨_, rfl⟩
            have hCs : C.size = 1 := by rw [← hC]; rfl
            have ad2 := fun w => run_string_add_sum (P := Tryd.prog) w C S (by omega)
            obtain ⟨R, hR⟩ : ∃ R, C ++ S = R := ⟨_, rfl⟩
            have HR' : Hid (R = sb (rtx l k (i + 1))) := Lib.hid (by
              rw [← hR, ← hC, HS.out, sb_cons]
              rw [rtx_succ, if_neg hp, HD.out])
            rw [hC] at hcv
            rw [hR] at ad2
            clear hC hCs hR HS
            have hz : ¬ 0 < i := fun h => hp ⟨hik, h⟩
            clear hp
            obtain rfl := hik
            go_wp2
            go_roundw
            case rel => exact ⟨i + 1, R, by go_num, rfl, by omega, HR', Lib.hid (HQ.out.alloc _), Lib.hid (HX.out.alloc _), Lib.hid (HRw.out.on (bA1 _ _)), Lib.hid (HBel.out.alloc HBel.out.size _)⟩
            case measure => simp [intOf]; omega
          · have hcv := fun w => conv_one w (ch d) (48 + (d : Int)) (by rw [ch_nat hd10]; rfl)
            obtain ⟨C, hC⟩ : ∃ C, sb [ch d] = C := ⟨_, rfl⟩
            have hCs : C.size = 1 := by rw [← hC]; rfl
            have ad2 := fun w => run_string_add_sum (P := Tryd.prog) w C S (by omega)
            obtain ⟨R, hR⟩ : ∃ R, C ++ S = R := ⟨_, rfl⟩
            have HR' : Hid (R = sb (rtx l k (i + 1))) := Lib.hid (by
              rw [← hR, ← hC, HS.out, sb_cons]
              rw [rtx_succ, if_neg hp, HD.out])
            rw [hC] at hcv
            rw [hR] at ad2
            clear hC hCs hR HS
            have hne : ((i : Int) == (k : Int)) = false := by simp; omega
            clear hp hik
            go_wp2
            go_roundw
            case rel => exact ⟨i + 1, R, by go_num, rfl, by omega, HR', Lib.hid (HQ.out.alloc _), Lib.hid (HX.out.alloc _), Lib.hid (HRw.out.on (bA1 _ _)), Lib.hid (HBel.out.alloc HBel.out.size _)⟩
            case measure => simp [intOf]; omega
      · have HD : Hid (dat l i = 0) := Lib.hid (dat_no ha)
        have hik : i ≤ k := by omega
        by_cases hp : i = k ∧ 0 < i
        · have hcv := fun w => conv_one w (ch 0) 48 (rfl)
          obtain ⟨C, hC⟩ : ∃ C, sb [ch 0] = C := ⟨_, rfl⟩
          have hCs : C.size = 1 := by rw [← hC]; rfl
          have ad1 := fun w => run_string_add_sum (P := Tryd.prog) w ⟨#[46]⟩ S (by have : (⟨#[46]⟩ : ByteArray).size = 1 := rfl; omega)
          obtain ⟨T, hT⟩ : ∃ T, (⟨#[46]⟩ : ByteArray) ++ S = T := ⟨_, rfl⟩
          have hTl : T = sb (46 :: rtx l k i) := by rw [← hT, HS.out]; exact sb_cons 46 _
          have hTs : T.size ≤ 102 := by
            have := rtx_len l k i
            rw [hTl, sb_size, List.length_cons]; omega
          rw [hT] at ad1
          have ad2 := fun w => run_string_add_sum (P := Tryd.prog) w C T (by omega)
          obtain ⟨R, hR⟩ : ∃ R, C ++ T = R := ⟨_, rfl⟩
          have HR' : Hid (R = sb (rtx l k (i + 1))) := Lib.hid (by
            rw [← hR, ← hC, hTl, sb_cons]
            rw [rtx_succ, if_pos hp, HD.out])
          rw [hC] at hcv
          rw [hR] at ad2
          clear hC hCs hR hT hTl hTs HS
          obtain ⟨rfl, hp1⟩ := hp
          go_wp2
          go_roundw
          case rel => exact ⟨i + 1, R, by go_num, rfl, by omega, HR', Lib.hid (HQ.out.alloc _), Lib.hid (HX.out.alloc _), Lib.hid (HRw.out.on (bA1 _ _)), Lib.hid (HBel.out.alloc HBel.out.size _)⟩
          case measure => simp [intOf]; omega
        · by_cases hik2 : i = k
          · have hcv := fun w => conv_one w (ch 0) 48 (rfl)
            obtain ⟨C, hC⟩ : ∃ C, sb [ch 0] = C := ⟨_, rfl⟩
            have hCs : C.size = 1 := by rw [← hC]; rfl
            have ad2 := fun w => run_string_add_sum (P := Tryd.prog) w C S (by omega)
            obtain ⟨R, hR⟩ : ∃ R, C ++ S = R := ⟨_, rfl⟩
            have HR' : Hid (R = sb (rtx l k (i + 1))) := Lib.hid (by
              rw [← hR, ← hC, HS.out, sb_cons]
              rw [rtx_succ, if_neg hp, HD.out])
            rw [hC] at hcv
            rw [hR] at ad2
            clear hC hCs hR HS
            have hz : ¬ 0 < i := fun h => hp ⟨hik2, h⟩
            clear hp
            obtain rfl := hik2
            go_wp2
            go_roundw
            case rel => exact ⟨i + 1, R, by go_num, rfl, by omega, HR', Lib.hid (HQ.out.alloc _), Lib.hid (HX.out.alloc _), Lib.hid (HRw.out.on (bA1 _ _)), Lib.hid (HBel.out.alloc HBel.out.size _)⟩
            case measure => simp [intOf]; omega
          · have hcv := fun w => conv_one w (ch 0) 48 (rfl)
            obtain ⟨C, hC⟩ : ∃ C, sb [ch 0] = C := ⟨_, rfl⟩
            have hCs : C.size = 1 := by rw [← hC]; rfl
            have ad2 := fun w => run_string_add_sum (P := Tryd.prog) w C S (by omega)
            obtain ⟨R, hR⟩ : ∃ R, C ++ S = R := ⟨_, rfl⟩
            have HR' : Hid (R = sb (rtx l k (i + 1))) := Lib.hid (by
              rw [← hR, ← hC, HS.out, sb_cons]
              rw [rtx_succ, if_neg hp, HD.out])
            rw [hC] at hcv
            rw [hR] at ad2
            clear hC hCs hR HS
            have hne : ((i : Int) == (k : Int)) = false := by simp; omega
            clear hp hik2
            go_wp2
            go_roundw
            case rel => exact ⟨i + 1, R, by go_num, rfl, by omega, HR', Lib.hid (HQ.out.alloc _), Lib.hid (HX.out.alloc _), Lib.hid (HRw.out.on (bA1 _ _)), Lib.hid (HBel.out.alloc HBel.out.size _)⟩
            case measure => simp [intOf]; omega
    · have HE : Hid (S = sb (rtx l k (max l.length (k + 1)))) := Lib.hid (by rw [HS.out, show i = max l.length (k + 1) by omega])
      have hil2 : ¬ i ≤ k := by omega
      have hil3 : ¬ i < l.length := by omega
      have HT : Hid (S = sb (txt c k)) := Lib.hid (by
        rw [HE.out, ← rtx_txt (k := k) rfl, if_neg (by have := HCC.out; omega), HLD.out]; rfl)
      clear HE HS
      go_wp2
      go_ret
      have hT := HT.out
      subst hT
      exact ⟨rfl, HBel.out⟩
set_option maxRecDepth 100000 in
set_option maxHeartbeats 8000000 in
theorem refText_neg (c : Int) (k : Nat) (w : World) (ia : isB c (k : Int) = true) (hcc : c < 0) :
    Calls Tryd.prog 12 #[.agg #[.int .i64 c, .int .i64 (k : Int)]] w fun e w' => e = .returned (.string (sb (txt c k))) ∧ Below w.heap.size w w' := by
  have hi := isB_iff.1 ia
  have hisw := fun w => refIs_any c (k : Int) w
  rw [ia] at hisw
  unfold nv at hisw
  have hk9 : k ≤ 9 := by omega
  obtain ⟨l, hl⟩ : ∃ l, dgs c.natAbs = l := ⟨_, rfl⟩
  have hll : l.length ≤ 15 := by rw [← hl]; exact dgs_len.2 (by omega)
  have hof : ∀ w', Calls Tryd.prog 8 #[.int .i64 c] w' (fun e w'' => ∃ ao cap, e = .returned (.agg #[.bool true, .slice ao l.length cap]) ∧ Hid (Rw w'' (.slice ao l.length cap) l) ∧ Below w'.heap.size w' w'') := fun w' => by
    refine (of_any c w' (by omega) (by omega)).mono ?_
    rintro e w'' ⟨v', rfl, h1, h2⟩
    rw [hl] at h1
    obtain ⟨ao, cap, rfl, _⟩ := h1.form
    exact ⟨ao, cap, by rw [decide_eq_true hcc], Lib.hid h1, h2⟩
  have HLD := Lib.hid hl
  have HDG : Hid (Dg l) := Lib.hid (by rw [← hl]; exact Dg_dgs _)
  have HCC := Lib.hid hcc
  clear hi ia hl hcc
  go_enter Tryd.func12, Tryd.ntmps12
  go_wp2_with (first | (go_at_call 10; refine (hisw _).mono ?_; rintro e w1 ⟨rfl, b1⟩; have HB1 := Lib.hid (bT (bA1 _ _) b1); obtain ⟨p0, p1, p2, p3⟩ := boxed b1 w.heap.size (.int .i64 c) (.int .i64 (k : Int)) (by simp [go_sem]) (by simp [go_sem]) (by simp [go_sem]) (by simp [go_sem]); clear b1) | (go_at_call 8; refine (hof _).mono ?_; rintro e w2 ⟨ao, ac, rfl, HR2, b2⟩; have HB2 := Lib.hid (bT HB1.out b2); obtain ⟨q0, q1, q2, q3⟩ := boxed b2 w.heap.size (.int .i64 c) (.int .i64 (k : Int)) p0 p1 p2 p3; have hlt2 := kl q0; clear b2))
  have HQ : Hid (Bx (w2.alloc (Obj.cells #[.bool true, .slice ao l.length ac] 31)) w.heap.size (.int .i64 c) (.int .i64 (k : Int))) := Lib.hid (Bx.alloc ⟨q0, q1, q2, q3⟩ _)
  have HX : Hid (Bx (w2.alloc (Obj.cells #[.bool true, .slice ao l.length ac] 31)) w2.heap.size (.bool true) (.slice ao l.length ac)) := Lib.hid (Lb.new w2 _ _).bx
  have HRR : Hid (Rw (w2.alloc (Obj.cells #[.bool true, .slice ao l.length ac] 31)) (.slice ao l.length ac) l) := Lib.hid (HR2.out.on (bA1 _ _))
  have HBB : Hid (Below w.heap.size w (w2.alloc (Obj.cells #[.bool true, .slice ao l.length ac] 31))) := Lib.hid (HB2.out.alloc HB2.out.size _)
  clear p0 p1 p2 p3 q0 q1 q2 q3 HB1 HB2 HR2
  go_loopw [4, 5] (fun ss iv wr => ∃ (i : Nat) (S : ByteArray), iv = .int .i64 (i : Nat) ∧ ss = .string S ∧ i ≤ max l.length (k + 1) ∧ Hid (S = sb (rtx l k i)) ∧ Hid (Bx wr w.heap.size (.int .i64 c) (.int .i64 (k : Int))) ∧ Hid (Bx wr w2.heap.size (.bool true) (.slice ao l.length ac)) ∧ Hid (Rw wr (.slice ao l.length ac) l) ∧ Hid (Below w.heap.size w wr)) (fun _ iv _ => max l.length (k + 1) - (intOf iv).toNat)
  case atStart => exact ⟨0, ⟨#[]⟩, rfl, rfl, by omega, Lib.hid rfl, HQ, HX, HRR, HBB⟩
  case round =>
    clear HQ HX HRR HBB hisw hof
    obtain ⟨i, S, rfl, rfl, hil, HS, HQ, HX, HRw, HBel⟩ := hrel
    obtain ⟨p0, p1, p2, p3⟩ := HQ.out
    obtain ⟨x0, x1, x2, x3⟩ := HX.out
    have hSs : S.size ≤ 100 := by
      have := rtx_len l k i
      rw [HS.out, sb_size]; omega
    by_cases hlt : i < max l.length (k + 1)
    · by_cases ha : i < l.length
      · obtain ⟨kk, oo, rfl⟩ := HRw.out.ptr (by omega)
        obtain ⟨d, hd⟩ : ∃ d, l[i]? = some d := ⟨l[i], List.getElem?_eq_getElem ha⟩
        have hcl : wr.cell? ⟨kk, oo + i, none⟩ = some (.int .i64 (d : Nat)) := HRw.out.cell hd
        have hd10 := HDG.out d (List.mem_of_getElem? hd)
        have HD : Hid (dat l i = d) := Lib.hid (dat_is hd)
        clear hd
        by_cases hp : i = k ∧ 0 < i
        · have hcv := fun w => conv_one w (ch d) (48 + (d : Int)) (by rw [ch_nat hd10]; rfl)
          obtain ⟨C, hC⟩ : ∃ C, sb [ch d] = C := ⟨_, rfl⟩
          have hCs : C.size = 1 := by rw [← hC]; rfl
          have ad1 := fun w => run_string_add_sum (P := Tryd.prog) w ⟨#[46]⟩ S (by have : (⟨#[46]⟩ : ByteArray).size = 1 := rfl; omega)
          obtain ⟨T, hT⟩ : ∃ T, (⟨#[46]⟩ : ByteArray) ++ S = T := ⟨_, rfl⟩
          have hTl : T = sb (46 :: rtx l k i) := by rw [← hT, HS.out]; exact sb_cons 46 _
          have hTs : T.size ≤ 102 := by
            have := rtx_len l k i
            rw [hTl, sb_size, List.length_cons]; omega
          rw [hT] at ad1
          have ad2 := fun w => run_string_add_sum (P := Tryd.prog) w C T (by omega)
          obtain ⟨R, hR⟩ : ∃ R, C ++ T = R := ⟨_, rfl⟩
          have HR' : Hid (R = sb (rtx l k (i + 1))) := Lib.hid (by
            rw [← hR, ← hC, hTl, sb_cons]
            rw [rtx_succ, if_pos hp, HD.out])
          rw [hC] at hcv
          rw [hR] at ad2
          clear hC hCs hR hT hTl hTs HS
          obtain ⟨rfl, hp1⟩ := hp
          go_wp2
          go_roundw
          case rel => exact ⟨i + 1, R, by go_num, rfl, by omega, HR', Lib.hid (HQ.out.alloc _), Lib.hid (HX.out.alloc _), Lib.hid (HRw.out.on (bA1 _ _)), Lib.hid (HBel.out.alloc HBel.out.size _)⟩
          case measure => simp [intOf]; omega
        · by_cases hik : i = k
          · have hcv := fun w => conv_one w (ch d) (48 + (d : Int)) (by rw [ch_nat hd10]; rfl)
            obtain ⟨C, hC⟩ : ∃ C, sb [ch d] = C := ⟨_, rfl⟩
            have hCs : C.size = 1 := by rw [← hC]; rfl
            have ad2 := fun w => run_string_add_sum (P := Tryd.prog) w C S (by omega)
            obtain ⟨R, hR⟩ : ∃ R, C ++ S = R := ⟨_, rfl⟩
            have HR' : Hid (R = sb (rtx l k (i + 1))) := Lib.hid (by
              rw [← hR, ← hC, HS.out, sb_cons]
              rw [rtx_succ, if_neg hp, HD.out])
            rw [hC] at hcv
            rw [hR] at ad2
            clear hC hCs hR HS
            have hz : ¬ 0 < i := fun h => hp ⟨hik, h⟩
            clear hp
            obtain rfl := hik
            go_wp2
            go_roundw
            case rel => exact ⟨i + 1, R, by go_num, rfl, by omega, HR', Lib.hid (HQ.out.alloc _), Lib.hid (HX.out.alloc _), Lib.hid (HRw.out.on (bA1 _ _)), Lib.hid (HBel.out.alloc HBel.out.size _)⟩
            case measure => simp [intOf]; omega
          · have hcv := fun w => conv_one w (ch d) (48 + (d : Int)) (by rw [ch_nat hd10]; rfl)
            obtain ⟨C, hC⟩ : ∃ C, sb [ch d] = C := ⟨_, rfl⟩
            have hCs : C.size = 1 := by rw [← hC]; rfl
            have ad2 := fun w => run_string_add_sum (P := Tryd.prog) w C S (by omega)
            obtain ⟨R, hR⟩ : ∃ R, C ++ S = R := ⟨_, rfl⟩
            have HR' : Hid (R = sb (rtx l k (i + 1))) := Lib.hid (by
              rw [← hR, ← hC, HS.out, sb_cons]
              rw [rtx_succ, if_neg hp, HD.out])
            rw [hC] at hcv
            rw [hR] at ad2
            clear hC hCs hR HS
            have hne : ((i : Int) == (k : Int)) = false := by simp; omega
            clear hp hik
            go_wp2
            go_roundw
            case rel => exact ⟨i + 1, R, by go_num, rfl, by omega, HR', Lib.hid (HQ.out.alloc _), Lib.hid (HX.out.alloc _), Lib.hid (HRw.out.on (bA1 _ _)), Lib.hid (HBel.out.alloc HBel.out.size _)⟩
            case measure => simp [intOf]; omega
      · have HD : Hid (dat l i = 0) := Lib.hid (dat_no ha)
        have hik : i ≤ k := by omega
        by_cases hp : i = k ∧ 0 < i
        · have hcv := fun w => conv_one w (ch 0) 48 (rfl)
          obtain ⟨C, hC⟩ : ∃ C, sb [ch 0] = C := ⟨_, rfl⟩
          have hCs : C.size = 1 := by rw [← hC]; rfl
          have ad1 := fun w => run_string_add_sum (P := Tryd.prog) w ⟨#[46]⟩ S (by have : (⟨#[46]⟩ : ByteArray).size = 1 := rfl; omega)
          obtain ⟨T, hT⟩ : ∃ T, (⟨#[46]⟩ : ByteArray) ++ S = T := ⟨_, rfl⟩
          have hTl : T = sb (46 :: rtx l k i) := by rw [← hT, HS.out]; exact sb_cons 46 _
          have hTs : T.size ≤ 102 := by
            have := rtx_len l k i
            rw [hTl, sb_size, List.length_cons]; omega
          rw [hT] at ad1
          have ad2 := fun w => run_string_add_sum (P := Tryd.prog) w C T (by omega)
          obtain ⟨R, hR⟩ : ∃ R, C ++ T = R := ⟨_, rfl⟩
          have HR' : Hid (R = sb (rtx l k (i + 1))) := Lib.hid (by
            rw [← hR, ← hC, hTl, sb_cons]
            rw [rtx_succ, if_pos hp, HD.out])
          rw [hC] at hcv
          rw [hR] at ad2
          clear hC hCs hR hT hTl hTs HS
          obtain ⟨rfl, hp1⟩ := hp
          go_wp2
          go_roundw
          case rel => exact ⟨i + 1, R, by go_num, rfl, by omega, HR', Lib.hid (HQ.out.alloc _), Lib.hid (HX.out.alloc _), Lib.hid (HRw.out.on (bA1 _ _)), Lib.hid (HBel.out.alloc HBel.out.size _)⟩
          case measure => simp [intOf]; omega
        · by_cases hik2 : i = k
          · have hcv := fun w => conv_one w (ch 0) 48 (rfl)
            obtain ⟨C, hC⟩ : ∃ C, sb [ch 0] = C := ⟨_, rfl⟩
            have hCs : C.size = 1 := by rw [← hC]; rfl
            have ad2 := fun w => run_string_add_sum (P := Tryd.prog) w C S (by omega)
            obtain ⟨R, hR⟩ : ∃ R, C ++ S = R := ⟨_, rfl⟩
            have HR' : Hid (R = sb (rtx l k (i + 1))) := Lib.hid (by
              rw [← hR, ← hC, HS.out, sb_cons]
              rw [rtx_succ, if_neg hp, HD.out])
            rw [hC] at hcv
            rw [hR] at ad2
            clear hC hCs hR HS
            have hz : ¬ 0 < i := fun h => hp ⟨hik2, h⟩
            clear hp
            obtain rfl := hik2
            go_wp2
            go_roundw
            case rel => exact ⟨i + 1, R, by go_num, rfl, by omega, HR', Lib.hid (HQ.out.alloc _), Lib.hid (HX.out.alloc _), Lib.hid (HRw.out.on (bA1 _ _)), Lib.hid (HBel.out.alloc HBel.out.size _)⟩
            case measure => simp [intOf]; omega
          · have hcv := fun w => conv_one w (ch 0) 48 (rfl)
            obtain ⟨C, hC⟩ : ∃ C, sb [ch 0] = C := ⟨_, rfl⟩
            have hCs : C.size = 1 := by rw [← hC]; rfl
            have ad2 := fun w => run_string_add_sum (P := Tryd.prog) w C S (by omega)
            obtain ⟨R, hR⟩ : ∃ R, C ++ S = R := ⟨_, rfl⟩
            have HR' : Hid (R = sb (rtx l k (i + 1))) := Lib.hid (by
              rw [← hR, ← hC, HS.out, sb_cons]
              rw [rtx_succ, if_neg hp, HD.out])
            rw [hC] at hcv
            rw [hR] at ad2
            clear hC hCs hR HS
            have hne : ((i : Int) == (k : Int)) = false := by simp; omega
            clear hp hik2
            go_wp2
            go_roundw
            case rel => exact ⟨i + 1, R, by go_num, rfl, by omega, HR', Lib.hid (HQ.out.alloc _), Lib.hid (HX.out.alloc _), Lib.hid (HRw.out.on (bA1 _ _)), Lib.hid (HBel.out.alloc HBel.out.size _)⟩
            case measure => simp [intOf]; omega
    · have HE : Hid (S = sb (rtx l k (max l.length (k + 1)))) := Lib.hid (by rw [HS.out, show i = max l.length (k + 1) by omega])
      have hil2 : ¬ i ≤ k := by omega
      have hil3 : ¬ i < l.length := by omega
      have ad := fun w => run_string_add_sum (P := Tryd.prog) w ⟨#[45]⟩ S (by have : (⟨#[45]⟩ : ByteArray).size = 1 := rfl; omega)
      obtain ⟨R, hR⟩ : ∃ R, (⟨#[45]⟩ : ByteArray) ++ S = R := ⟨_, rfl⟩
      have HT : Hid (R = sb (txt c k)) := Lib.hid (by
        rw [← hR, HE.out, ← rtx_txt (k := k) rfl, if_pos HCC.out, HLD.out]
        exact sb_cons 45 _)
      rw [hR] at ad
      clear hR HE HS
      go_wp2
      go_ret
      have hT := HT.out
      subst hT
      exact ⟨rfl, HBel.out⟩
set_option maxRecDepth 100000 in
set_option maxHeartbeats 1000000 in
theorem refText_any (c s : Int) (w : World) :
    Calls Tryd.prog 12 #[nv c s] w fun e w' => e = .returned (.string (if isB c s = true then sb (txt c s.toNat) else ⟨#[63]⟩)) ∧ Below w.heap.size w w' := by
  by_cases ia : isB c s = true
  · rw [if_pos ia]
    have hi := isB_iff.1 ia
    obtain ⟨k, rfl⟩ := Int.eq_ofNat_of_zero_le hi.1.1
    rw [show ((k : Nat) : Int).toNat = k by omega]
    by_cases hc : c < 0
    · exact refText_neg c k w ia hc
    · exact refText_pos c k w ia hc
  · rw [if_neg ia]
    have hisw := fun w => refIs_any c s w
    have ia : isB c s = false := by simpa using ia
    rw [ia] at hisw
    unfold nv at hisw ⊢
    clear ia
    go_enter Tryd.func12, Tryd.ntmps12
    go_wp2_with (go_at_call 10; refine (hisw _).mono ?_; rintro e w1 ⟨rfl, b1⟩; have bel1 := bT (bA1 _ _) b1)
    go_ret
    exact ⟨rfl, bel1⟩
end Nm
end Go.Proofs.YtkbmaimocoljeaaDoor
