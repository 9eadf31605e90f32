/- Layer 13: the token at a place, as the document has it. -/
import Derived.Test.YtpddkchnogfjkaaGreatDoorLxPb
import Derived.Test.YtpddkchnogfjkaaGreatDoorNrParse
import Derived.Test.YtpddkchnogfjkaaGreatDoorUtRUnq
import Derived.StillTailTactics
import Derived.Test.YtpddkchnogfjkaaGreatDoorLxPa
namespace Go.Proofs.YtpddkchnogfjkaaGreatDoor
open Go.RowKit
namespace Lx
open _root_.Go.Proofs.YtpddkchnogfjkaaGreatDoor.Nm (prs refP refP_is nv)
open _root_.Go.Proofs.YtpddkchnogfjkaaGreatDoor.Ut (ansV rdO)
theorem name_c (s : ByteArray) (i : Nat) (z : Int) (w : World) (hs : s.size ≤ 1000000000) (hi : i ≤ s.size) (hz : z = (i : Nat)) (R : Nat) (hR : nmE s i = R) :
    Calls Tryz.prog 11 #[.string s, .int .i64 z] w fun e w' => e = .returned (.int .i64 (R : Nat)) ∧ w = w' := by
  rw [hz, ← hR]; exact rname_any s i w hs hi
set_option maxRecDepth 100000 in
set_option maxHeartbeats 1000000 in
theorem rAt_name (s : ByteArray) (i : Nat) (w : World) (hs : s.size ≤ 4200) (hi : i < s.size) (hL : isLn s[i].toNat = true) :
    Calls Tryz.prog 7 #[.string s, .int .i64 (i : Nat)] w fun e w' => e = .returned (tkV i (tokL (s.data.toList.drop i))) ∧ Below w.heap.size w w' := by
  obtain ⟨n, hn⟩ : ∃ n, nmE s i = i + n := ⟨nmE s i - i, by have := nmE_ge s i; omega⟩
  have hle := nmE_le (s := s) (i := i) (by omega)
  rw [hn] at hle
  have h2 := fun w => name_c s i i w (by omega) (by omega) rfl (i + n) hn
  have ht := tok_name hi hL hn
  obtain ⟨c, hc⟩ : ∃ c, s[i].toNat = c := ⟨_, rfl⟩
  have hc256 : c < 256 := by rw [← hc]; exact s[i].toNat_lt
  have h1 := fun w => rletter_any c w hc256
  rw [hc] at hL
  rw [hL] at h1
  have g1 : ((c : Int) == 36) = false := by
    have : c ≠ 36 := by intro g; rw [g] at hL; cases hL
    simp; omega
  have h0 : n ≠ 0 := by
    intro g
    have e := nmE_run hi (by rw [hc]; exact hL)
    rw [run_go hi (by rw [isW_n, hc, hL]; rfl)] at e
    have := run_ge isW s (i + 1)
    omega
  by_cases h16 : 16 < n
  · rw [ht, if_pos h16]
    clear ht hn hL hc256
    go_enter Tryz.func7, Tryz.ntmps7
    go_wp2_with (first | (go_at_call 10; refine (h1 _).mono ?_; rintro e w' ⟨rfl, rfl⟩) | (go_at_call 11; refine (h2 _).mono ?_; rintro e w' ⟨rfl, rfl⟩))
    all_goals first | (exfalso; have h := ‹(_ == _) = true ∨ _›; simp only [beq_iff_eq] at h; omega) | (exfalso; have h := ‹(_ == _) = false ∧ _›; simp only [beq_eq_false_iff_ne, ne_eq] at h; omega) | skip
    all_goals exact bodyPost_ret (v := .agg #[.int .i64 0, .string ⟨#[]⟩, .int .i64 0, .int .i64 0, .int .i64 0, .int .i64 0, .int .i64 14]) (by simp [results, Tryz.results7, go_sem]) rfl ⟨rfl, by simpa using (Below.refl w.heap.size w).alloc (Nat.le_refl _) _⟩
  · rw [ht, if_neg h16]
    have HX : Hid (s.extract i (i + n) = ⟨((s.data.toList.drop i).take n).toArray⟩) := Lib.hid (by rw [ex_sub, Nat.add_sub_cancel_left])
    clear ht hn hL hc256
    go_enter Tryz.func7, Tryz.ntmps7
    go_wp2_with (first | (go_at_call 10; refine (h1 _).mono ?_; rintro e w' ⟨rfl, rfl⟩) | (go_at_call 11; refine (h2 _).mono ?_; rintro e w' ⟨rfl, rfl⟩))
    all_goals first | (exfalso; have h := ‹(_ == _) = true ∨ _›; simp only [beq_iff_eq] at h; omega) | (exfalso; have h := ‹(_ == _) = false ∧ _›; simp only [beq_eq_false_iff_ne, ne_eq] at h; omega) | skip
    all_goals exact bodyPost_ret (v := .agg #[.int .i64 1, .string (s.extract i (i + n)), .int .i64 0, .int .i64 0, .int .i64 i, .int .i64 ((i : Int) + n - i), .int .i64 0]) (by simp [results, Tryz.results7, go_sem]) rfl ⟨ret_v (by rw [HX.out]; simp [tkV]; omega), by simpa using (Below.refl w.heap.size w).alloc (Nat.le_refl _) _⟩
set_option maxRecDepth 100000 in
set_option maxHeartbeats 1000000 in
theorem rAt_var (s : ByteArray) (i : Nat) (w : World) (hs : s.size ≤ 4200) (hi : i < s.size) (hc : s[i].toNat = 36) :
    Calls Tryz.prog 7 #[.string s, .int .i64 (i : Nat)] w fun e w' => e = .returned (tkV i (tokL (s.data.toList.drop i))) ∧ Below w.heap.size w w' := by
  obtain ⟨n, hn⟩ : ∃ n, nmE s (i + 1) = i + 1 + n := ⟨nmE s (i + 1) - (i + 1), by have := nmE_ge s (i + 1); omega⟩
  have hle := nmE_le (s := s) (i := i + 1) (by omega)
  rw [hn] at hle
  have h2 := fun w => name_c s (i + 1) ((i : Int) + 1) w (by omega) (by omega) (by omega) (i + 1 + n) hn
  have ht := tok_var hi hc hn
  have h1 := fun w => rletter_any 36 w (by omega)
  rw [show isLn 36 = false from rfl] at h1
  by_cases h16 : n = 0 ∨ 16 < n
  · rw [ht, if_pos h16]
    clear ht hn
    go_enter Tryz.func7, Tryz.ntmps7
    go_wp2_with (first | (go_at_call 10; refine (h1 _).mono ?_; rintro e w' ⟨rfl, rfl⟩) | (go_at_call 11; refine (h2 _).mono ?_; rintro e w' ⟨rfl, rfl⟩))
    all_goals first | (exfalso; have h := ‹(_ == _) = true ∨ _›; simp only [beq_iff_eq] at h; omega) | (exfalso; have h := ‹(_ == _) = false ∧ _›; simp only [beq_eq_false_iff_ne, ne_eq] at h; omega) | skip
    all_goals exact bodyPost_ret (v := .agg #[.int .i64 0, .string ⟨#[]⟩, .int .i64 0, .int .i64 0, .int .i64 0, .int .i64 0, .int .i64 14]) (by simp [results, Tryz.results7, go_sem]) rfl ⟨rfl, by simpa using (Below.refl w.heap.size w).alloc (Nat.le_refl _) _⟩
  · rw [ht, if_neg h16]
    have HX : Hid (s.extract (i + 1) (i + 1 + n) = ⟨((s.data.toList.drop (i + 1)).take n).toArray⟩) := Lib.hid (by rw [ex_sub, Nat.add_sub_cancel_left])
    have k1 : n ≠ 0 := by omega
    have k2 : n ≤ 16 := by omega
    clear ht hn h16
    go_enter Tryz.func7, Tryz.ntmps7
    go_wp2_with (first | (go_at_call 10; refine (h1 _).mono ?_; rintro e w' ⟨rfl, rfl⟩) | (go_at_call 11; refine (h2 _).mono ?_; rintro e w' ⟨rfl, rfl⟩))
    all_goals first | (exfalso; have h := ‹(_ == _) = true ∨ _›; simp only [beq_iff_eq] at h; omega) | (exfalso; have h := ‹(_ == _) = false ∧ _›; simp only [beq_eq_false_iff_ne, ne_eq] at h; omega) | skip
    all_goals exact bodyPost_ret (v := .agg #[.int .i64 2, .string (s.extract (i + 1) (i + 1 + n)), .int .i64 0, .int .i64 0, .int .i64 i, .int .i64 ((i : Int) + 1 + n - i), .int .i64 0]) (by simp [results, Tryz.results7, go_sem]) rfl ⟨ret_v (by rw [HX.out]; simp [tkV]; omega), by simpa using (Below.refl w.heap.size w).alloc (Nat.le_refl _) _⟩
/-- a block that holds a token of the document's -/
def Tb (w : World) (k : Nat) (cs : Array Value) : Prop := w.heap[k]? = some (.cells cs 33 (0, 0))
theorem Tb.lt {w : World} {k : Nat} {cs : Array Value} (h : Tb w k cs) : k < w.heap.size := (Array.getElem?_eq_some_iff.1 h).1
theorem Tb.new (w : World) (cs : Array Value) : Tb (w.alloc (.cells cs 33)) w.heap.size cs := heap_alloc_new w _
theorem Tb.on {a b : World} {k : Nat} {cs : Array Value} (h : Tb a k cs) (hb : Below a.heap.size a b) : Tb b k cs := (hb.block k h.lt).trans h
theorem Tb.alloc {a : World} {k : Nat} {cs : Array Value} (h : Tb a k cs) (o : Obj) : Tb (a.alloc o) k cs := h.on ((Below.refl _ _).alloc (Nat.le_refl _) o)
theorem Tb.set {a : World} {k : Nat} {cs : Array Value} (h : Tb a k cs) (i : Nat) (u : Value) : Tb (a.setCell ⟨k, i, none⟩ u) k (cs.setIfInBounds i u) := by
  unfold Tb at h ⊢
  simp [World.setCell, Array.getElem?_modify, h]
theorem Tb.cell {w : World} {k : Nat} {cs : Array Value} (h : Tb w k cs) (i : Nat) : w.cell? ⟨k, i, none⟩ = cs[i]? := cell_of_row w k i cs _ _ h
theorem Tb.free {w : World} {k : Nat} {cs : Array Value} (h : Tb w k cs) (i : Nat) : w.frozen? ⟨k, i, none⟩ = false := by
  unfold Tb at h
  simp [World.frozen?, h]
theorem Tb.put {w : World} {k : Nat} {x0 x1 x2 x3 x4 x5 x6 : Value} (h : Tb w k #[x0, x1, x2, x3, x4, x5, x6]) (u0 u1 u2 u3 u4 u5 u6 : Value) :
    Tb (((((((w.setCell ⟨k, 0, none⟩ u0).setCell ⟨k, 1, none⟩ u1).setCell ⟨k, 2, none⟩ u2).setCell ⟨k, 3, none⟩ u3).setCell ⟨k, 4, none⟩ u4).setCell ⟨k, 5, none⟩ u5).setCell ⟨k, 6, none⟩ u6) k #[u0, u1, u2, u3, u4, u5, u6] := by
  have h0 : Tb _ k #[u0, x1, x2, x3, x4, x5, x6] := h.set 0 u0
  have h1 : Tb _ k #[u0, u1, x2, x3, x4, x5, x6] := h0.set 1 u1
  have h2 : Tb _ k #[u0, u1, u2, x3, x4, x5, x6] := h1.set 2 u2
  have h3 : Tb _ k #[u0, u1, u2, u3, x4, x5, x6] := h2.set 3 u3
  have h4 : Tb _ k #[u0, u1, u2, u3, u4, x5, x6] := h3.set 4 u4
  have h5 : Tb _ k #[u0, u1, u2, u3, u4, u5, x6] := h4.set 5 u5
  exact h5.set 6 u6
theorem Tb.seven {w : World} {k : Nat} {x0 x1 x2 x3 x4 x5 x6 : Value} (h : Tb w k #[x0, x1, x2, x3, x4, x5, x6]) : w.cell? ⟨k, 0, none⟩ = some x0 ∧ w.cell? ⟨k, 1, none⟩ = some x1 ∧ w.cell? ⟨k, 2, none⟩ = some x2 ∧ w.cell? ⟨k, 3, none⟩ = some x3 ∧ w.cell? ⟨k, 4, none⟩ = some x4 ∧ w.cell? ⟨k, 5, none⟩ = some x5 ∧ w.cell? ⟨k, 6, none⟩ = some x6 :=
  ⟨h.cell 0, h.cell 1, h.cell 2, h.cell 3, h.cell 4, h.cell 5, h.cell 6⟩
theorem b7 {w a : World} {k : Nat} (h : Below w.heap.size w a) (hk : w.heap.size ≤ k) (u0 u1 u2 u3 u4 u5 u6 : Value) :
    Below w.heap.size w (((((((a.setCell ⟨k, 0, none⟩ u0).setCell ⟨k, 1, none⟩ u1).setCell ⟨k, 2, none⟩ u2).setCell ⟨k, 3, none⟩ u3).setCell ⟨k, 4, none⟩ u4).setCell ⟨k, 5, none⟩ u5).setCell ⟨k, 6, none⟩ u6) :=
  ((((((h.setCell hk u0).setCell hk u1).setCell hk u2).setCell hk u3).setCell hk u4).setCell hk u5).setCell hk u6
theorem bel_call {w w1 : World} {o : Obj} (b1 : Below (w.alloc o).heap.size (w.alloc o) w1) : Below w.heap.size w w1 :=
  ((Below.refl _ _).alloc (Nat.le_refl _) o).trans (b1.mono (by simp))
theorem number_c (s : ByteArray) (i : Nat) (z : Int) (w : World) (hs : s.size ≤ 1000000000) (hi : i ≤ s.size) (hz : z = (i : Nat)) (R : Nat) (hR : numE s i = R) :
    Calls Tryz.prog 13 #[.string s, .int .i64 z] w fun e w' => e = .returned (.int .i64 (R : Nat)) ∧ w = w' := by
  rw [hz, ← hR]; exact rnumber_any s i w hs hi
theorem parse_c (t : ByteArray) (w : World) (hs : t.size ≤ 4200) (c s : Int) (e : Nat) (h : prs t.data.toList = .tuple #[.agg #[.int .i64 c, .int .i64 s], .int .i64 (e : Nat)]) :
    Calls Tryz.prog 14 #[.string t] w fun r w' => r = .returned (.tuple #[.agg #[.int .i64 c, .int .i64 s], .int .i64 (e : Nat)]) ∧ Below w.heap.size w w' := by
  have h1 := Nm.refParse_any t w hs
  rw [refP_is _ (by have : t.data.toList.length = t.size := by simp
                    omega), h] at h1
  exact h1
theorem numE_ge (s : ByteArray) (i : Nat) : i ≤ numE s i := by rw [numE_is]; omega
theorem numE_le {s : ByteArray} {i : Nat} (hi : i ≤ s.size) : numE s i ≤ s.size := by
  unfold numE; exact expE_le (fracE_le (run_le _ _ hi))
set_option maxRecDepth 100000 in
set_option maxHeartbeats 1000000 in
theorem rAt_num (s : ByteArray) (i : Nat) (w : World) (hs : s.size ≤ 4200) (hi : i < s.size) (hL : isLn s[i].toNat = false) (h36 : s[i].toNat ≠ 36) (hD : isDn s[i].toNat = true) :
    Calls Tryz.prog 7 #[.string s, .int .i64 (i : Nat)] w fun e w' => e = .returned (tkV i (tokL (s.data.toList.drop i))) ∧ Below w.heap.size w w' := by
  obtain ⟨n, hn⟩ : ∃ n, numE s i = i + n := ⟨numE s i - i, by have := numE_ge s i; omega⟩
  have hle := numE_le (s := s) (i := i) (by omega)
  rw [hn] at hle
  have ht := tok_num hi hL h36 hD hn
  have HX : s.extract i (i + n) = ⟨((s.data.toList.drop i).take n).toArray⟩ := by rw [ex_sub, Nat.add_sub_cancel_left]
  obtain ⟨l, hl⟩ : ∃ l, (s.data.toList.drop i).take n = l := ⟨_, rfl⟩
  rw [hl] at ht HX
  obtain ⟨cc, sc, er, hp⟩ := prs_form l
  have hN : numN l = (cc, sc, er) := by unfold numN; rw [hp]; rfl
  rw [hN] at ht
  have h4 := fun w => parse_c (s.extract i (i + n)) w (Nat.le_trans (ex_size hle) hs) cc sc er (by rw [HX]; exact hp)
  have h3 := fun w => number_c s i i w (by omega) (by omega) rfl (i + n) hn
  obtain ⟨c, hc⟩ : ∃ c, s[i].toNat = c := ⟨_, rfl⟩
  have hc256 : c < 256 := by rw [← hc]; exact s[i].toNat_lt
  have h1 := fun w => rletter_any c w hc256
  have h2 := fun w => rdigit_any c w hc256
  rw [hc] at hL hD h36
  rw [hL] at h1
  rw [hD] at h2
  have g1 : ((c : Int) == 36) = false := by simp; omega
  have HX2 := Lib.hid HX
  by_cases he : er = 0
  · subst he
    simp only [ne_eq, not_true_eq_false, if_false] at ht
    rw [show ((0 : Nat) : Int) = 0 from rfl] at h4
    rw [ht]
    clear ht hn hL hc256 hD hN hp hl HX
    go_enter Tryz.func7, Tryz.ntmps7
    go_wp2_with (first | (go_at_call 10; refine (h1 _).mono ?_; rintro e w' ⟨rfl, rfl⟩) | (go_at_call 12; refine (h2 _).mono ?_; rintro e w' ⟨rfl, rfl⟩) | (go_at_call 13; refine (h3 _).mono ?_; rintro e w' ⟨rfl, rfl⟩) | (go_at_call 14; refine (h4 _).mono ?_; rintro e w1 ⟨rfl, b1⟩; have hc := fun o => b1.cell (p := ⟨w.heap.size, o, none⟩) (by simp); have hf := fun o => b1.frozen (p := ⟨w.heap.size, o, none⟩) (by simp); have hz : w.heap.size < w1.heap.size := (by have := b1.size; simp at this; omega)))
    have i1 : (i : Int) ≤ (i : Int) + n := by omega
    have i2 : (i : Int) + n ≤ (s.size : Int) := by omega
    have hq := heap_alloc_new w1 (Obj.cells #[.int .i64 cc, .int .i64 sc] 29)
    have HV0 := Lib.hid (((Tb.new w #[.int .i64 0, .string ⟨#[]⟩, .int .i64 0, .int .i64 0, .int .i64 0, .int .i64 0, .int .i64 0]).on b1).alloc (Obj.cells #[.int .i64 cc, .int .i64 sc] 29))
    have HB0 := Lib.hid ((bel_call b1).alloc (by omega) (Obj.cells #[.int .i64 cc, .int .i64 sc] 29))
    clear hc hf b1
    generalize w1.alloc (Obj.cells #[.int .i64 cc, .int .i64 sc] 29) = w2 at hq HV0 HB0 ⊢
    have q0 : w2.cell? ⟨w1.heap.size, 0, none⟩ = some (.int .i64 cc) := cell_of_row w2 _ 0 _ _ _ hq
    have q1 : w2.cell? ⟨w1.heap.size, 1, none⟩ = some (.int .i64 sc) := cell_of_row w2 _ 1 _ _ _ hq
    clear hq
    go_still_tail 10, (by kernel_rfl)
    repeat still_step
    (try (refine wpStill_step (fun K hK => ?_); go_simp; (repeat (first | rw [if_pos (by omega)] | rw [if_neg (by omega)])); (try go_simp); (repeat (first | rw [if_pos (by omega)] | rw [if_neg (by omega)])); (try go_simp); refine hK _ ?_; clear hK K))
    repeat still_step
    (try refine wpStill_nil ?_)
    change wpList _ _ _ _ _ w2.drew
    have HV1 := Lib.hid (HV0.out.on (Below.refl _ _).drew)
    have HB1 := Lib.hid (HB0.out.drew)
    clear q0 q1 HV0 HB0
    generalize w2.drew = w3 at HV1 HB1 ⊢
    obtain ⟨y0, y1, y2, y3, y4, y5, y6⟩ := HV1.out.seven
    have hf := fun o => HV1.out.free o
    go_wp2
    have HV := Lib.hid (HV1.out.put (.int .i64 3) (.string (s.extract i (i + n))) (.int .i64 cc) (.int .i64 sc) (.int .i64 i) (.int .i64 ((i : Int) + n - i)) (.int .i64 0))
    obtain ⟨z0, z1, z2, z3, z4, z5, z6⟩ := HV.out.seven
    have HB := Lib.hid (b7 HB1.out (Nat.le_refl _) (.int .i64 3) (.string (s.extract i (i + n))) (.int .i64 cc) (.int .i64 sc) (.int .i64 i) (.int .i64 ((i : Int) + n - i)) (.int .i64 0))
    have HX3 := HX2.out
    clear y0 y1 y2 y3 y4 y5 y6 hf
    simp [bodyPost, results, Tryz.results7, go_sem, z0, z1, z2, z3, z4, z5, z6, tkV]
    exact ⟨⟨HX3, by omega⟩, HB.out⟩
  · simp only [ne_eq, he, not_false_eq_true, if_true] at ht
    rw [ht]
    clear ht hn hL hc256 hD hN hp hl HX
    go_enter Tryz.func7, Tryz.ntmps7
    go_wp2_with (first | (go_at_call 10; refine (h1 _).mono ?_; rintro e w' ⟨rfl, rfl⟩) | (go_at_call 12; refine (h2 _).mono ?_; rintro e w' ⟨rfl, rfl⟩) | (go_at_call 13; refine (h3 _).mono ?_; rintro e w' ⟨rfl, rfl⟩) | (go_at_call 14; refine (h4 _).mono ?_; rintro e w1 ⟨rfl, b1⟩; have hc := fun o => b1.cell (p := ⟨w.heap.size, o, none⟩) (by simp); have hf := fun o => b1.frozen (p := ⟨w.heap.size, o, none⟩) (by simp); have hz : w.heap.size < w1.heap.size := (by have := b1.size; simp at this; omega)))
    have HV := Lib.hid (((Tb.new w #[.int .i64 0, .string ⟨#[]⟩, .int .i64 0, .int .i64 0, .int .i64 0, .int .i64 0, .int .i64 0]).on b1).put (.int .i64 0) (.string ⟨#[]⟩) (.int .i64 0) (.int .i64 0) (.int .i64 0) (.int .i64 0) (.int .i64 er))
    obtain ⟨z0, z1, z2, z3, z4, z5, z6⟩ := (HV.out.alloc (Obj.cells #[.int .i64 cc, .int .i64 sc] 29)).seven
    have HB := Lib.hid ((b7 (bel_call b1) (Nat.le_refl _) (.int .i64 0) (.string ⟨#[]⟩) (.int .i64 0) (.int .i64 0) (.int .i64 0) (.int .i64 0) (.int .i64 er)).alloc (by have := hz; simp; omega) (Obj.cells #[.int .i64 cc, .int .i64 sc] 29))
    clear hc hf
    simp [bodyPost, results, Tryz.results7, go_sem, z0, z1, z2, z3, z4, z5, z6, tkV]
    exact ⟨rfl, HB.out⟩
theorem text_c (s : ByteArray) (i : Nat) (w : World) (hs : s.size ≤ 1000000000) (hi : i ≤ s.size) (R : Option Nat) (hR : strO s (i + 1) = R) :
    Calls Tryz.prog 15 #[.string s, .int .i64 (i : Nat)] w fun e w' => e = .returned (.int .i64 (orM R)) ∧ w = w' := by
  rw [← hR]; exact rtext_any s i w hs hi
set_option maxRecDepth 100000 in
set_option maxHeartbeats 1000000 in
theorem rAt_str (s : ByteArray) (i : Nat) (w : World) (hs : s.size ≤ 4200) (hi : i < s.size) (hc : s[i].toNat = 34) :
    Calls Tryz.prog 7 #[.string s, .int .i64 (i : Nat)] w fun e w' => e = .returned (tkV i (tokL (s.data.toList.drop i))) ∧ Below w.heap.size w w' := by
  have ht := tok_str hi hc
  have h1 := fun w => rletter_any 34 w (by omega)
  have h2 := fun w => rdigit_any 34 w (by omega)
  rw [show isLn 34 = false from rfl] at h1
  rw [show isDn 34 = false from rfl] at h2
  cases hR : strO s (i + 1) with
  | none =>
    rw [hR] at ht
    have h3 := fun w => text_c s i w (by omega) (by omega) none hR
    rw [ht]
    unfold orM at h3
    simp only at h3
    clear ht hR
    go_enter Tryz.func7, Tryz.ntmps7
    go_wp2_with (first | (go_at_call 10; refine (h1 _).mono ?_; rintro e w' ⟨rfl, rfl⟩) | (go_at_call 12; refine (h2 _).mono ?_; rintro e w' ⟨rfl, rfl⟩) | (go_at_call 15; refine (h3 _).mono ?_; rintro e w' ⟨rfl, rfl⟩))
    exact bodyPost_ret (v := .agg #[.int .i64 0, .string ⟨#[]⟩, .int .i64 0, .int .i64 0, .int .i64 0, .int .i64 0, .int .i64 14]) (by simp [results, Tryz.results7, go_sem]) rfl ⟨rfl, by simpa using (Below.refl w.heap.size w).alloc (Nat.le_refl _) _⟩
  | some q =>
    have hq := strO_le hR
    obtain ⟨n, rfl⟩ : ∃ n, q = i + n := ⟨q - i, by omega⟩
    rw [hR] at ht
    simp only [Nat.add_sub_cancel_left] at ht
    have HX : s.extract i (i + n) = ⟨((s.data.toList.drop i).take n).toArray⟩ := by rw [ex_sub, Nat.add_sub_cancel_left]
    obtain ⟨l, hl⟩ : ∃ l, (s.data.toList.drop i).take n = l := ⟨_, rfl⟩
    rw [hl] at ht HX
    obtain ⟨bs, er, hp⟩ := ansV_form (rdO ⟨l.toArray⟩)
    have hS : strS l = (bs.data.toList, er) := by unfold strS; rw [hp]; rfl
    rw [hS] at ht
    have h3 := fun w => text_c s i w (by omega) (by omega) (some (i + n)) hR
    unfold orM at h3
    simp only at h3
    have h4 : ∀ w, Calls Tryz.prog 16 #[.string (s.extract i (i + n))] w fun e w' => e = .returned (.tuple #[.string bs, .int .i64 (er : Nat)]) ∧ Below w.heap.size w w' := fun w => by
      have := Ut.runquote_any (s.extract i (i + n)) w (by have := ex_size (s := s) (a := i) (b := i + n) (by omega); omega)
      rw [HX, hp] at this
      rw [HX]; exact this
    clear hl hp hS hR
    have HX2 := Lib.hid HX
    clear HX
    by_cases he3 : er = 3
    · subst he3
      simp only [if_true] at ht
      rw [ht]
      rw [show ((3 : Nat) : Int) = 3 from rfl] at h4
      clear ht
      go_enter Tryz.func7, Tryz.ntmps7
      go_wp2_with (first | (go_at_call 10; refine (h1 _).mono ?_; rintro e w' ⟨rfl, rfl⟩) | (go_at_call 12; refine (h2 _).mono ?_; rintro e w' ⟨rfl, rfl⟩) | (go_at_call 15; refine (h3 _).mono ?_; rintro e w' ⟨rfl, rfl⟩) | (go_at_call 16; refine (h4 _).mono ?_; rintro e w1 ⟨rfl, b1⟩; have hc := fun o => b1.cell (p := ⟨w.heap.size, o, none⟩) (by simp); have hf := fun o => b1.frozen (p := ⟨w.heap.size, o, none⟩) (by simp); have hz : w.heap.size < w1.heap.size := (by have := b1.size; simp at this; omega)))
      have HV := Lib.hid (((Tb.new w #[.int .i64 0, .string ⟨#[]⟩, .int .i64 0, .int .i64 0, .int .i64 0, .int .i64 0, .int .i64 0]).on b1).put (.int .i64 0) (.string ⟨#[]⟩) (.int .i64 0) (.int .i64 0) (.int .i64 0) (.int .i64 0) (.int .i64 14))
      obtain ⟨z0, z1, z2, z3, z4, z5, z6⟩ := HV.out.seven
      have HB := Lib.hid (b7 (bel_call b1) (Nat.le_refl _) (.int .i64 0) (.string ⟨#[]⟩) (.int .i64 0) (.int .i64 0) (.int .i64 0) (.int .i64 0) (.int .i64 14))
      clear hc hf
      simp [bodyPost, results, Tryz.results7, go_sem, z0, z1, z2, z3, z4, z5, z6, tkV]
      first | exact ⟨rfl, HB.out⟩ | exact ⟨by omega, HB.out⟩
    · by_cases he0 : er = 0
      · subst he0
        simp only [he3, if_false, ne_eq, not_true_eq_false] at ht
        rw [ht]
        rw [show ((0 : Nat) : Int) = 0 from rfl] at h4
        clear ht
        go_enter Tryz.func7, Tryz.ntmps7
        go_wp2_with (first | (go_at_call 10; refine (h1 _).mono ?_; rintro e w' ⟨rfl, rfl⟩) | (go_at_call 12; refine (h2 _).mono ?_; rintro e w' ⟨rfl, rfl⟩) | (go_at_call 15; refine (h3 _).mono ?_; rintro e w' ⟨rfl, rfl⟩) | (go_at_call 16; refine (h4 _).mono ?_; rintro e w1 ⟨rfl, b1⟩; have hc := fun o => b1.cell (p := ⟨w.heap.size, o, none⟩) (by simp); have hf := fun o => b1.frozen (p := ⟨w.heap.size, o, none⟩) (by simp); have hz : w.heap.size < w1.heap.size := (by have := b1.size; simp at this; omega)))
        have HV := Lib.hid (((Tb.new w #[.int .i64 0, .string ⟨#[]⟩, .int .i64 0, .int .i64 0, .int .i64 0, .int .i64 0, .int .i64 0]).on b1).put (.int .i64 4) (.string bs) (.int .i64 0) (.int .i64 0) (.int .i64 i) (.int .i64 ((i : Int) + n - i)) (.int .i64 0))
        obtain ⟨z0, z1, z2, z3, z4, z5, z6⟩ := HV.out.seven
        have HB := Lib.hid (b7 (bel_call b1) (Nat.le_refl _) (.int .i64 4) (.string bs) (.int .i64 0) (.int .i64 0) (.int .i64 i) (.int .i64 ((i : Int) + n - i)) (.int .i64 0))
        clear hc hf
        simp [bodyPost, results, Tryz.results7, go_sem, z0, z1, z2, z3, z4, z5, z6, tkV]
        first | exact ⟨rfl, HB.out⟩ | exact ⟨by omega, HB.out⟩
      · simp only [he3, he0, if_false, ne_eq, not_false_eq_true, if_true] at ht
        rw [ht]
        have g1 : ((er : Int) == 3) = false := by simp; omega
        have g2 : ((er : Int) == 0) = false := by simp; omega
        have g3 : ((er : Int) != 0) = true := by simp; omega
        clear ht
        go_enter Tryz.func7, Tryz.ntmps7
        go_wp2_with (first | (go_at_call 10; refine (h1 _).mono ?_; rintro e w' ⟨rfl, rfl⟩) | (go_at_call 12; refine (h2 _).mono ?_; rintro e w' ⟨rfl, rfl⟩) | (go_at_call 15; refine (h3 _).mono ?_; rintro e w' ⟨rfl, rfl⟩) | (go_at_call 16; refine (h4 _).mono ?_; rintro e w1 ⟨rfl, b1⟩; have hc := fun o => b1.cell (p := ⟨w.heap.size, o, none⟩) (by simp); have hf := fun o => b1.frozen (p := ⟨w.heap.size, o, none⟩) (by simp); have hz : w.heap.size < w1.heap.size := (by have := b1.size; simp at this; omega)))
        have HV := Lib.hid (((Tb.new w #[.int .i64 0, .string ⟨#[]⟩, .int .i64 0, .int .i64 0, .int .i64 0, .int .i64 0, .int .i64 0]).on b1).put (.int .i64 0) (.string ⟨#[]⟩) (.int .i64 0) (.int .i64 0) (.int .i64 0) (.int .i64 0) (.int .i64 er))
        obtain ⟨z0, z1, z2, z3, z4, z5, z6⟩ := HV.out.seven
        have HB := Lib.hid (b7 (bel_call b1) (Nat.le_refl _) (.int .i64 0) (.string ⟨#[]⟩) (.int .i64 0) (.int .i64 0) (.int .i64 0) (.int .i64 0) (.int .i64 er))
        clear hc hf
        simp [bodyPost, results, Tryz.results7, go_sem, z0, z1, z2, z3, z4, z5, z6, tkV]
        first | exact ⟨rfl, HB.out⟩ | exact ⟨by omega, HB.out⟩
end Lx
end Go.Proofs.YtpddkchnogfjkaaGreatDoor
namespace Go.Proofs.YtpddkchnogfjkaaGreatDoor
open Go.RowKit
namespace Lx
theorem two_ex {s : ByteArray} {i : Nat} : s.extract i (i + 2) = ⟨((s.data.toList.drop i).take 2).toArray⟩ := by rw [ex_sub, Nat.add_sub_cancel_left]
def twB : List ByteArray := [⟨#[47, 47]⟩, ⟨#[61, 61]⟩, ⟨#[33, 61]⟩, ⟨#[60, 61]⟩, ⟨#[62, 61]⟩]
theorem twB_get (k : Nat) : twos[k]? = (twB[k]?).map fun x => x.data.toList := by
  match k with
  | 0 => rfl
  | 1 => rfl
  | 2 => rfl
  | 3 => rfl
  | 4 => rfl
  | k + 5 => rfl
/-- the block of the answer, and the row of the signs of two bytes -/
structure W2 (w wr : World) : Prop where
  bel : Below w.heap.size w wr
  tb : Tb wr w.heap.size #[.int .i64 0, .string ⟨#[]⟩, .int .i64 0, .int .i64 0, .int .i64 0, .int .i64 0, .int .i64 0]
  row : ∀ k x, twB[k]? = some x → wr.cell? ⟨w.heap.size + 1, k, none⟩ = some (.string x)
  sz : w.heap.size + 2 ≤ wr.heap.size
theorem W2.new (w : World) : W2 w ((w.alloc (.cells #[.int .i64 0, .string ⟨#[]⟩, .int .i64 0, .int .i64 0, .int .i64 0, .int .i64 0, .int .i64 0] 33)).alloc (.cells #[.string ⟨#[47, 47]⟩, .string ⟨#[61, 61]⟩, .string ⟨#[33, 61]⟩, .string ⟨#[60, 61]⟩, .string ⟨#[62, 61]⟩] 9)) := by
  refine ⟨((Below.refl _ _).alloc (Nat.le_refl _) _).alloc (by simp) _, (Tb.new _ _).alloc _, fun k x hk => ?_, by simp⟩
  have hh := heap_alloc_new (w.alloc (.cells #[.int .i64 0, .string ⟨#[]⟩, .int .i64 0, .int .i64 0, .int .i64 0, .int .i64 0, .int .i64 0] 33)) (.cells #[.string ⟨#[47, 47]⟩, .string ⟨#[61, 61]⟩, .string ⟨#[33, 61]⟩, .string ⟨#[60, 61]⟩, .string ⟨#[62, 61]⟩] 9)
  rw [show (w.alloc (.cells #[.int .i64 0, .string ⟨#[]⟩, .int .i64 0, .int .i64 0, .int .i64 0, .int .i64 0, .int .i64 0] 33)).heap.size = w.heap.size + 1 by simp] at hh
  rw [cell_of_row _ _ k _ _ _ hh]
  match k, hk with
  | 0, hk => cases hk; rfl
  | 1, hk => cases hk; rfl
  | 2, hk => cases hk; rfl
  | 3, hk => cases hk; rfl
  | 4, hk => cases hk; rfl
theorem W2.on {w a b : World} (h : W2 w a) (hb : Below a.heap.size a b) : W2 w b :=
  ⟨h.bel.trans (hb.mono (by have := h.sz; omega)), h.tb.on hb, fun k x hk => (hb.cell (p := ⟨_, _, none⟩) (by have := h.sz; show w.heap.size + 1 < _; omega)).trans (h.row k x hk), Nat.le_trans h.sz hb.size⟩
theorem W2.drewN {w a : World} (h : W2 w a) (n : Nat) : W2 w (a.drewN n) := h.on ((Below.refl _ _).trans ⟨rfl, rfl, rfl, Nat.le_refl _, fun _ _ => rfl⟩)
set_option maxRecDepth 100000 in
set_option maxHeartbeats 1000000 in
theorem rAt_sign (s : ByteArray) (i : Nat) (w : World) (hs : s.size ≤ 4200) (hi : i < s.size) (hL : isLn s[i].toNat = false) (h36 : s[i].toNat ≠ 36) (hD : isDn s[i].toNat = false) (h34 : s[i].toNat ≠ 34) :
    Calls Tryz.prog 7 #[.string s, .int .i64 (i : Nat)] w fun e w' => e = .returned (tkV i (tokL (s.data.toList.drop i))) ∧ Below w.heap.size w w' := by
  obtain ⟨R, hR⟩ : ∃ R, tkV i (tokL (s.data.toList.drop i)) = R := ⟨_, rfl⟩
  rw [hR]
  have ht := tok_sign hi hL h36 hD h34
  obtain ⟨c, hc⟩ : ∃ c, s[i].toNat = c := ⟨_, rfl⟩
  have hc256 : c < 256 := by rw [← hc]; exact s[i].toNat_lt
  have h1 := fun w => rletter_any c w hc256
  have h2 := fun w => rdigit_any c w hc256
  rw [hc] at hL hD h36 h34
  rw [hL] at h1
  rw [hD] at h2
  have g1 : ((c : Int) == 36) = false := by simp; omega
  have g2 : ((c : Int) == 34) = false := by simp; omega
  rw [ht] at hR
  have HR := Lib.hid hR
  clear hR ht hL hD
  go_enter Tryz.func7, Tryz.ntmps7
  go_wp2_with (first | (go_at_call 10; refine (h1 _).mono ?_; rintro e w' ⟨rfl, rfl⟩) | (go_at_call 12; refine (h2 _).mono ?_; rintro e w' ⟨rfl, rfl⟩))
  clear h1 h2
  have HW0 := Lib.hid (W2.new w)
  go_loopw [16] (fun j wr => ∃ k : Nat, j = .int .i64 (k : Nat) ∧ k ≤ 5 ∧ Hid (W2 w wr) ∧ Hid (∀ q, q < k → twos[q]? ≠ some ((s.data.toList.drop i).take 2))) (fun j _ => 5 - (intOf j).toNat)
  case atStart => exact ⟨0, rfl, by omega, HW0, Lib.hid (fun q hq => by omega)⟩
  case round =>
    clear HW0
    obtain ⟨k, rfl, hk, HW, HK⟩ := hrel
    by_cases h5 : k < 5
    · obtain ⟨x, hx⟩ : ∃ x, twB[k]? = some x := ⟨twB[k], List.getElem?_eq_getElem h5⟩
      have hcell := HW.out.row k x hx
      have HX := Lib.hid hx
      clear hx
      by_cases hsz : i + 2 ≤ s.size
      · have hh1 : (i : Int) + 2 ≤ (s.size : Int) := by omega
        by_cases he : s.extract i (i + 2) = x
        · have he2 := st_eq he
          have HF : Hid (R = .agg #[.int .i64 5, .string x, .int .i64 0, .int .i64 0, .int .i64 i, .int .i64 2, .int .i64 0]) := Lib.hid (by
            have h1 : x.data.toList = (s.data.toList.drop i).take 2 := by rw [← he, two_ex]
            have h2 : twos.contains ((s.data.toList.drop i).take 2) = true := by
              rw [List.contains_iff_mem, ← h1]
              exact List.mem_of_getElem? (by rw [twB_get k, HX.out]; rfl)
            rw [← HR.out, if_pos h2, ← he, two_ex]; rfl)
          clear HR HK
          go_wp2_with fail
          go_quiet (fail)
          have HW3 := Lib.hid (HW.out.drewN nq)
          clear hcell HW
          generalize wr.drewN nq = w3 at HW3 ⊢
          have hcell := HW3.out.row k x HX.out
          obtain ⟨y0, y1, y2, y3, y4, y5, y6⟩ := HW3.out.tb.seven
          have hf := fun o => HW3.out.tb.free o
          go_wp2_with fail
          have HV := Lib.hid (HW3.out.tb.put (.int .i64 5) (.string x) (.int .i64 0) (.int .i64 0) (.int .i64 i) (.int .i64 2) (.int .i64 0))
          obtain ⟨z0, z1, z2, z3, z4, z5, z6⟩ := HV.out.seven
          have HB := Lib.hid (b7 HW3.out.bel (Nat.le_refl _) (.int .i64 5) (.string x) (.int .i64 0) (.int .i64 0) (.int .i64 i) (.int .i64 2) (.int .i64 0))
          clear y0 y1 y2 y3 y4 y5 y6 hf
          simp [bodyPost, results, Tryz.results7, go_sem, z0, z1, z2, z3, z4, z5, z6]
          exact ⟨HF.out.symm, HB.out⟩
        · have he2 := st_ne he
          have HN : Hid (∀ q, q < k + 1 → twos[q]? ≠ some ((s.data.toList.drop i).take 2)) := Lib.hid (fun q hq => by
            by_cases e : q = k
            · subst e
              rw [twB_get q, HX.out]
              intro g
              apply he
              rw [two_ex, ← Option.some.inj g]
            · exact HK.out q (by omega))
          clear HR HK HX
          go_wp2_with fail
          go_quiet (fail)
          go_wp2_with fail
          go_roundw
          case rel => exact ⟨k + 1, by go_num, by omega, Lib.hid (HW.out.drewN _), HN⟩
          case measure => simp [intOf]; omega
      · have HN : Hid (∀ q, q < k + 1 → twos[q]? ≠ some ((s.data.toList.drop i).take 2)) := Lib.hid (fun q hq g => by
          have := two_no (s := s) (i := i) (by omega)
          rw [List.contains_iff_mem.2 (List.mem_of_getElem? g)] at this
          cases this)
        have hh2 : ¬ (i : Int) + 2 ≤ (s.size : Int) := by omega
        have hh3 : decide ((i : Int) + 2 ≤ (s.size : Int)) = false := decide_eq_false hh2
        clear HR HK HX
        go_wp2_with fail
        go_quiet (fail)
        go_wp2_with fail
        go_roundw
        case rel => exact ⟨k + 1, by go_num, by omega, Lib.hid (HW.out.drewN _), HN⟩
        case measure => simp [intOf]; omega
    · have HN : Hid (twos.contains ((s.data.toList.drop i).take 2) = false) := Lib.hid (by
        rw [Bool.eq_false_iff]; intro g
        obtain ⟨q, hq⟩ := List.mem_iff_getElem?.1 (List.contains_iff_mem.1 g)
        have hq5 : q < 5 := (List.getElem?_eq_some_iff.1 hq).1
        exact HK.out q (by omega) hq)
      clear HK
      have HR2 : Hid (tkV i (if ones.contains s[i] = true then .ok (5, [s[i]], (0, 0), 1) else .error 14) = R) := Lib.hid (by rw [← HR.out, HN.out]; rfl)
      clear HR HN
      obtain ⟨y0, y1, y2, y3, y4, y5, y6⟩ := HW.out.tb.seven
      have hf := fun o => HW.out.tb.free o
      go_wp2_with fail
      generalize hO : (⟨#[46, 124, 44, 60, 62, 43, 45, 42, 47, 37, 40, 41, 91, 93, 123, 125, 58, 59]⟩ : ByteArray) = O
      have hO1 : O.size = 18 := by rw [← hO]; rfl
      have HO : Hid (O.data.toList = ones) := Lib.hid (by rw [← hO]; rfl)
      clear hO
      go_loop [18] (fun j => ∃ k : Nat, j = .int .i64 (k : Nat) ∧ k ≤ 18 ∧ Hid (∀ q, q < k → ones[q]? ≠ some s[i])) (fun j => 18 - (intOf j).toNat)
      case atStart => exact ⟨0, rfl, by omega, Lib.hid (fun q hq => by omega)⟩
      case round =>
        obtain ⟨m, rfl, hm, HM⟩ := hrel
        by_cases hm8 : m < 18
        · have hmO : m < O.size := by omega
          have HG : Hid (ones[m]? = some O[m]) := Lib.hid (by rw [← HO.out]; exact List.getElem?_eq_getElem (show m < O.data.toList.length by simpa using hmO))
          obtain ⟨d, hd⟩ : ∃ d, O[m].toNat = d := ⟨_, rfl⟩
          by_cases hdc : d = c
          · have HF : Hid (R = .agg #[.int .i64 5, .string (O.extract m (m + 1)), .int .i64 0, .int .i64 0, .int .i64 i, .int .i64 1, .int .i64 0]) := Lib.hid (by
              have h1 : O[m] = s[i] := UInt8.toNat_inj.1 (by rw [hd, hc, hdc])
              have h2 : ones.contains s[i] = true := by
                rw [List.contains_iff_mem, ← h1]
                exact List.mem_of_getElem? HG.out
              rw [← HR2.out, if_pos h2, ex_sub, Nat.add_sub_cancel_left, at_drop O m hmO, h1]; rfl)
            subst hdc
            clear HR2 HM HG HO
            go_wp2_with fail
            have HV := Lib.hid (HW.out.tb.put (.int .i64 5) (.string (O.extract m (m + 1))) (.int .i64 0) (.int .i64 0) (.int .i64 i) (.int .i64 1) (.int .i64 0))
            obtain ⟨z0, z1, z2, z3, z4, z5, z6⟩ := HV.out.seven
            have HB := Lib.hid (b7 HW.out.bel (Nat.le_refl _) (.int .i64 5) (.string (O.extract m (m + 1))) (.int .i64 0) (.int .i64 0) (.int .i64 i) (.int .i64 1) (.int .i64 0))
            clear y0 y1 y2 y3 y4 y5 y6 hf
            simp [bodyPost, results, Tryz.results7, go_sem, z0, z1, z2, z3, z4, z5, z6]
            exact ⟨HF.out.symm, HB.out⟩
          · have HN : Hid (∀ q, q < m + 1 → ones[q]? ≠ some s[i]) := Lib.hid (fun q hq => by
              by_cases e : q = m
              · subst e
                rw [HG.out]
                intro g
                exact hdc (by rw [← hd, ← hc, Option.some.inj g])
              · exact HM.out q (by omega))
            have g3 : ((d : Int) == (c : Int)) = false := by simp; omega
            clear HR2 HM HG HO
            go_wp2_with fail
            go_round
            case rel => exact ⟨m + 1, by go_num, by omega, HN⟩
            case measure => simp [intOf]; omega
        · have HF : Hid (R = .agg #[.int .i64 0, .string ⟨#[]⟩, .int .i64 0, .int .i64 0, .int .i64 0, .int .i64 0, .int .i64 14]) := Lib.hid (by
            have h2 : ones.contains s[i] = false := by
              rw [Bool.eq_false_iff]; intro g
              obtain ⟨q, hq⟩ := List.mem_iff_getElem?.1 (List.contains_iff_mem.1 g)
              have hq5 : q < 18 := (List.getElem?_eq_some_iff.1 hq).1
              exact HM.out q (by omega) hq
            rw [← HR2.out, h2]; rfl)
          clear HR2 HM HO
          go_wp2_with fail
          have HV := Lib.hid (HW.out.tb.put (.int .i64 0) (.string ⟨#[]⟩) (.int .i64 0) (.int .i64 0) (.int .i64 0) (.int .i64 0) (.int .i64 14))
          obtain ⟨z0, z1, z2, z3, z4, z5, z6⟩ := HV.out.seven
          have HB := Lib.hid (b7 HW.out.bel (Nat.le_refl _) (.int .i64 0) (.string ⟨#[]⟩) (.int .i64 0) (.int .i64 0) (.int .i64 0) (.int .i64 0) (.int .i64 14))
          clear y0 y1 y2 y3 y4 y5 y6 hf
          simp [bodyPost, results, Tryz.results7, go_sem, z0, z1, z2, z3, z4, z5, z6]
          exact ⟨HF.out.symm, HB.out⟩
theorem rAt_any (s : ByteArray) (i : Nat) (w : World) (hs : s.size ≤ 4200) (hi : i < s.size) :
    Calls Tryz.prog 7 #[.string s, .int .i64 (i : Nat)] w fun e w' => e = .returned (tkV i (tokL (s.data.toList.drop i))) ∧ Below w.heap.size w w' := by
  cases hL : isLn s[i].toNat with
  | true => exact rAt_name s i w hs hi hL
  | false =>
    by_cases h36 : s[i].toNat = 36
    · exact rAt_var s i w hs hi h36
    · cases hD : isDn s[i].toNat with
      | true => exact rAt_num s i w hs hi hL h36 hD
      | false =>
        by_cases h34 : s[i].toNat = 34
        · exact rAt_str s i w hs hi h34
        · exact rAt_sign s i w hs hi hL h36 hD h34
end Lx
end Go.Proofs.YtpddkchnogfjkaaGreatDoor
