/- Parse, of every text. -/
import Derived.Test.YtpddkchnogfjkaaDoorNmSpl
import Derived.Test.YtpddkchnogfjkaaDoorNmArith
import Derived.Lib.TrimByte
namespace Go.Proofs.YtpddkchnogfjkaaDoor
open Go.RowKit
namespace Nm
/-- the power of ten that the last digit stands for -/
def shf (x : Wr) : Int := (if x.2.1 then -((min (vl x.2.2.2.2) 1000000000000000 : Nat) : Int) else ((min (vl x.2.2.2.2) 1000000000000000 : Nat) : Int)) - (x.2.2.2.1.length : Int)
/-- a number of digits that end in no nought, by a power of ten -/
def prD (b : Bool) (d : List UInt8) (p : Int) : Option (Int × Nat) :=
  if 15 < d.length ∨ 15 < p ∨ p < -9 then none
  else if 0 < p then hold ((if b then -(vl d : Int) else (vl d : Int)) * ((10 ^ p.toNat : Nat) : Int)) 0
  else hold (if b then -(vl d : Int) else (vl d : Int)) (-p).toNat
/-- an answer of Parse -/
def prs (l : List UInt8) : Value :=
  if (spl l).2 = false then .tuple #[nv 0 0, .int .i64 3] else
  let x := (spl l).1
  let all := Lib.trimLeftB (x.2.2.1 ++ x.2.2.2.1) 48
  let d := Lib.trimRightB all 48
  if d = [] then .tuple #[nv 0 0, .int .i64 0] else ans (prD x.1 d (shf x + ((all.length : Int) - (d.length : Int))))
theorem mem_tw (p : UInt8 → Bool) : ∀ (l : List UInt8) b, b ∈ l.takeWhile p → p b = true
  | [], b, h => by simp at h
  | c :: t, b, h => by
    by_cases hc : p c = true
    · rw [List.takeWhile_cons_of_pos hc] at h
      rcases List.mem_cons.1 h with rfl | h
      · exact hc
      · exact mem_tw p t b h
    · rw [List.takeWhile_cons_of_neg hc] at h; simp at h
/-- what split tells is digits -/
theorem spl_dig (l : List UInt8) : (∀ b, b ∈ (spl l).1.2.2.1 → isD b = true) ∧ (∀ b, b ∈ (spl l).1.2.2.2.1 → isD b = true) ∧ (∀ b, b ∈ (spl l).1.2.2.2.2 → isD b = true) := by
  have hT : ∀ (m : List UInt8) b, b ∈ m.takeWhile isD → isD b = true := fun m b h => mem_tw isD m b h
  have hE : ∀ (bl : Bool) (wh fr m : List UInt8), (∀ b, b ∈ wh → isD b = true) → (∀ b, b ∈ fr → isD b = true) → (∀ b, b ∈ (splE bl wh fr m).1.2.2.1 → isD b = true) ∧ (∀ b, b ∈ (splE bl wh fr m).1.2.2.2.1 → isD b = true) ∧ (∀ b, b ∈ (splE bl wh fr m).1.2.2.2.2 → isD b = true) := by
    intro bl wh fr m h1 h2
    cases m with
    | nil => exact ⟨h1, h2, fun b h => by simp [splE] at h⟩
    | cons c t =>
      simp only [splE]
      split
      · split
        · exact ⟨fun b h => by simp [zW] at h, fun b h => by simp [zW] at h, fun b h => by simp [zW] at h⟩
        · exact ⟨h1, h2, hT _⟩
      · exact ⟨h1, h2, fun b h => by simp at h⟩
  unfold spl
  split
  · exact ⟨fun b h => by simp [zW] at h, fun b h => by simp [zW] at h, fun b h => by simp [zW] at h⟩
  · unfold splF
    split
    · split
      · exact ⟨fun b h => by simp [zW] at h, fun b h => by simp [zW] at h, fun b h => by simp [zW] at h⟩
      · exact hE _ _ _ _ (hT _) (hT _)
    · exact hE _ _ _ _ (hT _) (fun b h => by simp at h)
theorem vl_le (d : List UInt8) (h : ∀ b, b ∈ d → isD b = true) : vl d < 10 ^ d.length := by
  obtain ⟨r, rfl⟩ : ∃ r, d = r.reverse := ⟨d.reverse, by simp⟩
  induction r with
  | nil => simp [vl]
  | cons b t ih =>
    rw [List.reverse_cons, vl_snoc]
    have := ih (fun c hc => h c (by simp at hc ⊢; exact Or.inl hc))
    have hb : b.toNat ≤ 57 := (of_decide_eq_true (h b (by simp))).2
    simp only [List.length_append, List.length_cons, List.length_nil, Nat.zero_add, Nat.pow_succ]
    omega
theorem trimL_sub (l : List UInt8) (c b : UInt8) (h : b ∈ Lib.trimLeftB l c) : b ∈ l := (List.dropWhile_sublist _).mem h
theorem trimR_sub (l : List UInt8) (c b : UInt8) (h : b ∈ Lib.trimRightB l c) : b ∈ l := by
  unfold Lib.trimRightB at h
  rw [List.mem_reverse] at h
  have := (List.dropWhile_sublist _).mem h
  simpa using this
theorem trimL_len (l : List UInt8) (c : UInt8) : (Lib.trimLeftB l c).length ≤ l.length := List.Sublist.length_le (List.dropWhile_sublist _)
theorem trimR_len (l : List UInt8) (c : UInt8) : (Lib.trimRightB l c).length ≤ l.length := by
  unfold Lib.trimRightB
  rw [List.length_reverse]
  have := List.Sublist.length_le (List.dropWhile_sublist (fun x => x == c) (l := l.reverse))
  simpa using this
theorem num_c (s : ByteArray) (l : List UInt8) (h : s.data.toList = l) (w : World) (hs : l.length ≤ 9223372036854775807) (hd : ∀ b, b ∈ l → isD b = true) (P : Int) (hP : ((min (vl l) 1000000000000000 : Nat) : Int) = P) :
    Calls Tryd.prog 42 #[.string s] w fun e w' => e = .returned (.int .i64 P) ∧ w = w' := by
  subst h
  rw [← hP]
  exact number_any s w (by rw [Lib.size_eq]; exact hs) hd
set_option maxRecDepth 100000 in
set_option maxHeartbeats 2000000 in
theorem shift_any (x : Wr) (w : World) (hl : x.2.2.2.2.length ≤ 9223372036854775807) (hf : x.2.2.2.1.length ≤ 9000000000000000000) (hd : ∀ b, b ∈ x.2.2.2.2 → isD b = true) :
    Calls Tryd.prog 41 #[wv x] w fun e w' => e = .returned (.int .i64 (shf x)) ∧ Below w.heap.size w w' := by
  obtain ⟨b, pb, wh, fr, pw⟩ := x
  simp only at hl hf hd
  unfold wv shf
  simp only
  obtain ⟨P, hP⟩ : ∃ P : Int, ((min (vl pw) 1000000000000000 : Nat) : Int) = P := ⟨_, rfl⟩
  have hnc := fun w => num_c (sb pw) pw (sb_list pw) w hl hd P hP
  have hP0 : 0 ≤ P := by omega
  have hP1 : P ≤ 1000000000000000 := by omega
  rw [hP]
  obtain ⟨F, hF⟩ : ∃ x, sb fr = x := ⟨_, rfl⟩
  have hFs : F.size = fr.length := by rw [← hF, sb_size]
  generalize fr.length = f at *
  obtain ⟨Q, hQ⟩ : ∃ x, sb pw = x := ⟨_, rfl⟩
  obtain ⟨W, hW⟩ : ∃ x, sb wh = x := ⟨_, rfl⟩
  rw [hQ] at hnc
  rw [hF, hQ, hW]
  clear hP hF hQ hW hl hd
  cases pb <;>
  · go_enter Tryd.func41, Tryd.ntmps41
    go_wp2_with (go_at_call 42; refine (hnc _).mono ?_; rintro e w' ⟨rfl, rfl⟩)
    go_ret
    exact ⟨by simp, bA1 _ _⟩
theorem shf_b (x : Wr) : -1000000000000000 - (x.2.2.2.1.length : Int) ≤ shf x ∧ shf x ≤ 1000000000000000 := by
  unfold shf
  split <;> omega
theorem spl_len (l : List UInt8) : (spl l).1.2.2.1.length ≤ l.length ∧ (spl l).1.2.2.2.1.length ≤ l.length ∧ (spl l).1.2.2.2.2.length ≤ l.length := by
  have hT : ∀ (m : List UInt8), (m.takeWhile isD).length ≤ m.length := fun m => List.Sublist.length_le (List.takeWhile_sublist _)
  have hW : ∀ (m : List UInt8), (m.dropWhile isD).length ≤ m.length := fun m => List.Sublist.length_le (List.dropWhile_sublist _)
  have hP : ∀ (m : List UInt8) (c : UInt8), (Lib.trimPrefix m [c]).length ≤ m.length := fun m c => by
    unfold Lib.trimPrefix
    split
    · rw [List.length_drop]; omega
    · exact Nat.le_refl _
  have hS : ∀ (t : List UInt8), (sgn t).2.length ≤ t.length := fun t => by
    cases t with
    | nil => simp [sgn]
    | cons c t => simp only [sgn]; split <;> (try split) <;> simp
  have hE : ∀ (bl : Bool) (wh fr m : List UInt8) (N : Nat), wh.length ≤ N → fr.length ≤ N → m.length ≤ N → (splE bl wh fr m).1.2.2.1.length ≤ N ∧ (splE bl wh fr m).1.2.2.2.1.length ≤ N ∧ (splE bl wh fr m).1.2.2.2.2.length ≤ N := by
    intro bl wh fr m N h1 h2 h3
    cases m with
    | nil => exact ⟨h1, h2, by simp [splE]⟩
    | cons c t =>
      simp only [splE]
      split
      · split
        · simp [zW]
        · exact ⟨h1, h2, Nat.le_trans (hT _) (Nat.le_trans (hS t) (by simp at h3; omega))⟩
      · exact ⟨h1, h2, by simp⟩
  unfold spl
  split
  · simp [zW]
  · have a1 := hP l 45
    have a2 := hT (Lib.trimPrefix l [45])
    have a3 := hW (Lib.trimPrefix l [45])
    unfold splF
    split
    · split
      · simp [zW]
      · have c1 := hP ((Lib.trimPrefix l [45]).dropWhile isD) 46
        have c2 := hT (Lib.trimPrefix ((Lib.trimPrefix l [45]).dropWhile isD) [46])
        have c3 := hW (Lib.trimPrefix ((Lib.trimPrefix l [45]).dropWhile isD) [46])
        exact hE _ _ _ _ _ (by omega) (by omega) (by omega)
    · exact hE _ _ _ _ _ (by omega) (by simp) (by omega)
set_option maxRecDepth 100000 in
set_option maxHeartbeats 8000000 in
theorem parse_any (s : ByteArray) (w : World) (hs : s.size ≤ 4000000000000000000) :
    Calls Tryd.prog 31 #[.string s] w fun e w' => e = .returned (prs s.data.toList) ∧ Below w.heap.size w w' := by
  have hsp := fun w => split_any s w (by omega)
  have hdig := spl_dig s.data.toList
  have hlen := spl_len s.data.toList
  rw [← Lib.size_eq] at hlen
  have hsh := fun w => shift_any (spl s.data.toList).1 w (by omega) (by omega) hdig.2.2
  unfold prs
  obtain ⟨⟨⟨bb, pb, wh, fr, pw⟩, ok⟩, hx⟩ : ∃ x, spl s.data.toList = x := ⟨_, rfl⟩
  rw [hx] at hsp hdig hlen hsh
  rw [hx]
  simp only at hlen hdig hsp hsh ⊢
  have hsb := shf_b (bb, pb, wh, fr, pw)
  simp only at hsb
  obtain ⟨sh, hshe⟩ : ∃ y, shf (bb, pb, wh, fr, pw) = y := ⟨_, rfl⟩
  rw [hshe] at hsh hsb
  rw [hshe]
  unfold wv at hsp hsh
  simp only at hsp hsh
  obtain ⟨W, hW⟩ : ∃ x, sb wh = x := ⟨_, rfl⟩
  obtain ⟨F, hF⟩ : ∃ x, sb fr = x := ⟨_, rfl⟩
  obtain ⟨Pw, hPw⟩ : ∃ x, sb pw = x := ⟨_, rfl⟩
  rw [hW, hF, hPw] at hsp hsh
  have hWs : W.size = wh.length := by rw [← hW, sb_size]
  have hFs : F.size = fr.length := by rw [← hF, sb_size]
  by_cases hok : ok = false
  · subst hok
    rw [if_pos rfl]
    clear hsh hx hW hF hPw hWs hFs hlen hdig hsb hshe
    go_enter Tryd.func31, Tryd.ntmps31
    go_wp2_with (first | (go_at_call 38; refine (hsp _).mono ?_; rintro e w1 ⟨rfl, b1⟩; obtain ⟨r0, r1, r2, r3⟩ := boxed b1 w.heap.size (.int .i64 0) (.int .i64 0) (by simp [go_sem]) (by simp [go_sem]) (by simp [go_sem]) (by simp [go_sem]); have hk : w.heap.size < w1.heap.size := kl r0; have bel1 := bT (bA1 _ _) b1))
    simp [bodyPost, results, Tryd.results31, go_sem, r0, r1, hk]
    exact ⟨rfl, ((bel1.setCell (by simp) _).setCell (by simp) _).alloc (by have := bel1.size; simpa using this) _⟩
  have hok : ok = true := by simpa using hok
  subst hok
  rw [if_neg (by simp)]
  have hadd := fun w => run_string_add_sum (P := Tryd.prog) w W F (by omega)
  obtain ⟨V, hV⟩ : ∃ V, W ++ F = V := ⟨_, rfl⟩
  rw [hV] at hadd
  have hVl : V.data.toList = wh ++ fr := by rw [← hV, ← hW, ← hF]; simp [sb]
  have htl : ∀ w, Calls Tryd.prog 39 #[.string V, .string ⟨#[48]⟩] w fun e w' => e = .returned (.string (sb (Lib.trimLeftB V.data.toList 48))) ∧ w' = w := fun w => Tryd.strings_TrimLeft_one V 48 (by decide) w
  rw [hVl] at htl
  have hal := trimL_len (wh ++ fr) 48
  rw [List.length_append] at hal
  have had : ∀ b, b ∈ Lib.trimLeftB (wh ++ fr) 48 → isD b = true := fun b h => by
    rcases List.mem_append.1 (trimL_sub _ _ _ h) with h | h
    · exact hdig.1 b h
    · exact hdig.2.1 b h
  generalize Lib.trimLeftB (wh ++ fr) 48 = al at *
  obtain ⟨A, hA⟩ : ∃ x, sb al = x := ⟨_, rfl⟩
  rw [hA] at htl
  have hAs : A.size = al.length := by rw [← hA, sb_size]
  have htr : ∀ w, Calls Tryd.prog 40 #[.string A, .string ⟨#[48]⟩] w fun e w' => e = .returned (.string (sb (Lib.trimRightB A.data.toList 48))) ∧ w' = w := fun w => Tryd.strings_TrimRight_one A 48 (by decide) w (by omega)
  rw [← hA, sb_list, hA] at htr
  have hdl := trimR_len al 48
  have hdd : ∀ b, b ∈ Lib.trimRightB al 48 → isD b = true := fun b h => had b (trimR_sub _ _ _ h)
  generalize Lib.trimRightB al 48 = d at *
  obtain ⟨D, hD⟩ : ∃ x, sb d = x := ⟨_, rfl⟩
  rw [hD] at htr
  have hDs : D.size = d.length := by rw [← hD, sb_size]
  have hDe : D.toList.isEmpty = d.isEmpty := by rw [← hD, emp]
  have hDl : D.data.toList = d := by rw [← hD, sb_list]
  by_cases hd0 : d = []
  · rw [if_pos hd0]
    rw [hd0] at hDe
    simp only [List.isEmpty_nil] at hDe
    clear hsh hx hW hF hPw hWs hFs hlen hdig hsb hshe hV hVl hal had hA hAs hdl hdd hD hDs hDl hd0
    go_enter Tryd.func31, Tryd.ntmps31
    go_wp2_with (first | (go_at_call 38; refine (hsp _).mono ?_; rintro e w1 ⟨rfl, b1⟩; obtain ⟨r0, r1, r2, r3⟩ := boxed b1 w.heap.size (.int .i64 0) (.int .i64 0) (by simp [go_sem]) (by simp [go_sem]) (by simp [go_sem]) (by simp [go_sem]); have hk : w.heap.size < w1.heap.size := kl r0; have bel1 := bT (bA1 _ _) b1) | (go_at_call 39; refine (htl _).mono ?_; rintro e w' ⟨rfl, rfl⟩) | (go_at_call 40; refine (htr _).mono ?_; rintro e w' ⟨rfl, rfl⟩))
    simp [bodyPost, results, Tryd.results31, go_sem, r0, r1, hk]
    exact ⟨rfl, ((bel1.setCell (by simp) _).setCell (by simp) _).alloc (by have := bel1.size; simpa using this) _⟩
  rw [if_neg hd0]
  have hDe2 : D.toList.isEmpty = false := by rw [hDe]; exact ne_emp hd0
  obtain ⟨pp, hpp⟩ : ∃ p : Int, sh + ((A.size : Int) - (D.size : Int)) = p := ⟨_, rfl⟩
  rw [show sh + ((al.length : Int) - (d.length : Int)) = pp by rw [← hpp, hAs, hDs]]
  have hnc := fun w => num_c D d hDl w (by omega) hdd
  unfold prD
  have pb0 : -9000000000000000000 ≤ pp := by omega
  have pb1 : pp ≤ 9000000000000000000 := by omega
  have as1 : A.size ≤ 8000000000000000000 := by omega
  have ds1 : D.size ≤ A.size := by omega
  have sb0 : -9000000000000000000 ≤ sh := by omega
  have sb1 : sh ≤ 9000000000000000000 := by omega
  have HDs := Lib.hid hDs
  clear hx hW hF hPw hWs hFs hlen hdig hsb hshe hV hVl hal had hA hAs hdl hD hDe hDl hd0 hDs
  by_cases g1 : 15 < D.size
  · rw [if_pos (Or.inl (by rw [← HDs.out]; exact g1))]
    clear hnc hdd
    go_enter Tryd.func31, Tryd.ntmps31
    go_wp2_with (first | (go_at_call 38; refine (hsp _).mono ?_; rintro e w1 ⟨rfl, b1⟩; obtain ⟨r0, r1, r2, r3⟩ := boxed b1 w.heap.size (.int .i64 0) (.int .i64 0) (by simp [go_sem]) (by simp [go_sem]) (by simp [go_sem]) (by simp [go_sem]); have hk : w.heap.size < w1.heap.size := kl r0; have bel1 := bT (bA1 _ _) b1) | (go_at_call 39; refine (htl _).mono ?_; rintro e w' ⟨rfl, rfl⟩) | (go_at_call 40; refine (htr _).mono ?_; rintro e w' ⟨rfl, rfl⟩) | (go_at_call 41; refine (hsh _).mono ?_; rintro e w2 ⟨rfl, b2⟩; obtain ⟨q0, q1, q2, q3⟩ := Bx.on (Bx.alloc (⟨r0, r1, r2, r3⟩ : Bx _ _ _ _) _) b2; have cb := kc b2 (p := ⟨w1.heap.size, 0, none⟩) (v := .bool bb) (by simp [go_sem]); have bel2 := bT (bel1.alloc bel1.size _) b2))
    simp [bodyPost, results, Tryd.results31, go_sem, q0, q1]
    exact ⟨rfl, (bel2.setCell (by simp) _).setCell (by simp) _⟩
  by_cases g2 : 15 < pp
  · rw [if_pos (Or.inr (Or.inl g2))]
    clear hnc hdd
    go_enter Tryd.func31, Tryd.ntmps31
    go_wp2_with (first | (go_at_call 38; refine (hsp _).mono ?_; rintro e w1 ⟨rfl, b1⟩; obtain ⟨r0, r1, r2, r3⟩ := boxed b1 w.heap.size (.int .i64 0) (.int .i64 0) (by simp [go_sem]) (by simp [go_sem]) (by simp [go_sem]) (by simp [go_sem]); have hk : w.heap.size < w1.heap.size := kl r0; have bel1 := bT (bA1 _ _) b1) | (go_at_call 39; refine (htl _).mono ?_; rintro e w' ⟨rfl, rfl⟩) | (go_at_call 40; refine (htr _).mono ?_; rintro e w' ⟨rfl, rfl⟩) | (go_at_call 41; refine (hsh _).mono ?_; rintro e w2 ⟨rfl, b2⟩; obtain ⟨q0, q1, q2, q3⟩ := Bx.on (Bx.alloc (⟨r0, r1, r2, r3⟩ : Bx _ _ _ _) _) b2; have cb := kc b2 (p := ⟨w1.heap.size, 0, none⟩) (v := .bool bb) (by simp [go_sem]); have bel2 := bT (bel1.alloc bel1.size _) b2))
    simp [bodyPost, results, Tryd.results31, go_sem, q0, q1]
    exact ⟨rfl, (bel2.setCell (by simp) _).setCell (by simp) _⟩
  by_cases g3 : pp < -9
  · rw [if_pos (Or.inr (Or.inr g3))]
    clear hnc hdd
    go_enter Tryd.func31, Tryd.ntmps31
    go_wp2_with (first | (go_at_call 38; refine (hsp _).mono ?_; rintro e w1 ⟨rfl, b1⟩; obtain ⟨r0, r1, r2, r3⟩ := boxed b1 w.heap.size (.int .i64 0) (.int .i64 0) (by simp [go_sem]) (by simp [go_sem]) (by simp [go_sem]) (by simp [go_sem]); have hk : w.heap.size < w1.heap.size := kl r0; have bel1 := bT (bA1 _ _) b1) | (go_at_call 39; refine (htl _).mono ?_; rintro e w' ⟨rfl, rfl⟩) | (go_at_call 40; refine (htr _).mono ?_; rintro e w' ⟨rfl, rfl⟩) | (go_at_call 41; refine (hsh _).mono ?_; rintro e w2 ⟨rfl, b2⟩; obtain ⟨q0, q1, q2, q3⟩ := Bx.on (Bx.alloc (⟨r0, r1, r2, r3⟩ : Bx _ _ _ _) _) b2; have cb := kc b2 (p := ⟨w1.heap.size, 0, none⟩) (v := .bool bb) (by simp [go_sem]); have bel2 := bT (bel1.alloc bel1.size _) b2))
    simp [bodyPost, results, Tryd.results31, go_sem, q0, q1]
    exact ⟨rfl, (bel2.setCell (by simp) _).setCell (by simp) _⟩
  rw [if_neg (by have := HDs.out; omega)]
  have hv := vl_le d hdd
  have hv2 : 10 ^ d.length ≤ 10 ^ 15 := Nat.pow_le_pow_right (by decide) (by have := HDs.out; omega)
  obtain ⟨v, hvv⟩ : ∃ v : Int, (vl d : Int) = v := ⟨_, rfl⟩
  have hv0 : 0 ≤ v := by omega
  have hv1 : v < 1000000000000000 := by omega
  replace hnc := fun w => hnc w v (by rw [← hvv]; omega)
  rw [hvv]
  clear hv hv2 hvv hdd HDs
  by_cases g4 : 0 < pp
  · rw [if_pos g4]
    obtain ⟨n, hn⟩ : ∃ n : Nat, pp.toNat = n := ⟨_, rfl⟩
    have hpn : pp = (n : Int) := by omega
    have htb := tenI n (by omega)
    have hten := fun w => ten_any n w (by omega)
    rw [hn]
    obtain ⟨t, ht⟩ : ∃ t : Int, ((10 ^ n : Nat) : Int) = t := ⟨_, rfl⟩
    have ht15 : t ≤ 1000000000000000 := by
      have : 10 ^ n ≤ 10 ^ 15 := Nat.pow_le_pow_right (by decide) (by omega)
      omega
    rw [ht] at htb hten ⊢
    rw [← hpn] at hten
    have hb1 := mul_le_of v 1000000000000000 t (by omega) (by omega)
    have hb2 : 0 ≤ v * t := Int.mul_nonneg hv0 (by omega)
    cases bb
    · simp only [Bool.false_eq_true, if_false]
      have hpr := fun w => product_any v t w (by omega) (by omega) (by omega) (by omega)
      have hh := fun w => held_any (v * t) 0 w (by omega) (by omega) (by omega)
      obtain ⟨x, y, z, hz⟩ := ans_ex (hold (v * t) 0)
      rw [hz] at hh ⊢
      obtain ⟨z1, z2, hZ⟩ := wd_form (v * t)
      rw [hZ] at hh hpr
      clear hz hZ hb1 hb2 hn hpn ht
      go_enter Tryd.func31, Tryd.ntmps31
      go_wp2_with (first | (go_at_call 38; refine (hsp _).mono ?_; rintro e w1 ⟨rfl, b1⟩; obtain ⟨r0, r1, r2, r3⟩ := boxed b1 w.heap.size (.int .i64 0) (.int .i64 0) (by simp [go_sem]) (by simp [go_sem]) (by simp [go_sem]) (by simp [go_sem]); have hk : w.heap.size < w1.heap.size := kl r0; have bel1 := bT (bA1 _ _) b1) | (go_at_call 39; refine (htl _).mono ?_; rintro e w' ⟨rfl, rfl⟩) | (go_at_call 40; refine (htr _).mono ?_; rintro e w' ⟨rfl, rfl⟩) | (go_at_call 41; refine (hsh _).mono ?_; rintro e w2 ⟨rfl, b2⟩; obtain ⟨q0, q1, q2, q3⟩ := Bx.on (Bx.alloc (⟨r0, r1, r2, r3⟩ : Bx _ _ _ _) _) b2; have cb := kc b2 (p := ⟨w1.heap.size, 0, none⟩) (v := .bool false) (by simp [go_sem]); have bel2 := bT (bel1.alloc bel1.size _) b2) | (go_at_call 42; refine (hnc _).mono ?_; rintro e w' ⟨rfl, rfl⟩) | (go_at_call 45; refine (hten _).mono ?_; rintro e w' ⟨rfl, rfl⟩) | (go_at_call 44; refine (hpr _).mono ?_; rintro e w3 ⟨rfl, b3⟩; obtain ⟨s0, s1, s2, s3⟩ := boxed b3 _ _ _ q0 q1 q2 q3; have bel3 := bT bel2 b3) | (go_at_call 43; refine (hh _).mono ?_; rintro e w4 ⟨rfl, b4⟩; obtain ⟨t0, t1, t2, t3⟩ := boxed b4 _ _ _ s0 s1 s2 s3; have bel4 := bT bel3 b4))
      simp [bodyPost, results, Tryd.results31, go_sem, t0, t1]
      exact (bel4.setCell (by simp) _).setCell (by simp) _
    · simp only [if_true]
      rw [Int.neg_mul]
      have hpr := fun w => product_any (-v) t w (by omega) (by omega) (by omega) (by omega)
      rw [Int.neg_mul] at hpr
      have hh := fun w => held_any (-(v * t)) 0 w (by omega) (by omega) (by omega)
      obtain ⟨x, y, z, hz⟩ := ans_ex (hold (-(v * t)) 0)
      rw [hz] at hh ⊢
      obtain ⟨z1, z2, hZ⟩ := wd_form (-(v * t))
      rw [hZ] at hh hpr
      clear hz hZ hb1 hb2 hn hpn ht
      go_enter Tryd.func31, Tryd.ntmps31
      go_wp2_with (first | (go_at_call 38; refine (hsp _).mono ?_; rintro e w1 ⟨rfl, b1⟩; obtain ⟨r0, r1, r2, r3⟩ := boxed b1 w.heap.size (.int .i64 0) (.int .i64 0) (by simp [go_sem]) (by simp [go_sem]) (by simp [go_sem]) (by simp [go_sem]); have hk : w.heap.size < w1.heap.size := kl r0; have bel1 := bT (bA1 _ _) b1) | (go_at_call 39; refine (htl _).mono ?_; rintro e w' ⟨rfl, rfl⟩) | (go_at_call 40; refine (htr _).mono ?_; rintro e w' ⟨rfl, rfl⟩) | (go_at_call 41; refine (hsh _).mono ?_; rintro e w2 ⟨rfl, b2⟩; obtain ⟨q0, q1, q2, q3⟩ := Bx.on (Bx.alloc (⟨r0, r1, r2, r3⟩ : Bx _ _ _ _) _) b2; have cb := kc b2 (p := ⟨w1.heap.size, 0, none⟩) (v := .bool true) (by simp [go_sem]); have bel2 := bT (bel1.alloc bel1.size _) b2) | (go_at_call 42; refine (hnc _).mono ?_; rintro e w' ⟨rfl, rfl⟩) | (go_at_call 45; refine (hten _).mono ?_; rintro e w' ⟨rfl, rfl⟩) | (go_at_call 44; refine (hpr _).mono ?_; rintro e w3 ⟨rfl, b3⟩; obtain ⟨s0, s1, s2, s3⟩ := boxed b3 _ _ _ q0 q1 q2 q3; have bel3 := bT bel2 b3) | (go_at_call 43; refine (hh _).mono ?_; rintro e w4 ⟨rfl, b4⟩; obtain ⟨t0, t1, t2, t3⟩ := boxed b4 _ _ _ s0 s1 s2 s3; have bel4 := bT bel3 b4))
      simp [bodyPost, results, Tryd.results31, go_sem, t0, t1]
      exact (bel4.setCell (by simp) _).setCell (by simp) _
  · rw [if_neg g4]
    have hmkc : ∀ c : Int, mk c (-pp) = hold c (-pp).toNat := fun c => by unfold mk; rw [if_pos (by omega)]
    cases bb
    · simp only [Bool.false_eq_true, if_false]
      have hmk := fun w => make_any v (-pp) w (by omega) (by omega)
      rw [hmkc] at hmk
      obtain ⟨x, y, z, hz⟩ := ans_ex (hold v (-pp).toNat)
      rw [hz] at hmk ⊢
      clear hz hmkc
      go_enter Tryd.func31, Tryd.ntmps31
      go_wp2_with (first | (go_at_call 38; refine (hsp _).mono ?_; rintro e w1 ⟨rfl, b1⟩; obtain ⟨r0, r1, r2, r3⟩ := boxed b1 w.heap.size (.int .i64 0) (.int .i64 0) (by simp [go_sem]) (by simp [go_sem]) (by simp [go_sem]) (by simp [go_sem]); have hk : w.heap.size < w1.heap.size := kl r0; have bel1 := bT (bA1 _ _) b1) | (go_at_call 39; refine (htl _).mono ?_; rintro e w' ⟨rfl, rfl⟩) | (go_at_call 40; refine (htr _).mono ?_; rintro e w' ⟨rfl, rfl⟩) | (go_at_call 41; refine (hsh _).mono ?_; rintro e w2 ⟨rfl, b2⟩; obtain ⟨q0, q1, q2, q3⟩ := Bx.on (Bx.alloc (⟨r0, r1, r2, r3⟩ : Bx _ _ _ _) _) b2; have cb := kc b2 (p := ⟨w1.heap.size, 0, none⟩) (v := .bool false) (by simp [go_sem]); have bel2 := bT (bel1.alloc bel1.size _) b2) | (go_at_call 42; refine (hnc _).mono ?_; rintro e w' ⟨rfl, rfl⟩) | (go_at_call 46; refine (hmk _).mono ?_; rintro e w4 ⟨rfl, b4⟩; obtain ⟨t0, t1, t2, t3⟩ := boxed b4 _ _ _ q0 q1 q2 q3; have bel4 := bT bel2 b4))
      simp [bodyPost, results, Tryd.results31, go_sem, t0, t1]
      exact (bel4.setCell (by simp) _).setCell (by simp) _
    · simp only [if_true]
      have hmk := fun w => make_any (-v) (-pp) w (by omega) (by omega)
      rw [hmkc] at hmk
      obtain ⟨x, y, z, hz⟩ := ans_ex (hold (-v) (-pp).toNat)
      rw [hz] at hmk ⊢
      clear hz hmkc
      go_enter Tryd.func31, Tryd.ntmps31
      go_wp2_with (first | (go_at_call 38; refine (hsp _).mono ?_; rintro e w1 ⟨rfl, b1⟩; obtain ⟨r0, r1, r2, r3⟩ := boxed b1 w.heap.size (.int .i64 0) (.int .i64 0) (by simp [go_sem]) (by simp [go_sem]) (by simp [go_sem]) (by simp [go_sem]); have hk : w.heap.size < w1.heap.size := kl r0; have bel1 := bT (bA1 _ _) b1) | (go_at_call 39; refine (htl _).mono ?_; rintro e w' ⟨rfl, rfl⟩) | (go_at_call 40; refine (htr _).mono ?_; rintro e w' ⟨rfl, rfl⟩) | (go_at_call 41; refine (hsh _).mono ?_; rintro e w2 ⟨rfl, b2⟩; obtain ⟨q0, q1, q2, q3⟩ := Bx.on (Bx.alloc (⟨r0, r1, r2, r3⟩ : Bx _ _ _ _) _) b2; have cb := kc b2 (p := ⟨w1.heap.size, 0, none⟩) (v := .bool true) (by simp [go_sem]); have bel2 := bT (bel1.alloc bel1.size _) b2) | (go_at_call 42; refine (hnc _).mono ?_; rintro e w' ⟨rfl, rfl⟩) | (go_at_call 46; refine (hmk _).mono ?_; rintro e w4 ⟨rfl, b4⟩; obtain ⟨t0, t1, t2, t3⟩ := boxed b4 _ _ _ q0 q1 q2 q3; have bel4 := bT bel2 b4))
      simp [bodyPost, results, Tryd.results31, go_sem, t0, t1]
      exact (bel4.setCell (by simp) _).setCell (by simp) _
end Nm
end Go.Proofs.YtpddkchnogfjkaaDoor
