/- UtfEscapes walked: it answers true for every row of numbers. -/
import Derived.Test.YtbolnciofcmoaaaUtLives
import Derived.Test.YtbolnciofcmoaaaUtHex
namespace Go.Proofs.Ytbolnciofcmoaaa
open Go.RowKit
namespace Ut
/-- a slice of ints that came in -/
structure ArgInts (w : World) (v : Value) (l : List Int) : Prop where
  form : ∃ a cap, v = .slice a l.length cap ∧ l.length ≤ maxLen ∧ ∀ (i : Nat) x, l[i]? = some x → ∃ b off, a = some ⟨b, off, none⟩ ∧ w.cell? ⟨b, off + i, none⟩ = some (.int .i64 x)
theorem str_app (a b : List Nat) : str (a ++ b) = str a ++ str b := by
  apply byt_inj
  rw [byt_app]
  unfold byt str
  simp
theorem num_len (c : Nat) : (num c).length ≤ 12 := by unfold num hex4; split <;> simp
theorem nums_len (cs : List Nat) : (nums cs).length ≤ 12 * cs.length := by
  induction cs with
  | nil => simp [nums]
  | cons c cs ih =>
    have := num_len c
    rw [show nums (c :: cs) = num c ++ nums cs from rfl, List.length_append, List.length_cons]; omega
theorem str_num1 {T : ByteArray} {cs : List Nat} {c : Nat} (hT : T = str (34 :: nums cs)) (hc : c < 65536) : T ++ ⟨#[92, 117]⟩ ++ str (hex4 c) = str (34 :: nums (cs ++ [c])) := by
  rw [hT, nums_snoc, show (34 :: (nums cs ++ num c)) = (34 :: nums cs) ++ num c from rfl]
  unfold num
  rw [if_pos hc, str_app, str_app, show (⟨#[92, 117]⟩ : ByteArray) = str [92, 117] from rfl]
  apply byt_inj
  simp only [byt_app, List.append_assoc]
theorem str_num2 {T : ByteArray} {cs : List Nat} {c : Nat} (hT : T = str (34 :: nums cs)) (hc : ¬ c < 65536) : T ++ ⟨#[92, 117]⟩ ++ str (hex4 (55296 + (c - 65536) / 1024)) ++ ⟨#[92, 117]⟩ ++ str (hex4 (56320 + (c - 65536) % 1024)) = str (34 :: nums (cs ++ [c])) := by
  rw [hT, nums_snoc, show (34 :: (nums cs ++ num c)) = (34 :: nums cs) ++ num c from rfl]
  unfold num
  rw [if_neg hc, str_app, str_app, str_app, str_app, show (⟨#[92, 117]⟩ : ByteArray) = str [92, 117] from rfl]
  apply byt_inj
  simp only [byt_app, List.append_assoc]
/-- how far the loop has come -/
structure EsRel (w : World) (k : Nat) (cs : List Nat) (T : ByteArray) (v : Value) (wr : World) : Prop where
  sg : Sgs cs
  len : cs.length = k
  is : T = str (34 :: nums cs)
  buf : Buf w.heap.size wr v (puts cs)
  bel : Below w.heap.size w wr
theorem EsRel.next {w wr w' : World} {k c : Nat} {cs : List Nat} {T T' : ByteArray} {v v' : Value} (h : EsRel w k cs T v wr) (hc : Sg c) (hT : T' = str (34 :: nums (cs ++ [c]))) (hb : Below w.heap.size w w') (hg : Buf w.heap.size w' v' (puts cs ++ put c)) : EsRel w (k + 1) (cs ++ [c]) T' v' w' := by
  refine ⟨?_, by rw [List.length_append, h.len]; rfl, hT, by rw [puts_snoc]; exact hg, hb⟩
  intro x hx
  simp at hx
  rcases hx with hx | rfl
  · exact h.sg x hx
  · exact hc
theorem puts_le' (cs : List Nat) : (puts cs).length ≤ 4 * cs.length := by
  induction cs with
  | nil => simp [puts]
  | cons c cs ih =>
    have := put_len c
    rw [puts_cons, List.length_append, List.length_cons]; omega
set_option maxRecDepth 100000 in
set_option maxHeartbeats 1000000 in
theorem utfEscapes_any (v : Value) (zs : List Int) (w : World) (hz : ArgInts w v zs) : Calls Try.prog 7 #[v] w fun e w' => e = .returned (.bool true) ∧ Below w.heap.size w w' := by
  obtain ⟨ao, cap, rfl, hzl, hcell⟩ := hz.form
  clear hz
  unfold maxLen at hzl
  obtain ⟨i0, hi, hz0, hz1, hz2⟩ := info_parts info_b
  by_cases h2 : 200 < zs.length
  · go_enter Try.func7, Try.ntmps7
    go_wp2_with (go_at_call 8; refine (lives_any _).mono ?_; rintro e w1 ⟨rfl, b1⟩)
    go_ret
    exact ⟨rfl, b1⟩
  have HC := Lib.hid hcell
  clear hcell
  go_enter Try.func7, Try.ntmps7
  go_wp2
  go_loopw [3, 4, 5, 6] (fun t v i _ wr => ∃ (k : Nat) (cs : List Nat) (T : ByteArray), i = .int .i64 k ∧ t = .string T ∧ k ≤ zs.length ∧ EsRel w k cs T v wr) (fun _ _ i _ _ => zs.length - (intOf i).toNat)
  case atStart => exact ⟨0, [], _, rfl, rfl, by omega, Sgs.nil, rfl, rfl, ⟨World.ownsRow_nil _ _ _ _, Nat.le_refl _⟩, Below.refl _ _⟩
  case round =>
    obtain ⟨k, cs, T, rfl, rfl, hk, hr⟩ := hrel
    have HR := Lib.hid hr
    have hpl := puts_le' cs
    rw [hr.len] at hpl
    have hTs : T.size ≤ 5000 := by
      rw [hr.is, str_len, List.length_cons]; have := nums_len cs; rw [hr.len] at this; omega
    clear hr
    by_cases hlt : k < zs.length
    · obtain ⟨x, hx⟩ : ∃ x, zs[k]? = some x := ⟨zs[k], List.getElem?_eq_getElem hlt⟩
      obtain ⟨b, off, rfl, hcl0⟩ := HC.out k x hx
      have hbl := World.block_lt_of_cell? w _ hcl0
      have hcl : wr.cell? ⟨b, off + k, none⟩ = some (.int .i64 x) := by
        rw [HR.out.bel.cell (p := ⟨b, off + k, none⟩) hbl]; exact hcl0
      clear hx hcl0 hbl
      by_cases x0 : x < 0
      · go_wp2_with (go_at_call 8; refine (lives_any _).mono ?_; rintro e w1 ⟨rfl, b1⟩)
        go_ret
        exact ⟨rfl, HR.out.bel.trans (b1.mono HR.out.bel.size)⟩
      by_cases x1 : 1114111 < x
      · go_wp2_with (go_at_call 8; refine (lives_any _).mono ?_; rintro e w1 ⟨rfl, b1⟩)
        go_ret
        exact ⟨rfl, HR.out.bel.trans (b1.mono HR.out.bel.size)⟩
      by_cases x2 : 55296 ≤ x ∧ x < 57344
      · obtain ⟨x2, x3⟩ := x2
        go_wp2_with (go_at_call 8; refine (lives_any _).mono ?_; rintro e w1 ⟨rfl, b1⟩)
        go_ret
        exact ⟨rfl, HR.out.bel.trans (b1.mono HR.out.bel.size)⟩
      obtain ⟨c, hc⟩ : ∃ c : Nat, x = c := ⟨x.toNat, by omega⟩
      have hsg : Sg c := by unfold Sg; omega
      have HS := Lib.hid hsg
      have hpa : ∀ w, Calls Try.prog 10 #[.int .i64 x] w _ := fun w => by rw [hc]; exact put_any c w (by omega)
      have hpl2 := put_len c
      obtain ⟨p, hp⟩ : ∃ p, put c = p := ⟨_, rfl⟩
      rw [hp] at hpa hpl2
      have HP := Lib.hid hp
      have HCX := Lib.hid hc
      clear hp hsg hc
      go_upto_region 10 with (fail)
      go_cut [38] (fun s38 wx => wr = wx ∧ s38 = .bool false)
      case first =>
        by_cases e : 55296 ≤ x
        · have e2 : 57344 ≤ x := by omega
          go_wp2
          go_meet
          exact ⟨rfl, by first | rfl | (simp; done) | (simp; omega)⟩
        · go_wp2
          go_meet
          exact ⟨rfl, by first | rfl | (simp; done) | (simp; omega)⟩
      case rest =>
      obtain ⟨rfl, rfl⟩ := hcut
      clear x2
      go_upto_if 38 with (fail)
      by_cases x4 : x < 65536
      · have hc := HCX.out
        have hex := fun w => hex_any c x w (by omega) hc
        have hHs : (str (hex4 c)).size = 4 := by rw [str_len]; rfl
        have HTT := Lib.hid (str_num1 (c := c) HR.out.is (by omega))
        generalize str (hex4 c) = H at hex hHs HTT
        have ad1 := fun w => run_string_add_sum (P := Try.prog) w T ⟨#[92, 117]⟩ (show T.size + 2 ≤ _ by omega)
        have hs1 : (T ++ ⟨#[92, 117]⟩).size = T.size + 2 := ByteArray.size_append
        generalize T ++ ⟨#[92, 117]⟩ = T1 at ad1 HTT hs1
        have ad2 := fun w => run_string_add_sum (P := Try.prog) w T1 H (by omega)
        generalize T1 ++ H = T2 at ad2 HTT
        clear hc hs1 hHs hTs
        go_upto_region 12 with (fail)
        go_cut [54] (fun s54 wx => wr = wx ∧ s54 = .bool true)
        case first =>
          go_wp2
          go_meet
          exact ⟨rfl, by first | rfl | (simp; done) | (simp; omega)⟩
        case rest =>
        obtain ⟨rfl, rfl⟩ := hcut
        go_upto_if 54 with (fail)
        go_upto_region 14 with (go_at_call 18; refine (hex _).mono ?_; rintro e w3 ⟨rfl, b3⟩)
        have HB : Hid (Buf w.heap.size w3 u4 (puts cs)) := Lib.hid ⟨own_keep b3 HR.out.buf.own, Nat.le_trans HR.out.buf.le b3.size⟩
        have HB3 : Hid (Below w.heap.size w w3) := Lib.hid (HR.out.bel.trans (b3.mono HR.out.bel.size))
        clear b3
        go_wp2_with (first | (go_at_call 10; refine (hpa _).mono ?_; rintro e w' ⟨rfl, rfl⟩) | (at_builtin; refine wpList_append_own _ rfl _ _ 26 rfl w.heap.size 5 i0 (.int .u8 0) 1 1 Try.underlying26 hi hz0 hz1 hz2 rfl (by decide) _ _ _ rfl (HB.out.own.alloc _) ⟨w3.heap.size, 0, none⟩ p.length p.length (cel p) rfl (by rw [cel_len]; omega) ?p1 ?p2 ?p3 ?p4 ?p5 ?p6))
        case p1 => exact cells_put w3 _
        case p2 => exact cel_one _
        case p3 => unfold maxLen; omega
        case p4 => omega
        case p5 => have := HB.out.le; simp; omega
        case p6 =>
          intro v3 w7 hown3 hgrow3 _
          have hg3 := HB.out.grew (m := p) rfl hown3 hgrow3
          clear hown3 hgrow3
          go_wp2
          go_roundw
          case rel => exact ⟨k + 1, cs ++ [c], _, by go_num, rfl, by omega, HR.out.next HS.out HTT.out (HB3.out.trans hg3.bel) (by rw [HP.out]; exact hg3.buf)⟩
          case measure => simp [intOf]; omega
      · have hc := HCX.out
        obtain ⟨a, ha⟩ : ∃ a : Nat, a = (c - 65536) / 1024 := ⟨_, rfl⟩
        obtain ⟨d, hd⟩ : ∃ d : Nat, d = (c - 65536) % 1024 := ⟨_, rfl⟩
        have q1 : (x - 65536) / 1024 = (a : Nat) := by omega
        have q2 : (x - 65536).tdiv 1024 = (a : Nat) := by rw [Int.tdiv_eq_ediv_of_nonneg (by omega)]; exact q1
        have r1 : (x - 65536) % 1024 = (d : Nat) := by omega
        have r2 : (x - 65536).tmod 1024 = (d : Nat) := by rw [Int.tmod_eq_emod_of_nonneg (by omega)]; exact r1
        obtain ⟨A, hA⟩ : ∃ A : Int, 55296 + (a : Int) = A := ⟨_, rfl⟩
        obtain ⟨D, hD⟩ : ∃ D : Int, 56320 + (d : Int) = D := ⟨_, rfl⟩
        have wa : IntKind.i64.wrap (a : Int) = (a : Int) := IntWalk.i64_in _ (by omega)
        have wd : IntKind.i64.wrap (d : Int) = (d : Int) := IntWalk.i64_in _ (by omega)
        have wA : IntKind.i64.wrap A = A := IntWalk.i64_in _ (by omega)
        have wD : IntKind.i64.wrap D = D := IntWalk.i64_in _ (by omega)
        have hexA := fun w => hex_any (55296 + a) A w (by omega) (by omega)
        have hexD := fun w => hex_any (56320 + d) D w (by omega) (by omega)
        have hTT := str_num2 (c := c) HR.out.is (by omega)
        rw [← ha, ← hd] at hTT
        have HTT := Lib.hid hTT
        have hH1 : (str (hex4 (55296 + a))).size = 4 := by rw [str_len]; rfl
        have hH2 : (str (hex4 (56320 + d))).size = 4 := by rw [str_len]; rfl
        clear hTT
        generalize str (hex4 (55296 + a)) = H1 at hexA hH1 HTT
        generalize str (hex4 (56320 + d)) = H2 at hexD hH2 HTT
        have ad1 := fun w => run_string_add_sum (P := Try.prog) w T ⟨#[92, 117]⟩ (show T.size + 2 ≤ _ by omega)
        have hs1 : (T ++ ⟨#[92, 117]⟩).size = T.size + 2 := ByteArray.size_append
        generalize T ++ ⟨#[92, 117]⟩ = T1 at ad1 HTT hs1
        have ad2 := fun w => run_string_add_sum (P := Try.prog) w T1 H1 (by omega)
        have hs2 : (T1 ++ H1).size = T1.size + H1.size := ByteArray.size_append
        generalize T1 ++ H1 = T2 at ad2 HTT hs2
        have ad3 := fun w => run_string_add_sum (P := Try.prog) w T2 ⟨#[92, 117]⟩ (show T2.size + 2 ≤ _ by omega)
        have hs3 : (T2 ++ ⟨#[92, 117]⟩).size = T2.size + 2 := ByteArray.size_append
        generalize T2 ++ ⟨#[92, 117]⟩ = T3 at ad3 HTT hs3
        have ad4 := fun w => run_string_add_sum (P := Try.prog) w T3 H2 (by omega)
        generalize T3 ++ H2 = T4 at ad4 HTT
        clear hc ha hd hs1 hs2 hs3 hH1 hH2 hTs
        go_upto_region 12 with (fail)
        go_cut [54] (fun s54 wx => wr = wx ∧ s54 = .bool false)
        case first =>
          go_wp2
          go_meet
          exact ⟨rfl, by first | rfl | (simp; done) | (simp; omega)⟩
        case rest =>
        obtain ⟨rfl, rfl⟩ := hcut
        go_upto_if 54 with (fail)
        go_wp2_with (fail)
        refine (hexA _).mono ?_
        rintro e w3 ⟨rfl, b3⟩
        go_upto_region 14 with (go_at_call 18; refine (hexD _).mono ?_; rintro e w4 ⟨rfl, b4⟩)
        have b34 := b3.trans (b4.mono b3.size)
        have HB : Hid (Buf w.heap.size w4 u4 (puts cs)) := Lib.hid ⟨own_keep b34 HR.out.buf.own, Nat.le_trans HR.out.buf.le b34.size⟩
        have HB3 : Hid (Below w.heap.size w w4) := Lib.hid (HR.out.bel.trans (b34.mono HR.out.bel.size))
        clear b3 b4 b34
        go_wp2_with (first | (go_at_call 10; refine (hpa _).mono ?_; rintro e w' ⟨rfl, rfl⟩) | (at_builtin; refine wpList_append_own _ rfl _ _ 26 rfl w.heap.size 5 i0 (.int .u8 0) 1 1 Try.underlying26 hi hz0 hz1 hz2 rfl (by decide) _ _ _ rfl (HB.out.own.alloc _) ⟨w4.heap.size, 0, none⟩ p.length p.length (cel p) rfl (by rw [cel_len]; omega) ?q1 ?q2 ?q3 ?q4 ?q5 ?q6))
        case q1 => exact cells_put w4 _
        case q2 => exact cel_one _
        case q3 => unfold maxLen; omega
        case q4 => omega
        case q5 => have := HB.out.le; simp; omega
        case q6 =>
          intro v3 w7 hown3 hgrow3 _
          have hg3 := HB.out.grew (m := p) rfl hown3 hgrow3
          clear hown3 hgrow3
          go_wp2
          go_roundw
          case rel => exact ⟨k + 1, cs ++ [c], _, by go_num, rfl, by omega, HR.out.next HS.out HTT.out (HB3.out.trans hg3.bel) (by rw [HP.out]; exact hg3.buf)⟩
          case measure => simp [intOf]; omega
    · obtain rfl : k = zs.length := by omega
      have hcl := HR.out.len
      have hun : ∀ w, Calls Try.prog 16 #[.string (T ++ ⟨#[34]⟩)] w fun e w' => e = .returned (.tuple #[.string (str (puts cs)), .int .i64 0]) ∧ Below w.heap.size w w' := fun w => by
        have e : T ++ ⟨#[34]⟩ = str (34 :: nums cs ++ [34]) := by rw [HR.out.is, str_app]; rfl
        have hnl := nums_len cs
        have := unquote_any (str (34 :: nums cs ++ [34])) w (by rw [str_len]; simp; omega)
        rw [rdO_nums HR.out.sg, ansV_puts HR.out.sg] at this
        rw [e]; exact this
      have ad1 := fun w => run_string_add_sum (P := Try.prog) w T ⟨#[34]⟩ (show T.size + 1 ≤ _ by omega)
      generalize T ++ ⟨#[34]⟩ = T1 at ad1 hun
      have hsn := fun w => signs_any (str (puts cs)) w (by rw [str_len]; unfold maxLen; omega)
      have e1 : sgsOf (str (puts cs)) = cs := sgsOf_some (by rw [byt_str (puts_lt HR.out.sg)]; exact sigs_puts HR.out.sg)
      rw [e1, hcl] at hsn
      clear e1 hcl
      generalize hX : str (puts cs) = X at hun hsn
      have HX := Lib.hid hX
      clear hX
      have hXX := str_self X
      go_wp2_with (first | (go_at_call 16; refine (hun _).mono ?_; rintro e w5 ⟨rfl, b5⟩; have hcv := conv_own (own_keep b5 HR.out.buf.own); rw [HX.out] at hcv) | (go_at_call 12; refine (hsn _).mono ?_; rintro e w6 ⟨rfl, b6⟩) | (go_at_call 8; refine (lives_any _).mono ?_; rintro e w7 ⟨rfl, b7⟩))
      go_ret
      exact ⟨rfl, HR.out.bel.trans ((b5.trans ((b6.trans (b7.mono b6.size)).mono b5.size)).mono HR.out.bel.size)⟩
end Ut
end Go.Proofs.Ytbolnciofcmoaaa
