/- Layer 13: LexTokens, of every query. -/
import Derived.Test.YtpddkchnogfjkaaGreatDoorLxPd
import Derived.Test.YtpddkchnogfjkaaGreatDoorLxPt
namespace Go.Proofs.YtpddkchnogfjkaaGreatDoor
open Go.RowKit
namespace Lx
open _root_.Go.Proofs.YtpddkchnogfjkaaGreatDoor.Nm (bT)
set_option maxRecDepth 100000 in
set_option maxHeartbeats 2000000 in
theorem lexTokens_any (s : ByteArray) (w : World) (hs0 : s.size ≤ maxLen) :
    Calls Tryz.prog 3 #[.string s] w fun e w' => e = .returned (.bool true) ∧ Below w.heap.size w w' := by
  have hlv := lives_any
  have htk := fun w => tokens_any s w hs0
  unfold TokP at htk
  by_cases hs : s.size ≤ 4096
  · obtain ⟨L, hL⟩ : ∃ L, (ansT s).1 = L := ⟨_, rfl⟩
    obtain ⟨at0, hat⟩ : ∃ a, (ansT s).2.1 = a := ⟨_, rfl⟩
    obtain ⟨er, her⟩ : ∃ a, (ansT s).2.2 = a := ⟨_, rfl⟩
    have HA : Hid (ansT s = (L, at0, er)) := Lib.hid (by rw [← hL, ← hat, ← her])
    rw [hL, hat, her] at htk
    clear hL hat her
    have hl2 : ¬ (4096 < (s.size : Int)) := by omega
    have hl3 : (s.size : Int) ≤ 4096 := by omega
    go_enter Tryz.func3, Tryz.ntmps3
    go_wp2_with (go_at_call 4; refine (htk _).mono ?_; rintro e w1 ⟨b1, v, rfl, hv⟩; have HB := Lib.hid b1; obtain ⟨ao, cap, rfl, hcap, hv⟩ := hv; have HV : Hid (Tks w1 (.slice ao L.length cap) L) := Lib.hid ⟨ao, cap, rfl, hcap, hv⟩; clear b1 hv)
    clear htk
    simp only [show decide ((4096 : Int) < (s.size : Int)) = false from decide_eq_false (by omega)]
    go_loopw [6, 7] (fun iv kv wr => ∃ (i k : Nat), iv = .int .i64 (i : Nat) ∧ kv = .int .i64 (k : Nat) ∧ i ≤ s.size ∧ k ≤ i ∧ Hid (Below w.heap.size w wr) ∧ Hid (Tks wr (.slice ao L.length cap) L) ∧ Hid (Left s k i)) (fun iv _ _ => s.size + 1 - (intOf iv).toNat)
    case atStart => exact ⟨0, 0, rfl, rfl, by omega, by omega, HB, HV, Lib.hid (Left.start s)⟩
    case round =>
      clear HB HV
      obtain ⟨i, k, rfl, rfl, hi, hki, HB, HV, HLf⟩ := hrel
      obtain ⟨b, hb⟩ : ∃ b, blkE false s i = b := ⟨_, rfl⟩
      have hbl := blkE_le false s hi
      have hbi : i ≤ b := by rw [← hb]; unfold blkE; omega
      rw [hb] at hbl
      have h1 := fun w => blank_c s i i w (by omega) hi rfl b hb
      have hks : (k : Int) ≤ (s.size : Int) := by omega
      by_cases hbe : b = s.size
      · obtain ⟨l, hl, hlen, hget⟩ := HLf.out.fin (by rw [hb, hbe]) hs
        rw [HA.out] at hl
        obtain ⟨rfl, rfl, rfl⟩ : L = l ∧ at0 = 0 ∧ er = 0 := by simpa using hl
        obtain ⟨ao', cap', h2, h3, h4⟩ := HV.out
        cases h2
        obtain ⟨bk, o, rfl, hbk, hcl⟩ := h4 (by omega)
        obtain ⟨c0, c1, c2, c3, c4⟩ := hcl k _ hget
        subst hbe
        have hcap : k + 1 ≤ cap := by omega
        clear hb hbl hcl h4 h3 hl HV HLf HA
        rw [hlen]
        clear hlen hget
        go_wp2_with (first | (go_at_call 5; refine (hlv _).mono ?_; rintro e w6 ⟨rfl, b6⟩) | (go_at_call 6; refine (h1 _).mono ?_; rintro e w' ⟨rfl, rfl⟩))
        go_ret
        exact ⟨rfl, bT HB.out b6⟩
      · have hbl2 : b < s.size := by omega
        have h2 := fun w => rAt_any s b w (by omega) hbl2
        cases hz : tokL (s.data.toList.drop b) with
        | error r =>
          have hbad := HLf.out.bad hb hbl2 hz hs
          rw [HA.out] at hbad
          obtain ⟨rfl, rfl, rfl⟩ : L = [] ∧ at0 = b ∧ er = r := by simpa using hbad
          have hr0 := tok_err hz
          rw [hz] at h2
          unfold tkV at h2
          simp only at h2
          clear hz hb hbad HLf HA HV
          have g1 : ((er : Int) != 0) = true := by simp; omega
          have g2 : ((er : Int) == 0) = false := by simp; omega
          have g3 : ((at0 : Int) == (s.size : Int)) = false := by simp; omega
          go_wp2_with (first | (go_at_call 5; refine (hlv _).mono ?_; rintro e w6 ⟨rfl, b6⟩) | (go_at_call 6; refine (h1 _).mono ?_; rintro e w' ⟨rfl, rfl⟩) | (go_at_call 7; refine (h2 _).mono ?_; rintro e w4 ⟨rfl, b4⟩))
          go_ret
          exact ⟨rfl, bT ((bT HB.out b4).alloc (Nat.le_trans HB.out.size b4.size) _) b6⟩
        | ok z =>
          obtain ⟨hL2, hm0, hml, hg⟩ := HLf.out.next hb hbl2 hz
          obtain ⟨kk, t, nn, m⟩ := z
          simp only at hL2 hm0 hml hg
          rw [hz] at h2
          unfold tkV at h2
          simp only at h2
          have HN := Lib.hid hL2
          have g3 : ((b : Int) == (s.size : Int)) = false := by simp; omega
          by_cases he : er = 0
          · have g4 : ((er : Int) == 0) = true := by simp; omega
            have hget := hg L (ans_ok (a := at0) (by rw [HA.out, he]))
            have hkl : k < L.length := (List.getElem?_eq_some_iff.1 hget).1
            have HG := Lib.hid hget
            clear hz hb HLf HA hL2 hg hget
            go_wp2_with (first | (go_at_call 5; refine (hlv _).mono ?_; rintro e w6 ⟨rfl, b6⟩) | (go_at_call 6; refine (h1 _).mono ?_; rintro e w' ⟨rfl, rfl⟩) | (go_at_call 7; refine (h2 _).mono ?_; rintro e w4 ⟨rfl, b4⟩))
            have hq := heap_alloc_new w4 (Obj.cells #[.int .i64 (kk : Nat), .string ⟨t.toArray⟩, .int .i64 nn.1, .int .i64 nn.2, .int .i64 (b : Nat), .int .i64 (m : Nat), .int .i64 0] 33)
            have HB2 := Lib.hid ((bT HB.out b4).alloc (Nat.le_trans HB.out.size b4.size) (Obj.cells #[.int .i64 (kk : Nat), .string ⟨t.toArray⟩, .int .i64 nn.1, .int .i64 nn.2, .int .i64 (b : Nat), .int .i64 (m : Nat), .int .i64 0] 33))
            have HV2 := Lib.hid ((HV.out.on b4).on ((Below.refl w4.heap.size w4).alloc (Nat.le_refl _) (Obj.cells #[.int .i64 (kk : Nat), .string ⟨t.toArray⟩, .int .i64 nn.1, .int .i64 nn.2, .int .i64 (b : Nat), .int .i64 (m : Nat), .int .i64 0] 33)))
            clear HB HV b4
            generalize w4.alloc (Obj.cells #[.int .i64 (kk : Nat), .string ⟨t.toArray⟩, .int .i64 nn.1, .int .i64 nn.2, .int .i64 (b : Nat), .int .i64 (m : Nat), .int .i64 0] 33) = w2 at hq HB2 HV2 ⊢
            obtain ⟨ao', cap', h3, h4, h5⟩ := HV2.out
            cases h3
            obtain ⟨bk, o, rfl, hbk, hcl⟩ := h5 (by omega)
            obtain ⟨c0, c1, c2, c3, c4⟩ := hcl k _ HG.out
            simp only at c0 c1 c2 c3 c4
            have q0 := cell_of_row w2 _ 0 _ _ _ hq
            have q1 := cell_of_row w2 _ 1 _ _ _ hq
            have q2 := cell_of_row w2 _ 2 _ _ _ hq
            have q3 := cell_of_row w2 _ 3 _ _ _ hq
            have q4 := cell_of_row w2 _ 4 _ _ _ hq
            have q5 := cell_of_row w2 _ 5 _ _ _ hq
            simp at q0 q1 q2 q3 q4 q5
            have hkl2 : (k : Int) < (L.length : Int) := by omega
            clear hq h5 hcl
            go_quiet (fail)
            go_wp2_with fail
            simp only [show ((er : Nat) : Int) = 0 by omega]
            go_roundw
            case rel => exact ⟨b + m, k + 1, by go_num, by go_num, by omega, by omega, Lib.hid (bT HB2.out (below_drewN w2 nq)), Lib.hid (HV2.out.drewN nq), HN⟩
            case measure => simp [intOf]; omega
          · have g4 : ((er : Int) == 0) = false := by simp; omega
            clear hz hb HLf HA hL2 hg
            go_wp2_with (first | (go_at_call 5; refine (hlv _).mono ?_; rintro e w6 ⟨rfl, b6⟩) | (go_at_call 6; refine (h1 _).mono ?_; rintro e w' ⟨rfl, rfl⟩) | (go_at_call 7; refine (h2 _).mono ?_; rintro e w4 ⟨rfl, b4⟩))
            have hq := heap_alloc_new w4 (Obj.cells #[.int .i64 (kk : Nat), .string ⟨t.toArray⟩, .int .i64 nn.1, .int .i64 nn.2, .int .i64 (b : Nat), .int .i64 (m : Nat), .int .i64 0] 33)
            have HB2 := Lib.hid ((bT HB.out b4).alloc (Nat.le_trans HB.out.size b4.size) (Obj.cells #[.int .i64 (kk : Nat), .string ⟨t.toArray⟩, .int .i64 nn.1, .int .i64 nn.2, .int .i64 (b : Nat), .int .i64 (m : Nat), .int .i64 0] 33))
            have HV2 := Lib.hid ((HV.out.on b4).on ((Below.refl w4.heap.size w4).alloc (Nat.le_refl _) (Obj.cells #[.int .i64 (kk : Nat), .string ⟨t.toArray⟩, .int .i64 nn.1, .int .i64 nn.2, .int .i64 (b : Nat), .int .i64 (m : Nat), .int .i64 0] 33)))
            clear HB HV b4
            generalize w4.alloc (Obj.cells #[.int .i64 (kk : Nat), .string ⟨t.toArray⟩, .int .i64 nn.1, .int .i64 nn.2, .int .i64 (b : Nat), .int .i64 (m : Nat), .int .i64 0] 33) = w2 at hq HB2 HV2 ⊢
            have q0 := cell_of_row w2 _ 0 _ _ _ hq
            have q1 := cell_of_row w2 _ 1 _ _ _ hq
            have q2 := cell_of_row w2 _ 2 _ _ _ hq
            have q3 := cell_of_row w2 _ 3 _ _ _ hq
            have q4 := cell_of_row w2 _ 4 _ _ _ hq
            have q5 := cell_of_row w2 _ 5 _ _ _ hq
            simp at q0 q1 q2 q3 q4 q5
            clear hq
            go_quiet (fail)
            go_wp2_with fail
            go_roundw
            case rel => exact ⟨b + m, k + 1, by go_num, by go_num, by omega, by omega, Lib.hid (bT HB2.out (below_drewN w2 nq)), Lib.hid (HV2.out.drewN nq), HN⟩
            case measure => simp [intOf]; omega
  · have hA : ansT s = ([], 0, 5) := by unfold ansT; rw [if_pos (by omega)]
    rw [hA] at htk
    simp only at htk
    have hl2 : 4096 < (s.size : Int) := by omega
    clear hA
    go_enter Tryz.func3, Tryz.ntmps3
    go_wp2_with (first | (go_at_call 4; refine (htk _).mono ?_; rintro e w1 ⟨b1, v, rfl, hv⟩; obtain ⟨ao, cap, rfl, -, -⟩ := hv) | (go_at_call 5; refine (hlv _).mono ?_; rintro e w6 ⟨rfl, b6⟩))
    go_ret
    exact ⟨rfl, bT b1 b6⟩
end Lx
end Go.Proofs.YtpddkchnogfjkaaGreatDoor
