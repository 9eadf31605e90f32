/- Layer 13: LexNames, of every text. -/
import Derived.Test.YtpddkchnogfjkaaDoorLxLives
namespace Go.Proofs.YtpddkchnogfjkaaDoor
open Go.RowKit
namespace Lx
open _root_.Go.Proofs.YtpddkchnogfjkaaDoor.Nm (bT)
def keyTo (s : ByteArray) (k : Nat) : Bool := decide (s.data.toList ∈ (keyB.take k).map fun x => x.data.toList)
theorem keyTo_all (s : ByteArray) {k : Nat} (h : ¬ k < 20) : keyTo s k = keyIs s := by
  unfold keyTo keyIs
  rw [List.take_of_length_le (show keyB.length ≤ k by show 20 ≤ k; omega)]
theorem keyTo_next {s x : ByteArray} {k : Nat} (hx : keyB[k]? = some x) : keyTo s (k + 1) = (keyTo s k || (x.toList == s.toList)) := by
  unfold keyTo
  rw [List.take_add_one, hx, Bool.eq_iff_iff]
  simp only [Option.toList_some, List.map_append, List.mem_append, List.map_cons, List.map_nil, List.mem_singleton, Bool.or_eq_true, decide_eq_true_eq]
  constructor
  · rintro (h | h)
    · exact Or.inl h
    · exact Or.inr (by rw [ByteArray.toList_eq, ByteArray.toList_eq, ← h]; simp)
  · rintro (h | h)
    · exact Or.inl h
    · refine Or.inr ?_
      have := beq_iff_eq.1 h
      rw [ByteArray.toList_eq, ByteArray.toList_eq] at this
      exact this.symm
set_option maxRecDepth 100000 in
set_option maxHeartbeats 2000000 in
theorem lexNames_any (s : ByteArray) (w : World) :
    Calls Tryd.prog 3 #[.string s] w fun e w' => e = .returned (.bool true) ∧ Below w.heap.size w w' := by
  have hlv := lives_any
  by_cases hs : s.size ≤ 1000
  · have hk := rkeys_any
    have h1 := fun w => ident_any s w (by omega)
    have h2 := fun w => rident_any s w (by omega)
    have h3 := fun w => key_any s w (by omega)
    have hl2 : ¬ (1000 < (s.size : Int)) := by omega
    go_enter Tryd.func3, Tryd.ntmps3
    go_wp2_with (go_at_call 7; refine (hk _).mono ?_; rintro e w1 ⟨v, rfl, ht, b1⟩; have HB := Lib.hid b1; have HT := Lib.hid ht; obtain ⟨kb, rfl, -, -⟩ := ht; clear b1)
    clear hk
    rw [show keyB.length = 20 from rfl] at HT ⊢
    go_loopw [4, 5] (fun kv iv wr => ∃ (k : Nat) (b : Bool), iv = .int .i64 (k : Nat) ∧ kv = .bool b ∧ k ≤ 20 ∧ Hid (Below w.heap.size w wr) ∧ Hid (Tx wr (.slice (some ⟨kb, 0, none⟩) 20 20) keyB) ∧ Hid (keyTo s k = b)) (fun _ iv _ => 20 - (intOf iv).toNat)
    case atStart => exact ⟨0, false, rfl, rfl, by omega, HB, HT, Lib.hid rfl⟩
    case round =>
      clear HB HT
      obtain ⟨k, b, rfl, rfl, hk, HB, HT, HK⟩ := hrel
      by_cases h20 : k < 20
      · clear h1 h2 h3 hlv
        obtain ⟨x, hx⟩ : ∃ x, keyB[k]? = some x := ⟨keyB[k], List.getElem?_eq_getElem h20⟩
        have hcell : wr.cell? ⟨kb, k, none⟩ = some (.string x) := by
          obtain ⟨kb', h1, _, h3⟩ := HT.out
          cases h1
          exact h3 k x hx
        have HN : Hid (keyTo s (k + 1) = (b || (x.toList == s.toList))) := Lib.hid (by rw [keyTo_next hx, HK.out])
        clear hx HK
        cases b
        · go_wp2_with fail
          go_roundw
          case rel => exact ⟨k + 1, _, by go_num, rfl, by omega, HB, HT, Lib.hid (by rw [HN.out]; simp)⟩
          case measure => simp [intOf]; omega
        · go_wp2_with fail
          all_goals go_roundw
          case rel => exact ⟨k + 1, true, by go_num, rfl, by omega, HB, HT, Lib.hid (by rw [HN.out]; rfl)⟩
          case measure => simp [intOf]; omega
      · have HN : Hid (b = keyIs s) := Lib.hid (by rw [← HK.out, keyTo_all s h20])
        clear HK HT
        rw [← HN.out] at h3
        obtain ⟨ib, hib⟩ : ∃ ib, identB s = ib := ⟨_, rfl⟩
        rw [hib] at h1 h2
        clear hib HN
        go_wp2_with (first | (go_at_call 6; refine (hlv _).mono ?_; rintro e w6 ⟨rfl, b6⟩) | (go_at_call 10; refine (h3 _).mono ?_; rintro e w5 ⟨rfl, b5⟩) | (go_at_call 9; refine (h2 _).mono ?_; rintro e w4 ⟨rfl, b4⟩) | (go_at_call 8; refine (h1 _).mono ?_; rintro e w3 ⟨rfl, b3⟩))
        go_ret
        exact ⟨rfl, bT (bT (bT (bT HB.out b3) b4) b5) b6⟩
  · have hl2 : 1000 < (s.size : Int) := by omega
    go_enter Tryd.func3, Tryd.ntmps3
    go_wp2_with (go_at_call 6; refine (hlv _).mono ?_; rintro e w6 ⟨rfl, b6⟩)
    go_ret
    exact ⟨rfl, b6⟩
end Lx
end Go.Proofs.YtpddkchnogfjkaaDoor
