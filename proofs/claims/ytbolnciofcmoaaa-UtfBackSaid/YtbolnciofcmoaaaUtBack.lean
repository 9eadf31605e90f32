/- UtfBack walked: it answers true for every two strings. -/
import Derived.Test.YtbolnciofcmoaaaUtLives
import Derived.Test.YtbolnciofcmoaaaUtBackMath
namespace Go.Proofs.Ytbolnciofcmoaaa
open Go.RowKit
namespace Ut
theorem frst_all {s : ByteArray} {cs : List Nat} (h : sigs (byt s) = some cs) : str (frst s (s.size : Nat)) = s := by
  have hl : cs.length ≤ s.size := by have := sgsOf_len s; rw [sgsOf_some h] at this; exact this
  unfold frst
  rw [sgsOf_some h, List.take_of_length_le (by omega), ← (sigs_iff.1 h).2, str_byt]
theorem str_beq {a b : ByteArray} (h : a ≠ b) : (a.toList == b.toList) = false := by
  cases e : (a.toList == b.toList) with
  | false => rfl
  | true => exact absurd (toL_eq.1 e) h
theorem str_beqs {a b c d : ByteArray} (h : a = b ↔ c = d) : (a.toList == b.toList) = (c.toList == d.toList) := by
  rw [Bool.eq_iff_iff, toL_eq, toL_eq]; exact h
set_option maxRecDepth 100000 in
set_option maxHeartbeats 2000000 in
theorem utfBack_any (s u : ByteArray) (w : World) (hs : s.size ≤ maxLen) (hu : u.size ≤ maxLen) : Calls Try.prog 6 #[.string s, .string u] w fun e w' => e = .returned (.bool true) ∧ Below w.heap.size w w' := by
  have hs' := hs
  unfold maxLen at hs hu
  by_cases h2 : 2000 < s.size
  · go_enter Try.func6, Try.ntmps6
    go_wp2_with (go_at_call 8; refine (lives_any _).mono ?_; rintro e w1 ⟨rfl, b1⟩)
    go_ret
    exact ⟨rfl, b1⟩
  by_cases h3 : 2000 < u.size
  · go_enter Try.func6, Try.ntmps6
    go_wp2_with (go_at_call 8; refine (lives_any _).mono ?_; rintro e w1 ⟨rfl, b1⟩)
    go_ret
    exact ⟨rfl, b1⟩
  have hq := fun w => quote_any s w (by omega)
  have hqu := fun w => quote_any u w (by omega)
  have hva := fun w => valid_any s w hs'
  cases hg : sigs (byt s) with
  | none =>
    rw [vldB_none hg] at hva
    rw [hg] at hq
    clear hg
    have e0 : quoV none = .tuple #[.string ⟨#[]⟩, .int .i64 7] := rfl
    rw [e0] at hq
    clear e0 hqu
    go_enter Try.func6, Try.ntmps6
    go_wp2_with (first | (go_at_call 14; refine (hq _).mono ?_; rintro e w1 ⟨rfl, b1⟩) | (go_at_call 11; refine (hva _).mono ?_; rintro e w2 ⟨rfl, rfl⟩) | (go_at_call 8; refine (lives_any _).mono ?_; rintro e w3 ⟨rfl, b3⟩))
    go_ret
    exact ⟨rfl, b1.trans (b3.mono b1.size)⟩
  | some cs =>
    have hcs := (sigs_iff.1 hg).1
    have hbs := (sigs_iff.1 hg).2
    have hfs := fun w => first_any s (s.size : Nat) w hs' (by omega)
    rw [frst_all hg] at hfs
    have hln : cs.length ≤ 2000 := by have := sgsOf_len s; rw [sgsOf_some hg] at this; omega
    rw [hg] at hq
    have e0 : quoV (some cs) = .tuple #[.string (str (quoted cs)), .int .i64 0] := rfl
    rw [e0] at hq
    have hsz : (str (quoted cs)).size ≤ 20000 := by
      rw [str_len]; unfold quoted; have := quos_len cs; simp; omega
    have hun := fun w => unquote_any (str (quoted cs)) w (by omega)
    rw [rdO_quoted hcs, ansV_puts hcs, ← hbs, str_byt] at hun
    have hby : ∀ (k : Nat) (h : k < (str (quoted cs)).size), ¬ (str (quoted cs))[k].toNat < 32 := by
      intro k h
      have e1 := byt_get (str (quoted cs)) k h
      rw [byt_str (fun x hx => (quoted_bytes hcs x hx).2)] at e1
      have := (quoted_bytes hcs _ (List.mem_of_getElem? e1)).1
      omega
    have hX : (∃ Y : ByteArray, quoV (sigs (byt u)) = .tuple #[.string Y, .int .i64 7]) ∨ (∃ Y : ByteArray, quoV (sigs (byt u)) = .tuple #[.string Y, .int .i64 0] ∧ (Y = str (quoted cs) ↔ u = s)) := by
      cases hgu : sigs (byt u) with
      | none => exact .inl ⟨_, rfl⟩
      | some ds =>
        refine .inr ⟨_, rfl, fun h => ?_, fun h => ?_⟩
        · have := quoted_inj (sigs_iff.1 hgu).1 hcs h
          rw [← (sigs_iff.1 hgu).2, ← hbs] at this
          exact byt_inj this
        · subst h
          rw [hg] at hgu
          cases hgu
          rfl
    clear hg hcs hbs e0 hln
    generalize str (quoted cs) = T at hq hun hby hX hsz
    have HBY := Lib.hid hby
    have hss := str_self s
    clear hby
    go_enter Try.func6, Try.ntmps6
    go_wp2_with (go_at_call 14; refine (hq _).mono ?_; rintro e w1 ⟨rfl, b1⟩)
    go_loop [7] (fun i => ∃ k : Nat, i = .int .i64 k ∧ k ≤ T.size) (fun i => T.size - (intOf i).toNat)
    case atStart => exact ⟨0, rfl, by omega⟩
    case round =>
      obtain ⟨k, rfl, hk⟩ := hrel
      by_cases hlt : k < T.size
      · have h32 := HBY.out k hlt
        have h256 : T[k].toNat < 256 := T[k].toNat_lt
        go_wp2
        go_round
        case rel => exact ⟨k + 1, by go_num, by omega⟩
        case measure => simp [intOf]; omega
      · rcases hX with ⟨Y, hY⟩ | ⟨Y, hY, hYY⟩
        · rw [hY] at hqu
          clear hY
          go_wp2_with (first | (go_at_call 16; refine (hun _).mono ?_; rintro e w2 ⟨rfl, b2⟩) | (go_at_call 14; refine (hqu _).mono ?_; rintro e w3 ⟨rfl, b3⟩) | (go_at_call 13; refine (hfs _).mono ?_; rintro e w4 ⟨rfl, b4⟩) | (go_at_call 8; refine (lives_any _).mono ?_; rintro e w5 ⟨rfl, b5⟩))
          go_ret
          exact ⟨rfl, (b1.trans (b2.mono b1.size)).trans ((b3.trans ((b4.trans (b5.mono b4.size)).mono b3.size)).mono (Nat.le_trans b1.size b2.size))⟩
        · rw [hY] at hqu
          clear hY
          have hYb : ((Y.toList == T.toList) == (u.toList == s.toList)) = true := by rw [str_beqs hYY]; simp
          clear hYY
          go_wp2_with (first | (go_at_call 16; refine (hun _).mono ?_; rintro e w2 ⟨rfl, b2⟩) | (go_at_call 14; refine (hqu _).mono ?_; rintro e w3 ⟨rfl, b3⟩) | (go_at_call 13; refine (hfs _).mono ?_; rintro e w4 ⟨rfl, b4⟩) | (go_at_call 8; refine (lives_any _).mono ?_; rintro e w5 ⟨rfl, b5⟩))
          go_ret
          exact ⟨rfl, (b1.trans (b2.mono b1.size)).trans ((b3.trans ((b4.trans (b5.mono b4.size)).mono b3.size)).mono (Nat.le_trans b1.size b2.size))⟩
end Ut
end Go.Proofs.Ytbolnciofcmoaaa
