/- Layer 13: what blanks, and the first error, are, of every query. -/
import Derived.Test.YtpddkchnogfjkaaDoorLxLeft
namespace Go.Proofs.YtpddkchnogfjkaaDoor
open Go.RowKit
namespace Lx
theorem lxs_e0 : ∀ (n p : Nat) (r : List UInt8) (a e : Nat), r.length ≤ n → lxs numN strS p r = .error (a, e) → e ≠ 0 := by
  intro n
  induction n with
  | zero =>
    intro p r a e h hl
    obtain rfl : r = [] := List.length_eq_zero_iff.1 (by omega)
    rw [lxs_end numN strS _ rfl] at hl; cases hl
  | succ n ih =>
    intro p r a e h hl
    by_cases h0 : r.drop (blk false r) = []
    · rw [lxs_end numN strS _ h0] at hl; cases hl
    · cases ht : tok numN strS (r.drop (blk false r)) with
      | error z =>
        rw [lxs_err numN strS _ h0 ht] at hl
        obtain ⟨_, rfl⟩ := Prod.mk.inj (Except.error.inj hl)
        exact tok_err ht
      | ok z =>
        obtain ⟨k, t, v, q⟩ := z
        have hp := tok_pos numN strS ht
        rw [List.length_drop] at hp
        rw [lxs_ok numN strS _ ht] at hl
        cases hr : lxs numN strS (p + blk false r + q) (r.drop (blk false r + q)) with
        | ok l2 => rw [hr] at hl; cases hl
        | error z =>
          rw [hr] at hl
          refine ih _ _ z.1 e (by rw [List.length_drop]; omega) (hr.trans ?_)
          have := Except.error.inj hl
          rw [this]
theorem ans_ok {q : ByteArray} {L : List Tk} {a : Nat} (h : ansT q = (L, a, 0)) : lxs numN strS 0 q.data.toList = .ok L := by
  unfold ansT at h
  split at h
  · simp at h
  · cases hl : lxs numN strS 0 q.data.toList with
    | error z =>
      rw [hl] at h
      simp only [Prod.mk.injEq] at h
      exact absurd h.2.2 (lxs_e0 _ 0 _ z.1 z.2 (Nat.le_refl _) hl)
    | ok l => rw [hl] at h; simp only [Prod.mk.injEq] at h; rw [h.1]
end Lx
end Go.Proofs.YtpddkchnogfjkaaDoor
