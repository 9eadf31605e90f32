/- Layer 13: LexTokens, of every query. -/
import Derived.Test.YtpddkchnogfjkaaDoorLxLives
namespace Go.Proofs.YtpddkchnogfjkaaDoor
open Go.RowKit
namespace Lx
open _root_.Go.Proofs.YtpddkchnogfjkaaDoor.Nm (bT)
/-- behind k tokens, at a place: what is left -/
def Left (q : ByteArray) (k i : Nat) : Prop :=
  (∃ p e, lxs numN strS 0 q.data.toList = .error (p, e) ∧ lxs numN strS i (q.data.toList.drop i) = .error (p, e)) ∨
  ∃ l r, lxs numN strS 0 q.data.toList = .ok l ∧ lxs numN strS i (q.data.toList.drop i) = .ok r ∧ l.drop k = r ∧ k + r.length = l.length
theorem Left.start (q : ByteArray) : Left q 0 0 := by
  unfold Left
  rw [List.drop_zero]
  cases h : lxs numN strS 0 q.data.toList with
  | error z => exact Or.inl ⟨z.1, z.2, rfl, rfl⟩
  | ok l => exact Or.inr ⟨l, l, rfl, rfl, rfl, by omega⟩
theorem Left.fin {q : ByteArray} {k i : Nat} (h : Left q k i) (hi : blkE false q i = q.size) (hs : q.size ≤ 4096) :
    ∃ l, ansT q = (l, 0, 0) ∧ l.length = k + 1 ∧ l[k]? = some ⟨6, [], 0, 0, q.size⟩ := by
  have hd : (q.data.toList.drop i).drop (blk false (q.data.toList.drop i)) = [] := by
    rw [List.drop_drop]; exact at_end q _ (by unfold blkE at hi; omega)
  have he := lxs_end numN strS i hd
  rw [show i + blk false (q.data.toList.drop i) = q.size from hi] at he
  rcases h with ⟨p, e, h1, h2⟩ | ⟨l, r, h1, h2, h3, h4⟩
  · rw [he] at h2; cases h2
  · rw [he] at h2
    obtain rfl := Except.ok.inj h2
    refine ⟨l, ?_, by simp at h4; omega, ?_⟩
    · unfold ansT; rw [if_neg (by omega), h1]
    · have := congrArg (fun x : List Tk => x[0]?) h3
      simpa using this
theorem Left.bad {q : ByteArray} {k i b e : Nat} (h : Left q k i) (hi : blkE false q i = b) (hb : b < q.size) (he : tokL (q.data.toList.drop b) = .error e) (hs : q.size ≤ 4096) :
    ansT q = ([], b, e) := by
  have hd : (q.data.toList.drop i).drop (blk false (q.data.toList.drop i)) = q.data.toList.drop b := by rw [List.drop_drop, ← hi]; rfl
  have hne : q.data.toList.drop b ≠ [] := by rw [at_drop q b hb]; simp
  have h5 := lxs_err numN strS i (r := q.data.toList.drop i) (by rw [hd]; exact hne) (by rw [hd]; exact he)
  rw [show i + blk false (q.data.toList.drop i) = b from hi] at h5
  rcases h with ⟨p, e', h1, h2⟩ | ⟨l, r, h1, h2, h3, h4⟩
  · rw [h5] at h2
    obtain ⟨rfl, rfl⟩ := Prod.mk.inj (Except.error.inj h2)
    unfold ansT; rw [if_neg (by omega), h1]
  · rw [h5] at h2; cases h2
theorem Left.next {q : ByteArray} {k i b : Nat} {z : Nat × List UInt8 × (Int × Int) × Nat} (h : Left q k i) (hi : blkE false q i = b) (hb : b < q.size) (he : tokL (q.data.toList.drop b) = .ok z) :
    Left q (k + 1) (b + z.2.2.2) ∧ 0 < z.2.2.2 ∧ b + z.2.2.2 ≤ q.size ∧ ∀ l, lxs numN strS 0 q.data.toList = .ok l → l[k]? = some ⟨z.1, z.2.1, z.2.2.1.1, z.2.2.1.2, b⟩ := by
  obtain ⟨kk, t, n, m⟩ := z
  have hd : (q.data.toList.drop i).drop (blk false (q.data.toList.drop i)) = q.data.toList.drop b := by rw [List.drop_drop, ← hi]; rfl
  have hp := tok_pos numN strS he
  have e : q.data.toList.length = q.size := by simp
  rw [List.length_drop, e] at hp
  have h5 := lxs_ok numN strS i (r := q.data.toList.drop i) (by rw [hd]; exact he)
  rw [show i + blk false (q.data.toList.drop i) = b from hi, ← List.drop_drop, hd, List.drop_drop] at h5
  refine ⟨?_, hp.1, by show b + m ≤ _; omega, ?_⟩
  · rcases h with ⟨p, e', h1, h2⟩ | ⟨l, r, h1, h2, h3, h4⟩
    · left
      refine ⟨p, e', h1, ?_⟩
      rw [h5] at h2
      cases hr : lxs numN strS (b + m) (q.data.toList.drop (b + m)) with
      | error y => rw [hr] at h2; exact h2
      | ok y => rw [hr] at h2; cases h2
    · right
      rw [h5] at h2
      cases hr : lxs numN strS (b + m) (q.data.toList.drop (b + m)) with
      | error y => rw [hr] at h2; cases h2
      | ok y =>
        rw [hr] at h2
        have h6 := Except.ok.inj h2
        refine ⟨l, y, h1, rfl, ?_, ?_⟩
        · rw [← List.drop_drop, h3, ← h6]; rfl
        · rw [← h6] at h4; simp only [List.length_cons] at h4; omega
  · intro l hl
    rcases h with ⟨p, e', h1, h2⟩ | ⟨l', r, h1, h2, h3, h4⟩
    · rw [hl] at h1; cases h1
    · rw [hl] at h1
      obtain rfl := Except.ok.inj h1
      rw [h5] at h2
      cases hr : lxs numN strS (b + m) (q.data.toList.drop (b + m)) with
      | error y => rw [hr] at h2; cases h2
      | ok y =>
        rw [hr] at h2
        have h6 := Except.ok.inj h2
        have := congrArg (fun x : List Tk => x[0]?) h3
        rw [← h6] at this
        simpa using this
end Lx
end Go.Proofs.YtpddkchnogfjkaaDoor
