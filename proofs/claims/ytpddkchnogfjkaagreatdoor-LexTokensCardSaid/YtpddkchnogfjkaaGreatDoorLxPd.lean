/- Layer 13: lives: the chapter's example. -/
import Derived.Test.YtpddkchnogfjkaaGreatDoorLxCode
namespace Go.Proofs.YtpddkchnogfjkaaGreatDoor
open Go.RowKit
namespace Lx
theorem ex_lives : ansT ⟨#[46, 97, 124, 49, 46, 53]⟩ = ([⟨5, [46], 0, 0, 0⟩, ⟨1, [97], 0, 0, 1⟩, ⟨5, [124], 0, 0, 2⟩, ⟨3, [49, 46, 53], 15, 1, 3⟩, ⟨6, [], 0, 0, 6⟩], 0, 0) := by
  rfl
set_option maxRecDepth 100000 in
set_option maxHeartbeats 1000000 in
theorem lives_any (w : World) : Calls Tryz.prog 5 #[] w fun e w' => e = .returned (.bool true) ∧ Below w.heap.size w w' := by
  have ht := fun w => tokens_any ⟨#[46, 97, 124, 49, 46, 53]⟩ w (by decide)
  unfold TokP at ht
  rw [ex_lives] at ht
  simp only at ht
  go_enter Tryz.func5, Tryz.ntmps5
  go_wp2_with (go_at_call 4; refine (ht _).mono ?_; rintro e w1 ⟨b1, v, rfl, hv⟩; obtain ⟨ao, cap, rfl, hc, hv⟩ := hv; obtain ⟨k, o, rfl, hk, hv⟩ := hv (by decide); have HB := Lib.hid b1; obtain ⟨a0, a1, a2, a3, a4⟩ := hv 0 _ rfl; obtain ⟨c0, c1, c2, c3, c4⟩ := hv 1 _ rfl; obtain ⟨d0, d1, d2, d3, d4⟩ := hv 3 _ rfl; obtain ⟨e0, e1, e2, e3, e4⟩ := hv 4 _ rfl; clear b1 hv)
  go_ret
  exact ⟨rfl, HB.out⟩
end Lx
end Go.Proofs.YtpddkchnogfjkaaGreatDoor
namespace Go.Proofs.YtpddkchnogfjkaaGreatDoor
open Go.RowKit
namespace Lx
open _root_.Go.Proofs.YtpddkchnogfjkaaGreatDoor.Nm (bT)
/-- behind k tokens, at a place: what is left -/
def Left (q : ByteArray) (k i : Nat) : Prop :=
  (∃ p e, lxs numN strS 0 q.data.toList = .error (p, e) ∧ lxs numN strS i (q.data.toList.drop i) = .error (p, e)) ∨
  ∃ l r, lxs numN strS 0 q.data.toList = .ok l ∧ lxs numN strS i (q.data.toList.drop i) = .ok r ∧ l.drop k = r ∧ k + r.length = l.length
theorem Left.start (q : ByteArray) : Left q 0 0 := by
  unfold Left
  rw [List.drop_zero]
  cases h : lxs numN strS 0 q.data.toList with
  | error z => exact Or.inl ⟨z.1, z.2, rfl, rfl⟩
  | ok l => exact Or.inr ⟨l, l, rfl, rfl, rfl, by omega⟩
theorem Left.fin {q : ByteArray} {k i : Nat} (h : Left q k i) (hi : blkE false q i = q.size) (hs : q.size ≤ 4096) :
    ∃ l, ansT q = (l, 0, 0) ∧ l.length = k + 1 ∧ l[k]? = some ⟨6, [], 0, 0, q.size⟩ := by
  have hd : (q.data.toList.drop i).drop (blk false (q.data.toList.drop i)) = [] := by
    rw [List.drop_drop]; exact at_end q _ (by unfold blkE at hi; omega)
  have he := lxs_end numN strS i hd
  rw [show i + blk false (q.data.toList.drop i) = q.size from hi] at he
  rcases h with ⟨p, e, h1, h2⟩ | ⟨l, r, h1, h2, h3, h4⟩
  · rw [he] at h2; cases h2
  · rw [he] at h2
    obtain rfl := Except.ok.inj h2
    refine ⟨l, ?_, by simp at h4; omega, ?_⟩
    · unfold ansT; rw [if_neg (by omega), h1]
    · have := congrArg (fun x : List Tk => x[0]?) h3
      simpa using this
theorem Left.bad {q : ByteArray} {k i b e : Nat} (h : Left q k i) (hi : blkE false q i = b) (hb : b < q.size) (he : tokL (q.data.toList.drop b) = .error e) (hs : q.size ≤ 4096) :
    ansT q = ([], b, e) := by
  have hd : (q.data.toList.drop i).drop (blk false (q.data.toList.drop i)) = q.data.toList.drop b := by rw [List.drop_drop, ← hi]; rfl
  have hne : q.data.toList.drop b ≠ [] := by rw [at_drop q b hb]; simp
  have h5 := lxs_err numN strS i (r := q.data.toList.drop i) (by rw [hd]; exact hne) (by rw [hd]; exact he)
  rw [show i + blk false (q.data.toList.drop i) = b from hi] at h5
  rcases h with ⟨p, e', h1, h2⟩ | ⟨l, r, h1, h2, h3, h4⟩
  · rw [h5] at h2
    obtain ⟨rfl, rfl⟩ := Prod.mk.inj (Except.error.inj h2)
    unfold ansT; rw [if_neg (by omega), h1]
  · rw [h5] at h2; cases h2
theorem Left.next {q : ByteArray} {k i b : Nat} {z : Nat × List UInt8 × (Int × Int) × Nat} (h : Left q k i) (hi : blkE false q i = b) (hb : b < q.size) (he : tokL (q.data.toList.drop b) = .ok z) :
    Left q (k + 1) (b + z.2.2.2) ∧ 0 < z.2.2.2 ∧ b + z.2.2.2 ≤ q.size ∧ ∀ l, lxs numN strS 0 q.data.toList = .ok l → l[k]? = some ⟨z.1, z.2.1, z.2.2.1.1, z.2.2.1.2, b⟩ := by
  obtain ⟨kk, t, n, m⟩ := z
  have hd : (q.data.toList.drop i).drop (blk false (q.data.toList.drop i)) = q.data.toList.drop b := by rw [List.drop_drop, ← hi]; rfl
  have hp := tok_pos numN strS he
  have e : q.data.toList.length = q.size := by simp
  rw [List.length_drop, e] at hp
  have h5 := lxs_ok numN strS i (r := q.data.toList.drop i) (by rw [hd]; exact he)
  rw [show i + blk false (q.data.toList.drop i) = b from hi, ← List.drop_drop, hd, List.drop_drop] at h5
  refine ⟨?_, hp.1, by show b + m ≤ _; omega, ?_⟩
  · rcases h with ⟨p, e', h1, h2⟩ | ⟨l, r, h1, h2, h3, h4⟩
    · left
      refine ⟨p, e', h1, ?_⟩
      rw [h5] at h2
      cases hr : lxs numN strS (b + m) (q.data.toList.drop (b + m)) with
      | error y => rw [hr] at h2; exact h2
      | ok y => rw [hr] at h2; cases h2
    · right
      rw [h5] at h2
      cases hr : lxs numN strS (b + m) (q.data.toList.drop (b + m)) with
      | error y => rw [hr] at h2; cases h2
      | ok y =>
        rw [hr] at h2
        have h6 := Except.ok.inj h2
        refine ⟨l, y, h1, rfl, ?_, ?_⟩
        · rw [← List.drop_drop, h3, ← h6]; rfl
        · rw [← h6] at h4; simp only [List.length_cons] at h4; omega
  · intro l hl
    rcases h with ⟨p, e', h1, h2⟩ | ⟨l', r, h1, h2, h3, h4⟩
    · rw [hl] at h1; cases h1
    · rw [hl] at h1
      obtain rfl := Except.ok.inj h1
      rw [h5] at h2
      cases hr : lxs numN strS (b + m) (q.data.toList.drop (b + m)) with
      | error y => rw [hr] at h2; cases h2
      | ok y =>
        rw [hr] at h2
        have h6 := Except.ok.inj h2
        have := congrArg (fun x : List Tk => x[0]?) h3
        rw [← h6] at this
        simpa using this
end Lx
end Go.Proofs.YtpddkchnogfjkaaGreatDoor
namespace Go.Proofs.YtpddkchnogfjkaaGreatDoor
open Go.RowKit
namespace Lx
theorem blank_c (s : ByteArray) (i : Nat) (z : Int) (w : World) (hs : s.size ≤ 1000000000) (hi : i ≤ s.size) (hz : z = (i : Nat)) (R : Nat) (hR : blkE false s i = R) :
    Calls Tryz.prog 6 #[.string s, .int .i64 z] w fun e w' => e = .returned (.int .i64 (R : Nat)) ∧ w = w' := by
  rw [hz, ← hR]; exact rblank_any s i w hs hi
theorem lxs_e0 : ∀ (n p : Nat) (r : List UInt8) (a e : Nat), r.length ≤ n → lxs numN strS p r = .error (a, e) → e ≠ 0 := by
  intro n
  induction n with
  | zero =>
    intro p r a e h hl
    obtain rfl : r = [] := List.length_eq_zero_iff.1 (by omega)
    rw [lxs_end numN strS _ rfl] at hl; cases hl
  | succ n ih =>
    intro p r a e h hl
    by_cases h0 : r.drop (blk false r) = []
    · rw [lxs_end numN strS _ h0] at hl; cases hl
    · cases ht : tok numN strS (r.drop (blk false r)) with
      | error z =>
        rw [lxs_err numN strS _ h0 ht] at hl
        obtain ⟨_, rfl⟩ := Prod.mk.inj (Except.error.inj hl)
        exact tok_err ht
      | ok z =>
        obtain ⟨k, t, v, q⟩ := z
        have hp := tok_pos numN strS ht
        rw [List.length_drop] at hp
        rw [lxs_ok numN strS _ ht] at hl
        cases hr : lxs numN strS (p + blk false r + q) (r.drop (blk false r + q)) with
        | ok l2 => rw [hr] at hl; cases hl
        | error z =>
          rw [hr] at hl
          refine ih _ _ z.1 e (by rw [List.length_drop]; omega) (hr.trans ?_)
          have := Except.error.inj hl
          rw [this]
theorem ans_ok {q : ByteArray} {L : List Tk} {a : Nat} (h : ansT q = (L, a, 0)) : lxs numN strS 0 q.data.toList = .ok L := by
  unfold ansT at h
  split at h
  · simp at h
  · cases hl : lxs numN strS 0 q.data.toList with
    | error z =>
      rw [hl] at h
      simp only [Prod.mk.injEq] at h
      exact absurd h.2.2 (lxs_e0 _ 0 _ z.1 z.2 (Nat.le_refl _) hl)
    | ok l => rw [hl] at h; simp only [Prod.mk.injEq] at h; rw [h.1]
end Lx
end Go.Proofs.YtpddkchnogfjkaaGreatDoor
