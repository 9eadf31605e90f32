/- A pair that follows from others turns nothing. No condition. -/
import Derived.Test.YtblmjhnkjbhdmaaLvTables
namespace Go.Proofs.Ytblmjhnkjbhdmaa
open Go.RowKit
namespace Lv
theorem cl_follow {ps : List (Int × Int)} {n x y : Nat} (h : cl ps n x y = true) (a b : Nat) (_ : a < 8) (_ : b < 8) : cl (ps ++ [((x : Int), (y : Int))]) n a b = cl ps n a b := by
  rw [Bool.eq_iff_iff]
  constructor
  · refine clo_least (clo_trans _) fun u v hu hv hp => ?_
    unfold pairT at hp
    simp only [List.any_append, List.any_cons, List.any_nil, Bool.or_false, Bool.or_eq_true, Bool.and_eq_true, decide_eq_true_eq] at hp
    rcases hp with h1 | h1 | h1
    · exact clo_sub _ u v hu hv (by unfold pairT; simp only [Bool.or_eq_true, Bool.and_eq_true, decide_eq_true_eq]; exact .inl h1)
    · exact clo_sub _ u v hu hv (by unfold pairT; simp only [Bool.or_eq_true]; exact .inr h1)
    · obtain rfl : x = u := by omega
      obtain rfl : y = v := by omega
      exact h
  · refine clo_least (clo_trans _) fun u v hu hv hp => clo_sub _ u v hu hv ?_
    unfold pairT at hp ⊢
    simp only [List.any_append, Bool.or_eq_true] at hp ⊢
    rcases hp with h1 | h1
    · exact .inl h1
    · exact .inr (.inl h1)
theorem good_follow {ss : List ByteArray} {ps : List (Int × Int)} {x y : Nat} (h : Good ss ps) (hl : ps.length < 64) (hx : x < ss.length) (hy : y < ss.length) (hc : cl ps ss.length x y = true) : Good ss (ps ++ [((x : Int), (y : Int))]) := by
  have n8 := h.names.2.1
  have e := cl_follow hc
  refine ⟨h.names, prB_yes (by simp; omega) fun i z hi hz => ?_, ?_, AllL_congr e n8 h.joins, AllL_congr (trn_congr e) n8 h.meets⟩
  · rw [List.getElem?_append] at hz
    split at hz
    · have := prB_get h.pairs hz
      simp [inI]
      omega
    · have hi0 : i - ps.length < [((x : Int), (y : Int))].length := (List.getElem?_eq_some_iff.1 hz).1
      simp only [List.length_singleton] at hi0
      have : i - ps.length = 0 := by omega
      rw [this] at hz
      cases hz
      simp [inI]
      omega
  · refine Eq.trans (relA_congr fun a b ha hb => ?_) h.anti
    show (cl _ _ a b && cl _ _ b a) = (cl _ _ a b && cl _ _ b a)
    rw [e a b ha hb, e b a hb ha]
theorem tabs_follow {ps : List (Int × Int)} {n x y : Nat} (hn : n ≤ 8) (hc : cl ps n x y = true) : joinT (cl (ps ++ [((x : Int), (y : Int))]) n) n = joinT (cl ps n) n ∧ joinT (trn (cl (ps ++ [((x : Int), (y : Int))]) n)) n = joinT (trn (cl ps n)) n :=
  ⟨joinT_congr (cl_follow hc) hn, joinT_congr (trn_congr (cl_follow hc)) hn⟩
def flat (ps : List (Int × Int)) : List Value := ps.flatMap fun p => [.int .i64 p.1, .int .i64 p.2]
theorem flat_len (ps : List (Int × Int)) : (flat ps).length = ps.length * 2 := by
  induction ps with
  | nil => rfl
  | cons p ps ih => simp only [flat, List.flatMap_cons, List.length_append, List.length_cons, List.length_nil] at ih ⊢; omega
theorem flat_at : ∀ (ps : List (Int × Int)) (i : Nat) (p : Int × Int), ps[i]? = some p → (flat ps)[i * 2]? = some (.int .i64 p.1) ∧ (flat ps)[i * 2 + 1]? = some (.int .i64 p.2)
  | q :: ps, 0, p, h => by
    cases h
    exact ⟨rfl, rfl⟩
  | q :: ps, i + 1, p, h => by
    have := flat_at ps i p (by simpa using h)
    simp only [flat, List.flatMap_cons] at this ⊢
    rw [show (i + 1) * 2 = i * 2 + 2 by omega, show i * 2 + 2 + 1 = i * 2 + 1 + 2 by omega]
    exact this
theorem flat_one (ps : List (Int × Int)) : ∀ u ∈ flat ps, u.oneCell' = true := by
  intro u hu
  simp only [flat, List.mem_flatMap] at hu
  obtain ⟨p, _, hp⟩ := hu
  simp only [List.mem_cons, List.not_mem_nil, or_false] at hp
  rcases hp with rfl | rfl <;> rfl
theorem flat_get {w : World} {b off : Nat} {ps : List (Int × Int)} (h : ∀ i x, ps[i]? = some x → w.cell? ⟨b, off + i * 2, none⟩ = some (.int .i64 x.1) ∧ w.cell? ⟨b, off + i * 2 + 1, none⟩ = some (.int .i64 x.2)) :
    ∀ j u, (flat ps)[j]? = some u → w.cell? ((⟨b, off, none⟩ : Addr).add j) = some u := by
  intro j u hj
  have hlt := (List.getElem?_eq_some_iff.1 hj).1
  rw [flat_len] at hlt
  rw [Addr.add_mid]
  obtain ⟨p, hp⟩ : ∃ p, ps[j / 2]? = some p := ⟨_, List.getElem?_eq_getElem (by omega)⟩
  have hc := h _ _ hp
  have hf := flat_at ps _ _ hp
  rcases Nat.mod_two_eq_zero_or_one j with e | e
  · rw [show j / 2 * 2 = j by omega] at hc hf
    rw [hf.1] at hj
    cases hj
    exact hc.1
  · rw [show off + j / 2 * 2 + 1 = off + j by omega] at hc
    rw [show j / 2 * 2 + 1 = j by omega] at hf
    rw [hf.2] at hj
    cases hj
    exact hc.2
theorem own_pairs {w : World} {base n : Nat} {v : Value} {ps : List (Int × Int)} (h : w.ownsRow base 44 2 v n (flat ps)) (hn : ps.length = n) : PairsAt w v ps := by
  subst hn
  rcases h.2 with ⟨hv, h0⟩ | ⟨g, cap, cur, rfl, _⟩
  · have : ps = [] := List.length_eq_zero_iff.1 h0
    subst this
    subst hv
    exact PairsAt.nil w
  · refine ⟨some ⟨g, 0, none⟩, cap, rfl, fun i x hx => ⟨g, 0, rfl, ?_⟩⟩
    have hi := (List.getElem?_eq_some_iff.1 hx).1
    have hf := flat_at ps i x hx
    rw [Nat.zero_add, h.cellAt _ (by omega), h.cellAt _ (by omega)]
    exact hf
theorem flat_app (ps qs : List (Int × Int)) : flat (ps ++ qs) = flat ps ++ flat qs := by simp [flat]
theorem info_two : (Try.prog.info? 44).map (fun i => (i.zero, i.size, i.bytes)) = some (some (.agg #[.int .i64 0, .int .i64 0]), 2, 16) := by kernel_rfl
/-- the pairs that came in, laid into a slice of the call's own -/
theorem wp_appA {o : Oper} {a : Act} {w : World} {K : Act → World → Prop} {Q : Exit → Act → World → Prop} (s x : Operand)
    (ho : o.op = .call { callee := .builtin .append, args := #[s, x], argTypes := #[23, 23] }) (d : Nat) (hd : o.dst = some d) (hs : a.eval s = .slice none 0 0)
    (ab : Option Addr) (cap : Nat) (ps : List (Int × Int)) (hx : a.eval x = .slice ab ps.length cap) (hp : PairsAt w (.slice ab ps.length cap) ps) (hnil : ab = none → cap = 0) (hl : ps.length ≤ 64)
    (h : ∀ v' w', w'.ownsRow w.heap.size 44 2 v' ps.length (flat ps) → Below w.heap.size w w' → K (a.put (some d) v') w') : o.wp Try.prog a w K Q := by
  rw [← hd] at h
  obtain ⟨i0, hi, hz0, hz1, hz2⟩ := info_parts info_two
  obtain ⟨a', cap', hv, hc⟩ := hp.form
  cases hv
  cases ab with
  | none =>
    obtain rfl := hnil rfl
    have hps : ps = [] := by
      cases ps with
      | nil => rfl
      | cons p ps =>
        obtain ⟨b, off, e, _⟩ := hc 0 p rfl
        cases e
    subst hps
    have hrun := run_append_owned_none (P := Try.prog) (w := w) w.heap.size 23 o.type 44 i0 2 Try.underlying23 hi (.slice none 0 0) 0 [] (World.ownsRow_nil _ _ _ _)
    unfold Oper.wp
    simp [execOp, ho, resolve, invoke, builtin, hs, hx, hrun, Result.andThen]
    exact h _ _ (World.ownsRow_nil _ _ _ _) (Below.refl _ _)
  | some ad =>
    refine wp_append_own w s x 23 ho w.heap.size 44 i0 (.agg #[.int .i64 0, .int .i64 0]) 2 16 Try.underlying23 hi hz0 hz1 hz2 rfl (by decide) _ 0 [] hs (World.ownsRow_nil _ _ _ _) ad ps.length cap (flat ps) hx (flat_len ps) ?_ (flat_one ps) (by unfold maxLen; omega) (by omega) (Nat.le_refl _) ?_
    · cases hq : ps with
      | nil => intro j u hj; simp [flat] at hj
      | cons p qs =>
        obtain ⟨b, off, e, _⟩ := hc 0 p (by rw [hq]; rfl)
        cases e
        rw [← hq]
        exact flat_get fun i x hx => by
          obtain ⟨b', off', e, h1, h2⟩ := hc i x hx
          cases e
          exact ⟨h1, h2⟩
    · intro v' w' h1 h2 _
      exact h v' w' (by simpa using h1) ((Below.refl _ _).grown h2 (Nat.le_refl _) fun k hk => by cases hk)
/-- one pair more -/
theorem wp_appB {o : Oper} {a : Act} {w : World} {K : Act → World → Prop} {Q : Exit → Act → World → Prop} (s x : Operand)
    (ho : o.op = .call { callee := .builtin .append, args := #[s, x], argTypes := #[23, 23] }) (d : Nat) (hd : o.dst = some d) (base : Nat) (v : Value) (hs : a.eval s = v)
    (ps : List (Int × Int)) (g : Nat) (p q : Int) (hx : a.eval x = .slice (some ⟨g, 0, none⟩) 1 1) (hown : w.ownsRow base 44 2 v ps.length (flat ps)) (hg : w.heap[g]? = some (.cells #[.int .i64 p, .int .i64 q] 44)) (hl : ps.length ≤ 64) (hb : base ≤ w.heap.size)
    (h : ∀ v' w', (∀ w'' : World, (∀ k, base ≤ k → w''.heap[k]? = w'.heap[k]?) → PairsAt w'' v' (ps ++ [(p, q)])) → Below base w w' → K (a.put (some d) v') w') : o.wp Try.prog a w K Q := by
  rw [← hd] at h
  obtain ⟨i0, hi, hz0, hz1, hz2⟩ := info_parts info_two
  refine wp_append_own w s x 23 ho base 44 i0 (.agg #[.int .i64 0, .int .i64 0]) 2 16 Try.underlying23 hi hz0 hz1 hz2 rfl (by decide) v ps.length (flat ps) hs hown ⟨g, 0, none⟩ 1 1 (flat [(p, q)]) hx rfl ?_ (flat_one _) (by unfold maxLen; omega) (by omega) hb ?_
  · exact flat_get fun i x hx => by
      match i, hx with
      | 0, hx => cases hx; exact ⟨cell_of_row _ _ _ _ _ _ hg, cell_of_row _ _ _ _ _ _ hg⟩
  · intro v' w' h1 h2 _
    rw [← flat_app] at h1
    refine h v' w' (fun w'' hw => own_pairs (base := base) (n := ps.length + 1) ⟨h1.1, ?_⟩ (by simp)) ((Below.refl _ _).grown h2 hb fun k hk => (hown.lt k hk).1)
    rcases h1.2 with h0 | ⟨k, cap, cur, hv, hb', hh, r⟩
    · exact .inl h0
    · exact .inr ⟨k, cap, cur, hv, hb', (hw k hb').trans hh, r⟩
end Lv
end Go.Proofs.Ytblmjhnkjbhdmaa
