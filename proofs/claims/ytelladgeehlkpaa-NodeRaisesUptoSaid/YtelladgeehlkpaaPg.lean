/- What tables say alone of places below 8; texts that are names by a look at them; three objects made one behind the other. No condition. -/
import Derived.Test.YtelladgeehlkpaaPf
import Derived.Test.YtelladgeehlkpaaPd
namespace Go.Proofs.Ytelladgeehlkpaa
open Go.RowKit
namespace Lv
theorem three (w : World) (A B C : Obj) : Below w.heap.size w (((w.alloc A).alloc B).alloc C) ∧ (((w.alloc A).alloc B).alloc C).heap[w.heap.size]? = some A ∧ (((w.alloc A).alloc B).alloc C).heap[w.heap.size + 1]? = some B ∧ (((w.alloc A).alloc B).alloc C).heap[w.heap.size + 1 + 1]? = some C := by
  have s1 := al_size w A
  have s2 := al_size (w.alloc A) B
  refine ⟨(((Below.refl _ _).alloc (Nat.le_refl _) _).alloc (by rw [s1]; omega) _).alloc (by rw [s2, s1]; omega) _, ?_, ?_, ?_⟩
  · rw [al_old _ _ _ (by rw [s2, s1]; omega), al_old _ _ _ (by rw [s1]; omega), al_new]
  · rw [al_old _ _ _ (by rw [s2, s1]; omega), ← s1, al_new]
  · rw [← s1, ← s2, al_new]
theorem bbB_congr {r s : Nat → Nat → Bool} (h : ∀ a b, a < 8 → b < 8 → r a b = s a b) {n a b c : Nat} (hn : n ≤ 8) (ha : a < 8) (hb : b < 8) (hc : c < 8) : bbB r n a b c = bbB s n a b c := by
  unfold bbB
  rw [Bool.eq_iff_iff, List.all_eq_true, List.all_eq_true]
  constructor
  · intro H d hd
    have hd8 : d < 8 := by have := List.mem_range.1 hd; omega
    rw [← h a d ha hd8, ← h b d hb hd8, ← h c d hc hd8]
    exact H d hd
  · intro H d hd
    have hd8 : d < 8 := by have := List.mem_range.1 hd; omega
    rw [h a d ha hd8, h b d hb hd8, h c d hc hd8]
    exact H d hd
theorem find_congr {p q : Nat → Bool} : ∀ (l : List Nat), (∀ x, x ∈ l → p x = q x) → l.find? p = l.find? q
  | [], _ => rfl
  | y :: l, h => by
    rw [List.find?_cons, List.find?_cons, h y (by simp), find_congr l fun x hx => h x (by simp [hx])]
theorem leastO_congr {r s : Nat → Nat → Bool} (h : ∀ a b, a < 8 → b < 8 → r a b = s a b) {n a b : Nat} (hn : n ≤ 8) (ha : a < 8) (hb : b < 8) : leastO r n a b = leastO s n a b := by
  unfold leastO
  refine find_congr _ fun c hc => ?_
  have hc8 : c < 8 := by have := List.mem_range.1 hc; omega
  rw [h a c ha hc8, h b c hb hc8, bbB_congr h hn ha hb hc8]
theorem joinT_congr {r s : Nat → Nat → Bool} (h : ∀ a b, a < 8 → b < 8 → r a b = s a b) {n : Nat} (hn : n ≤ 8) : joinT r n = joinT s n := by
  funext a b
  unfold joinT
  split
  · rw [leastO_congr h hn (by omega) (by omega)]
  · rfl
theorem trn_congr {r s : Nat → Nat → Bool} (h : ∀ a b, a < 8 → b < 8 → r a b = s a b) : ∀ a b, a < 8 → b < 8 → trn r a b = trn s a b := fun a b ha hb => h b a hb ha
theorem AllL_congr {r s : Nat → Nat → Bool} (h : ∀ a b, a < 8 → b < 8 → r a b = s a b) {n : Nat} (hn : n ≤ 8) (H : AllL s n) : AllL r n := fun a b ha hb => by
  rw [leastO_congr h hn (by omega) (by omega)]
  exact H a b ha hb
theorem name_of {s : ByteArray} (h : (decide (1 ≤ s.size) && decide (s.size ≤ 16) && ltrI ((s.data.getD 0 0).toNat : Int) && s.data.toList.all fun c => okI (c.toNat : Int)) = true) : nameB s = true := by
  simp only [Bool.and_eq_true, decide_eq_true_eq, List.all_eq_true] at h
  refine nameB_true ⟨h.1.1.1, h.1.1.2, fun h0 => ?_, fun k hk => h.2 _ ?_⟩
  · have := h.1.2
    rw [Array.getD_eq_getD_getElem?, Array.getElem?_eq_getElem (show 0 < s.data.size from h0)] at this
    exact this
  · show s.data[k] ∈ s.data.toList
    simp
end Lv
end Go.Proofs.Ytelladgeehlkpaa
namespace Go.Proofs.Ytelladgeehlkpaa
open Go.RowKit
namespace Lv
structure Ord (r : Nat → Nat → Bool) (n : Nat) : Prop where
  refl : ∀ a, a < n → r a a = true
  trans : ∀ a b c, a < n → b < n → c < n → r a b = true → r b c = true → r a c = true
  anti : ∀ a b, a < n → b < n → r a b = true → r b a = true → a = b
structure IsJ (r : Nat → Nat → Bool) (n : Nat) (j : Nat → Nat → Nat) : Prop where
  lt : ∀ a b, a < n → b < n → j a b < n
  left : ∀ a b, a < n → b < n → r a (j a b) = true
  right : ∀ a b, a < n → b < n → r b (j a b) = true
  least : ∀ a b d, a < n → b < n → d < n → r a d = true → r b d = true → r (j a b) d = true
theorem Ord.turn {r : Nat → Nat → Bool} {n : Nat} (h : Ord r n) : Ord (trn r) n :=
  ⟨h.refl, fun a b c ha hb hc h1 h2 => h.trans c b a hc hb ha h2 h1, fun a b ha hb h1 h2 => h.anti a b ha hb h2 h1⟩
section
variable {r : Nat → Nat → Bool} {n : Nat} {j m : Nat → Nat → Nat} (o : Ord r n) (J : IsJ r n j) (M : IsJ (trn r) n m)
include o J
theorem j_comm (a b : Nat) (ha : a < n) (hb : b < n) : j b a = j a b :=
  o.anti _ _ (J.lt b a hb ha) (J.lt a b ha hb) (J.least b a _ hb ha (J.lt a b ha hb) (J.right a b ha hb) (J.left a b ha hb)) (J.least a b _ ha hb (J.lt b a hb ha) (J.right b a hb ha) (J.left b a hb ha))
theorem j_idem (a : Nat) (ha : a < n) : j a a = a :=
  o.anti _ _ (J.lt a a ha ha) ha (J.least a a a ha ha ha (o.refl a ha) (o.refl a ha)) (J.left a a ha ha)
theorem j_of (a b : Nat) (ha : a < n) (hb : b < n) (h : r a b = true) : j a b = b :=
  o.anti _ _ (J.lt a b ha hb) hb (J.least a b b ha hb hb h (o.refl b hb)) (J.right a b ha hb)
theorem j_leq (a b : Nat) (ha : a < n) (hb : b < n) : r a b = true ↔ j a b = b :=
  ⟨j_of o J a b ha hb, fun h => by have := J.left a b ha hb; rwa [h] at this⟩
theorem j_assoc (a b c : Nat) (ha : a < n) (hb : b < n) (hc : c < n) : j (j a b) c = j a (j b c) := by
  have l1 := J.lt a b ha hb
  have l2 := J.lt b c hb hc
  have l3 := J.lt (j a b) c l1 hc
  have l4 := J.lt a (j b c) ha l2
  refine o.anti _ _ l3 l4 ?_ ?_
  · refine J.least _ _ _ l1 hc l4 (J.least _ _ _ ha hb l4 (J.left a (j b c) ha l2) ?_) ?_
    · exact o.trans _ _ _ hb l2 l4 (J.left b c hb hc) (J.right a (j b c) ha l2)
    · exact o.trans _ _ _ hc l2 l4 (J.right b c hb hc) (J.right a (j b c) ha l2)
  · refine J.least _ _ _ ha l2 l3 ?_ (J.least _ _ _ hb hc l3 ?_ (J.right (j a b) c l1 hc))
    · exact o.trans _ _ _ ha l1 l3 (J.left a b ha hb) (J.left (j a b) c l1 hc)
    · exact o.trans _ _ _ hb l1 l3 (J.right a b ha hb) (J.left (j a b) c l1 hc)
include M
theorem j_absorb (a b : Nat) (ha : a < n) (hb : b < n) : j a (m a b) = a := by
  have : r (m a b) a = true := M.left a b ha hb
  rw [j_comm o J (m a b) a (M.lt a b ha hb) ha]
  exact j_of o J _ _ (M.lt a b ha hb) ha this
end
theorem leastO_spec {r : Nat → Nat → Bool} {n a b k : Nat} (h : leastO r n a b = some k) : k < n ∧ r a k = true ∧ r b k = true ∧ ∀ d, d < n → r a d = true → r b d = true → r k d = true := by
  have h1 := List.find?_some h
  simp only [Bool.and_eq_true] at h1
  refine ⟨leastO_lt h, h1.1.1, h1.1.2, fun d hd ha hb => ?_⟩
  have h2 := h1.2
  unfold bbB at h2
  rw [List.all_eq_true] at h2
  have := h2 d (by simpa using hd)
  simpa [ha, hb] using this
theorem isJ_of {r : Nat → Nat → Bool} {n : Nat} (h : AllL r n) : IsJ r n (joinT r n) := by
  have key : ∀ a b, a < n → b < n → ∃ k, leastO r n a b = some k ∧ joinT r n a b = k := fun a b ha hb => by
    obtain ⟨k, hk⟩ := Option.isSome_iff_exists.1 (h a b ha hb)
    exact ⟨k, hk, by simp [joinT, ha, hb, hk]⟩
  refine ⟨fun a b ha hb => ?_, fun a b ha hb => ?_, fun a b ha hb => ?_, fun a b d ha hb hd h1 h2 => ?_⟩ <;> obtain ⟨k, hk, e⟩ := key a b ha hb <;> rw [e] <;> obtain ⟨l1, l2, l3, l4⟩ := leastO_spec hk
  · exact l1
  · exact l2
  · exact l3
  · exact l4 d hd h1 h2
theorem pairT_in {ps : List (Int × Int)} {n a b : Nat} (h : prB ps n = true) (hp : pairT ps n a b = true) : a < n ∧ b < n := by
  unfold pairT at hp
  simp only [Bool.or_eq_true, Bool.and_eq_true, decide_eq_true_eq, List.any_eq_true] at hp
  rcases hp with ⟨rfl, h2⟩ | ⟨x, hx, h1, h2⟩
  · exact ⟨h2, h2⟩
  · obtain ⟨i, hi⟩ := List.getElem?_of_mem hx
    have := prB_get h hi
    omega
theorem cl_in {ps : List (Int × Int)} {n a b : Nat} (h : prB ps n = true) (hc : cl ps n a b = true) : a < n ∧ b < n := by
  have := clo_least (r := pairT ps n) (t := fun a b => decide (a < n) && decide (b < n)) (fun a b c _ _ _ h1 h2 => by simp at *; omega) (fun a b _ _ hp => by simpa using pairT_in h hp) hc
  simpa using this
theorem good_ord {ss : List ByteArray} {ps : List (Int × Int)} (h : Good ss ps) : Ord (cl ps ss.length) ss.length := by
  have n8 := h.names.2.1
  refine ⟨fun a ha => ?_, fun a b c ha hb hc => clo_trans _ a b c (by omega) (by omega) (by omega), fun a b ha hb h1 h2 => ?_⟩
  · refine clo_sub _ a a (by omega) (by omega) ?_
    simp [pairT, ha]
  · have := relA_inj h.anti a b (by omega) (by omega)
    simp only [shr, trn, h1, h2, Bool.and_true] at this
    have h3 := this.symm
    simp [pairT] at h3
    exact h3.1
theorem good_j {ss : List ByteArray} {ps : List (Int × Int)} (h : Good ss ps) : IsJ (cl ps ss.length) ss.length (joinT (cl ps ss.length) ss.length) := isJ_of h.joins
theorem good_m {ss : List ByteArray} {ps : List (Int × Int)} (h : Good ss ps) : IsJ (trn (cl ps ss.length)) ss.length (joinT (trn (cl ps ss.length)) ss.length) := isJ_of h.meets
theorem errOf_ne {ss : List ByteArray} {ps : List (Int × Int)} (h : ¬ Good ss ps) : errOf ss ps ≠ 0 := by
  unfold errOf
  split
  · decide
  · split
    · decide
    · decide
end Lv
end Go.Proofs.Ytelladgeehlkpaa
namespace Go.Proofs.Ytelladgeehlkpaa
open Go.RowKit
namespace Lv
/-- a slice of n rows of n bools -/
structure TabAt (w : World) (v : Value) (n : Nat) (r : Nat → Nat → Bool) : Prop where
  form : ∃ (g cap : Nat) (R C : Nat → Nat), v = .slice (some ⟨g, 0, none⟩) n cap ∧ ∀ a, a < n → w.cell? ⟨g, a, none⟩ = some (.slice (some ⟨R a, 0, none⟩) n (C a)) ∧ ∀ b, b < n → w.cell? ⟨R a, b, none⟩ = some (.bool (r a b))
theorem tab_go {w w1 : World} {g n : Nat} {R C : Nat → Nat} {r : Nat → Nat → Bool} (h : ∀ a, a < n → w.cell? ⟨g, a, none⟩ = some (.slice (some ⟨R a, 0, none⟩) n (C a)) ∧ ∀ b, b < n → w.cell? ⟨R a, b, none⟩ = some (.bool (r a b))) (hb : Below w.heap.size w w1) :
    ∀ a, a < n → w1.cell? ⟨g, a, none⟩ = some (.slice (some ⟨R a, 0, none⟩) n (C a)) ∧ ∀ b, b < n → w1.cell? ⟨R a, b, none⟩ = some (.bool (r a b)) :=
  fun a ha => ⟨cellB hb (h a ha).1, fun b hb' => cellB hb ((h a ha).2 b hb')⟩
theorem TabAt.go {w w1 : World} {v : Value} {n : Nat} {r : Nat → Nat → Bool} (h : TabAt w v n r) (hb : Below w.heap.size w w1) : TabAt w1 v n r := by
  obtain ⟨g, cap, R, C, hv, ht⟩ := h.form
  exact ⟨g, cap, R, C, hv, tab_go ht hb⟩
def intV (x : Nat) : Value := Value.int .i64 (x : Nat)
/-- a slice of ints that holds l -/
def IntsAt (w : World) (v : Value) (l : List Nat) : Prop := (l = [] ∧ v = .slice none 0 0) ∨ ∃ g cap, v = .slice (some ⟨g, 0, none⟩) l.length cap ∧ ∀ i x, l[i]? = some x → w.cell? ⟨g, i, none⟩ = some (.int .i64 (x : Nat))
def IntsPost (l : List Nat) (w : World) (e : Ending) (w' : World) : Prop := Below w.heap.size w w' ∧ ∃ v, e = .returned v ∧ IntsAt w' v l
theorem ints_own {w : World} {base : Nat} {v : Value} {l : List Nat} (h : w.ownsRow base 3 1 v l.length (l.map intV)) : IntsAt w v l := by
  rcases h.2 with ⟨hv, h0⟩ | ⟨g, cap, cur, rfl, _⟩
  · exact .inl ⟨List.length_eq_zero_iff.1 h0, hv⟩
  · refine .inr ⟨g, cap, rfl, fun i x hx => ?_⟩
    have hi := (List.getElem?_eq_some_iff.1 hx).1
    rw [h.cellAt i (by omega), List.getElem?_map, hx]
    rfl
theorem info_int : (Try.prog.info? 3).map (fun i => (i.zero, i.size, i.bytes)) = some (some (.int .i64 0), 1, 8) := by kernel_rfl
/-- one int behind those of a slice that is the call's own -/
theorem wpList_append1 {ops : Array Oper} {rest : List Oper} {o : Oper} {a : Act} {w0 : World} {Q : Exit → Act → World → Prop} (hgd : o.guard = none) (s x : Operand)
    (ho : o.op = .call { callee := .builtin .append, args := #[s, x], argTypes := #[38, 38] }) (base : Nat) (u : Value) (l : List Nat) (c : Nat) (hs : a.eval s = u)
    (hx : a.eval x = .slice (some ⟨w0.heap.size, 0, none⟩) 1 1) (hown : w0.ownsRow base 3 1 u l.length (l.map intV)) (hlen : l.length ≤ 8) (hbase : base ≤ w0.heap.size)
    (h : ∀ v' w', w'.ownsRow base 3 1 v' (l ++ [c]).length ((l ++ [c]).map intV) → Below base w0 w' → wpList Try.prog ops Q rest (a.put o.dst v') w') :
    wpList Try.prog ops Q (o :: rest) a (w0.alloc (.cells #[.int .i64 (c : Nat)] 3)) := by
  obtain ⟨i0, hi, hz0, hz1, hz2⟩ := info_parts info_int
  refine wpList_append_own _ hgd s x 38 ho base 3 i0 (.int .i64 0) 1 8 Try.underlying38 hi hz0 hz1 hz2 rfl (by decide) u l.length _ hs (hown.alloc _) ⟨w0.heap.size, 0, none⟩ 1 1 [.int .i64 (c : Nat)] hx rfl ?_ ?_ ?_ ?_ ?_ ?_
  · intro j v hj
    match j, hj with
    | 0, hj =>
      cases hj
      exact cell_of_row _ _ 0 _ _ _ (al_new _ _)
  · intro v hv
    simp only [List.mem_singleton] at hv
    subst hv
    rfl
  · unfold maxLen; omega
  · omega
  · rw [al_size]; omega
  · intro v' w' h1 h2 _
    refine h v' w' (by simpa [intV] using h1) (((Below.refl _ _).alloc hbase _).grown h2 (by rw [al_size]; omega) fun k hk => (hown.lt k hk).1)
end Lv
end Go.Proofs.Ytelladgeehlkpaa
namespace Go.Proofs.Ytelladgeehlkpaa
open Go.RowKit
namespace Lv
/-- all joins of two, in their order -/
def joinsL (r : Nat → Nat → Bool) (n a b : Nat) : List Nat := (List.range n).filter fun c => r a c && r b c && bbB r n a b c
def isB (r : Nat → Nat → Bool) (a b c d : Nat) : Bool := r a c && r b c && bbB r d a b c
theorem isB_succ (r : Nat → Nat → Bool) (a b c d : Nat) : isB r a b c (d + 1) = (isB r a b c d && (!(r a d && r b d) || r c d)) := by
  simp only [isB, bbB, List.range_succ, List.all_append, List.all_cons, List.all_nil, Bool.and_true, Bool.and_assoc]
def jl (r : Nat → Nat → Bool) (n a b c : Nat) : List Nat := (List.range c).filter fun c => isB r a b c n
theorem jl_succ (r : Nat → Nat → Bool) (n a b c : Nat) : jl r n a b (c + 1) = if isB r a b c n = true then jl r n a b c ++ [c] else jl r n a b c := by
  unfold jl
  rw [List.range_succ, List.filter_append]
  cases h : isB r a b c n <;> simp [h]
theorem jl_len (r : Nat → Nat → Bool) (n a b c : Nat) : (jl r n a b c).length ≤ c := by
  have := List.length_filter_le (fun c => isB r a b c n) (List.range c)
  simpa [jl] using this
set_option maxHeartbeats 1000000 in
set_option maxRecDepth 100000 in
theorem rjoin_any (v : Value) (r : Nat → Nat → Bool) (n a b : Nat) (w : World) (ht : TabAt w v n r) (h1 : 1 ≤ n) (h8 : n ≤ 8) (ha : a < n) (hb : b < n) :
    Calls Try.prog 37 #[v, .int .i64 a, .int .i64 b] w (IntsPost (joinsL r n a b) w) := by
  obtain ⟨g, cap, R, C, rfl, htab⟩ := ht.form
  have HT0 := Lib.hid htab
  clear htab
  go_enter Try.func37, Try.ntmps37
  go_wp2
  go_loopw [7, 8] (fun u i wr => ∃ c : Nat, c ≤ n ∧ i = .int .i64 c ∧ Below w.heap.size w wr ∧ wr.ownsRow w.heap.size 3 1 u (jl r n a b c).length ((jl r n a b c).map intV)) (fun _ i _ => n - (intOf i).toNat)
  case atStart => exact ⟨0, by omega, rfl, Below.refl _ _, World.ownsRow_nil _ _ _ _⟩
  case round =>
    obtain ⟨c, hc, rfl, kb, hown⟩ := hrel
    obtain ⟨wo, rfl⟩ : ∃ wo : World, wo = wr := ⟨_, rfl⟩
    have HT := Lib.hid (tab_go HT0.out kb)
    have HO := Lib.hid hown
    clear hown
    by_cases hlt : c < n
    · have row_a := (HT.out a (by omega)).1
      have row_b := (HT.out b (by omega)).1
      have c_ac := (HT.out a (by omega)).2 c (by omega)
      have c_bc := (HT.out b (by omega)).2 c (by omega)
      cases g1 : r a c
      all_goals
        cases g2 : r b c
        all_goals
          rw [g1] at c_ac
          rw [g2] at c_bc
          go_wp2
          go_loop [9, 10] (fun u i => ∃ d : Nat, d ≤ n ∧ i = .int .i64 d ∧ u = .bool (isB r a b c d)) (fun _ i => n - (intOf i).toNat)
          case atStart => exact ⟨0, by omega, rfl, by simp [isB, bbB, g1, g2]⟩
          case round =>
            obtain ⟨d, hd, rfl, rfl⟩ := hrel
            by_cases hlt2 : d < n
            · have hst := isB_succ r a b c d
              have HS := Lib.hid hst
              clear hst c_ac c_bc
              have row_a := (HT.out a (by omega)).1
              have row_b := (HT.out b (by omega)).1
              have row_c := (HT.out c (by omega)).1
              have c_ad := (HT.out a (by omega)).2 d (by omega)
              have c_bd := (HT.out b (by omega)).2 d (by omega)
              have c_cd := (HT.out c (by omega)).2 d (by omega)
              cases k1 : r a d
              · rw [k1] at c_ad
                go_wp2
                go_round
                case rel => exact ⟨d + 1, by omega, by go_num, by rw [HS.out]; simp [k1]⟩
                case measure => simp [intOf]; omega
              · rw [k1] at c_ad
                cases k2 : r b d
                · rw [k2] at c_bd
                  go_wp2
                  go_round
                  case rel => exact ⟨d + 1, by omega, by go_num, by rw [HS.out]; simp [k2]⟩
                  case measure => simp [intOf]; omega
                · rw [k2] at c_bd
                  cases k3 : r c d
                  · rw [k3] at c_cd
                    go_wp2
                    go_round
                    case rel => exact ⟨d + 1, by omega, by go_num, by rw [HS.out]; simp [k1, k2, k3]⟩
                    case measure => simp [intOf]; omega
                  · rw [k3] at c_cd
                    go_wp2
                    go_round
                    case rel => exact ⟨d + 1, by omega, by go_num, by rw [HS.out]; simp [k3]⟩
                    case measure => simp [intOf]; omega
            · obtain rfl : d = n := by omega
              have hj := jl_succ r d a b c
              have HJ := Lib.hid hj
              clear hj
              cases q : isB r a b c d
              · go_wp2
                go_roundw
                case rel => exact ⟨c + 1, by omega, by go_num, kb, by rw [HJ.out, if_neg (by rw [q]; exact Bool.false_ne_true)]; exact HO.out⟩
                case measure => simp [intOf]; omega
              · have hlen := jl_len r d a b c
                go_wp2_with (at_builtin; refine wpList_append1 rfl _ _ rfl w.heap.size u7 (jl r d a b c) c rfl rfl HO.out (by omega) kb.size ?_; intro v' w' hown' hgrow)
                go_roundw
                case rel => exact ⟨c + 1, by omega, by go_num, kb.trans hgrow, by rw [HJ.out, if_pos q]; exact hown'⟩
                case measure => simp [intOf]; omega
    · obtain rfl : c = n := by omega
      go_wp2
      go_ret
      exact ⟨kb, _, rfl, ints_own HO.out⟩
end Lv
end Go.Proofs.Ytelladgeehlkpaa
