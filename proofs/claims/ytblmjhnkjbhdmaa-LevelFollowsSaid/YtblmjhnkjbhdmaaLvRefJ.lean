/- What the document's Join and Meet tell: all levels that are a join, or a meet. -/
import Derived.Test.YtblmjhnkjbhdmaaLvMath
namespace Go.Proofs.Ytblmjhnkjbhdmaa
open Go.RowKit
namespace Lv
/-- a slice of n rows of n bools -/
structure TabAt (w : World) (v : Value) (n : Nat) (r : Nat → Nat → Bool) : Prop where
  form : ∃ (g cap : Nat) (R C : Nat → Nat), v = .slice (some ⟨g, 0, none⟩) n cap ∧ ∀ a, a < n → w.cell? ⟨g, a, none⟩ = some (.slice (some ⟨R a, 0, none⟩) n (C a)) ∧ ∀ b, b < n → w.cell? ⟨R a, b, none⟩ = some (.bool (r a b))
theorem tab_go {w w1 : World} {g n : Nat} {R C : Nat → Nat} {r : Nat → Nat → Bool} (h : ∀ a, a < n → w.cell? ⟨g, a, none⟩ = some (.slice (some ⟨R a, 0, none⟩) n (C a)) ∧ ∀ b, b < n → w.cell? ⟨R a, b, none⟩ = some (.bool (r a b))) (hb : Below w.heap.size w w1) :
    ∀ a, a < n → w1.cell? ⟨g, a, none⟩ = some (.slice (some ⟨R a, 0, none⟩) n (C a)) ∧ ∀ b, b < n → w1.cell? ⟨R a, b, none⟩ = some (.bool (r a b)) :=
  fun a ha => ⟨cellB hb (h a ha).1, fun b hb' => cellB hb ((h a ha).2 b hb')⟩
theorem TabAt.go {w w1 : World} {v : Value} {n : Nat} {r : Nat → Nat → Bool} (h : TabAt w v n r) (hb : Below w.heap.size w w1) : TabAt w1 v n r := by
  obtain ⟨g, cap, R, C, hv, ht⟩ := h.form
  exact ⟨g, cap, R, C, hv, tab_go ht hb⟩
def intV (x : Nat) : Value := Value.int .i64 (x : Nat)
/-- a slice of ints that holds l -/
def IntsAt (w : World) (v : Value) (l : List Nat) : Prop := (l = [] ∧ v = .slice none 0 0) ∨ ∃ g cap, v = .slice (some ⟨g, 0, none⟩) l.length cap ∧ ∀ i x, l[i]? = some x → w.cell? ⟨g, i, none⟩ = some (.int .i64 (x : Nat))
def IntsPost (l : List Nat) (w : World) (e : Ending) (w' : World) : Prop := Below w.heap.size w w' ∧ ∃ v, e = .returned v ∧ IntsAt w' v l
theorem ints_own {w : World} {base : Nat} {v : Value} {l : List Nat} (h : w.ownsRow base 3 1 v l.length (l.map intV)) : IntsAt w v l := by
  rcases h.2 with ⟨hv, h0⟩ | ⟨g, cap, cur, rfl, _⟩
  · exact .inl ⟨List.length_eq_zero_iff.1 h0, hv⟩
  · refine .inr ⟨g, cap, rfl, fun i x hx => ?_⟩
    have hi := (List.getElem?_eq_some_iff.1 hx).1
    rw [h.cellAt i (by omega), List.getElem?_map, hx]
    rfl
/-- all joins of two, in their order -/
def joinsL (r : Nat → Nat → Bool) (n a b : Nat) : List Nat := (List.range n).filter fun c => r a c && r b c && bbB r n a b c
def isB (r : Nat → Nat → Bool) (a b c d : Nat) : Bool := r a c && r b c && bbB r d a b c
theorem isB_succ (r : Nat → Nat → Bool) (a b c d : Nat) : isB r a b c (d + 1) = (isB r a b c d && (!(r a d && r b d) || r c d)) := by
  simp only [isB, bbB, List.range_succ, List.all_append, List.all_cons, List.all_nil, Bool.and_true, Bool.and_assoc]
def jl (r : Nat → Nat → Bool) (n a b c : Nat) : List Nat := (List.range c).filter fun c => isB r a b c n
theorem jl_succ (r : Nat → Nat → Bool) (n a b c : Nat) : jl r n a b (c + 1) = if isB r a b c n = true then jl r n a b c ++ [c] else jl r n a b c := by
  unfold jl
  rw [List.range_succ, List.filter_append]
  cases h : isB r a b c n <;> simp [h]
theorem jl_len (r : Nat → Nat → Bool) (n a b c : Nat) : (jl r n a b c).length ≤ c := by
  have := List.length_filter_le (fun c => isB r a b c n) (List.range c)
  simpa [jl] using this
theorem info_int : (Try.prog.info? 3).map (fun i => (i.zero, i.size, i.bytes)) = some (some (.int .i64 0), 1, 8) := by kernel_rfl
/-- one int behind those of a slice that is the call's own -/
theorem wpList_append1 {ops : Array Oper} {rest : List Oper} {o : Oper} {a : Act} {w0 : World} {Q : Exit → Act → World → Prop} (hgd : o.guard = none) (s x : Operand)
    (ho : o.op = .call { callee := .builtin .append, args := #[s, x], argTypes := #[42, 42] }) (base : Nat) (u : Value) (l : List Nat) (c : Nat) (hs : a.eval s = u)
    (hx : a.eval x = .slice (some ⟨w0.heap.size, 0, none⟩) 1 1) (hown : w0.ownsRow base 3 1 u l.length (l.map intV)) (hlen : l.length ≤ 8) (hbase : base ≤ w0.heap.size)
    (h : ∀ v' w', w'.ownsRow base 3 1 v' (l ++ [c]).length ((l ++ [c]).map intV) → Below base w0 w' → wpList Try.prog ops Q rest (a.put o.dst v') w') :
    wpList Try.prog ops Q (o :: rest) a (w0.alloc (.cells #[.int .i64 (c : Nat)] 3)) := by
  obtain ⟨i0, hi, hz0, hz1, hz2⟩ := info_parts info_int
  refine wpList_append_own _ hgd s x 42 ho base 3 i0 (.int .i64 0) 1 8 Try.underlying42 hi hz0 hz1 hz2 rfl (by decide) u l.length _ hs (hown.alloc _) ⟨w0.heap.size, 0, none⟩ 1 1 [.int .i64 (c : Nat)] hx rfl ?_ ?_ ?_ ?_ ?_ ?_
  · intro j v hj
    match j, hj with
    | 0, hj =>
      cases hj
      exact cell_of_row _ _ 0 _ _ _ (al_new _ _)
  · intro v hv
    simp only [List.mem_singleton] at hv
    subst hv
    rfl
  · unfold maxLen; omega
  · omega
  · rw [al_size]; omega
  · intro v' w' h1 h2 _
    refine h v' w' (by simpa [intV] using h1) (((Below.refl _ _).alloc hbase _).grown h2 (by rw [al_size]; omega) fun k hk => (hown.lt k hk).1)
set_option maxHeartbeats 1000000 in
set_option maxRecDepth 100000 in
theorem rjoin_any (v : Value) (r : Nat → Nat → Bool) (n a b : Nat) (w : World) (ht : TabAt w v n r) (h1 : 1 ≤ n) (h8 : n ≤ 8) (ha : a < n) (hb : b < n) :
    Calls Try.prog 18 #[v, .int .i64 a, .int .i64 b] w (IntsPost (joinsL r n a b) w) := by
  obtain ⟨g, cap, R, C, rfl, htab⟩ := ht.form
  have HT0 := Lib.hid htab
  clear htab
  go_enter Try.func18, Try.ntmps18
  go_wp2
  go_loopw [7, 8] (fun u i wr => ∃ c : Nat, c ≤ n ∧ i = .int .i64 c ∧ Below w.heap.size w wr ∧ wr.ownsRow w.heap.size 3 1 u (jl r n a b c).length ((jl r n a b c).map intV)) (fun _ i _ => n - (intOf i).toNat)
  case atStart => exact ⟨0, by omega, rfl, Below.refl _ _, World.ownsRow_nil _ _ _ _⟩
  case round =>
    obtain ⟨c, hc, rfl, kb, hown⟩ := hrel
    obtain ⟨wo, rfl⟩ : ∃ wo : World, wo = wr := ⟨_, rfl⟩
    have HT := Lib.hid (tab_go HT0.out kb)
    have HO := Lib.hid hown
    clear hown
    by_cases hlt : c < n
    · have row_a := (HT.out a (by omega)).1
      have row_b := (HT.out b (by omega)).1
      have c_ac := (HT.out a (by omega)).2 c (by omega)
      have c_bc := (HT.out b (by omega)).2 c (by omega)
      cases g1 : r a c
      all_goals
        cases g2 : r b c
        all_goals
          rw [g1] at c_ac
          rw [g2] at c_bc
          go_wp2
          go_loop [9, 10] (fun u i => ∃ d : Nat, d ≤ n ∧ i = .int .i64 d ∧ u = .bool (isB r a b c d)) (fun _ i => n - (intOf i).toNat)
          case atStart => exact ⟨0, by omega, rfl, by simp [isB, bbB, g1, g2]⟩
          case round =>
            obtain ⟨d, hd, rfl, rfl⟩ := hrel
            by_cases hlt2 : d < n
            · have hst := isB_succ r a b c d
              have HS := Lib.hid hst
              clear hst c_ac c_bc
              have row_a := (HT.out a (by omega)).1
              have row_b := (HT.out b (by omega)).1
              have row_c := (HT.out c (by omega)).1
              have c_ad := (HT.out a (by omega)).2 d (by omega)
              have c_bd := (HT.out b (by omega)).2 d (by omega)
              have c_cd := (HT.out c (by omega)).2 d (by omega)
              cases k1 : r a d
              · rw [k1] at c_ad
                go_wp2
                go_round
                case rel => exact ⟨d + 1, by omega, by go_num, by rw [HS.out]; simp [k1]⟩
                case measure => simp [intOf]; omega
              · rw [k1] at c_ad
                cases k2 : r b d
                · rw [k2] at c_bd
                  go_wp2
                  go_round
                  case rel => exact ⟨d + 1, by omega, by go_num, by rw [HS.out]; simp [k2]⟩
                  case measure => simp [intOf]; omega
                · rw [k2] at c_bd
                  cases k3 : r c d
                  · rw [k3] at c_cd
                    go_wp2
                    go_round
                    case rel => exact ⟨d + 1, by omega, by go_num, by rw [HS.out]; simp [k1, k2, k3]⟩
                    case measure => simp [intOf]; omega
                  · rw [k3] at c_cd
                    go_wp2
                    go_round
                    case rel => exact ⟨d + 1, by omega, by go_num, by rw [HS.out]; simp [k3]⟩
                    case measure => simp [intOf]; omega
            · obtain rfl : d = n := by omega
              have hj := jl_succ r d a b c
              have HJ := Lib.hid hj
              clear hj
              cases q : isB r a b c d
              · go_wp2
                go_roundw
                case rel => exact ⟨c + 1, by omega, by go_num, kb, by rw [HJ.out, if_neg (by rw [q]; exact Bool.false_ne_true)]; exact HO.out⟩
                case measure => simp [intOf]; omega
              · have hlen := jl_len r d a b c
                go_wp2_with (at_builtin; refine wpList_append1 rfl _ _ rfl w.heap.size u7 (jl r d a b c) c rfl rfl HO.out (by omega) kb.size ?_; intro v' w' hown' hgrow)
                go_roundw
                case rel => exact ⟨c + 1, by omega, by go_num, kb.trans hgrow, by rw [HJ.out, if_pos q]; exact hown'⟩
                case measure => simp [intOf]; omega
    · obtain rfl : c = n := by omega
      go_wp2
      go_ret
      exact ⟨kb, _, rfl, ints_own HO.out⟩
set_option maxHeartbeats 1000000 in
set_option maxRecDepth 100000 in
theorem rmeet_any (v : Value) (r : Nat → Nat → Bool) (n a b : Nat) (w : World) (ht : TabAt w v n r) (h1 : 1 ≤ n) (h8 : n ≤ 8) (ha : a < n) (hb : b < n) :
    Calls Try.prog 20 #[v, .int .i64 a, .int .i64 b] w (IntsPost (joinsL (trn r) n a b) w) := by
  obtain ⟨g, cap, R, C, rfl, htab⟩ := ht.form
  have HT0 := Lib.hid htab
  clear htab
  go_enter Try.func20, Try.ntmps20
  go_wp2
  go_loopw [7, 8] (fun u i wr => ∃ c : Nat, c ≤ n ∧ i = .int .i64 c ∧ Below w.heap.size w wr ∧ wr.ownsRow w.heap.size 3 1 u (jl (trn r) n a b c).length ((jl (trn r) n a b c).map intV)) (fun _ i _ => n - (intOf i).toNat)
  case atStart => exact ⟨0, by omega, rfl, Below.refl _ _, World.ownsRow_nil _ _ _ _⟩
  case round =>
    obtain ⟨c, hc, rfl, kb, hown⟩ := hrel
    obtain ⟨wo, rfl⟩ : ∃ wo : World, wo = wr := ⟨_, rfl⟩
    have HT := Lib.hid (tab_go HT0.out kb)
    have HO := Lib.hid hown
    clear hown
    by_cases hlt : c < n
    · have row_c := (HT.out c (by omega)).1
      have c_ca := (HT.out c (by omega)).2 a (by omega)
      have c_cb := (HT.out c (by omega)).2 b (by omega)
      cases g1 : r c a
      all_goals
        cases g2 : r c b
        all_goals
          rw [g1] at c_ca
          rw [g2] at c_cb
          go_wp2
          go_loop [9, 10] (fun u i => ∃ d : Nat, d ≤ n ∧ i = .int .i64 d ∧ u = .bool (isB (trn r) a b c d)) (fun _ i => n - (intOf i).toNat)
          case atStart => exact ⟨0, by omega, rfl, by simp [isB, bbB, trn, g1, g2]⟩
          case round =>
            obtain ⟨d, hd, rfl, rfl⟩ := hrel
            by_cases hlt2 : d < n
            · have hst := isB_succ (trn r) a b c d
              have HS := Lib.hid hst
              clear hst c_ca c_cb
              have row_d := (HT.out d (by omega)).1
              have c_da := (HT.out d (by omega)).2 a (by omega)
              have c_db := (HT.out d (by omega)).2 b (by omega)
              have c_dc := (HT.out d (by omega)).2 c (by omega)
              cases k1 : r d a
              · rw [k1] at c_da
                go_wp2
                go_round
                case rel => exact ⟨d + 1, by omega, by go_num, by rw [HS.out]; simp [trn, k1]⟩
                case measure => simp [intOf]; omega
              · rw [k1] at c_da
                cases k2 : r d b
                · rw [k2] at c_db
                  go_wp2
                  go_round
                  case rel => exact ⟨d + 1, by omega, by go_num, by rw [HS.out]; simp [trn, k2]⟩
                  case measure => simp [intOf]; omega
                · rw [k2] at c_db
                  cases k3 : r d c
                  · rw [k3] at c_dc
                    go_wp2
                    go_round
                    case rel => exact ⟨d + 1, by omega, by go_num, by rw [HS.out]; simp [trn, k1, k2, k3]⟩
                    case measure => simp [intOf]; omega
                  · rw [k3] at c_dc
                    go_wp2
                    go_round
                    case rel => exact ⟨d + 1, by omega, by go_num, by rw [HS.out]; simp [trn, k3]⟩
                    case measure => simp [intOf]; omega
            · obtain rfl : d = n := by omega
              have hj := jl_succ (trn r) d a b c
              have HJ := Lib.hid hj
              clear hj
              cases q : isB (trn r) a b c d
              · go_wp2
                go_roundw
                case rel => exact ⟨c + 1, by omega, by go_num, kb, by rw [HJ.out, if_neg (by rw [q]; exact Bool.false_ne_true)]; exact HO.out⟩
                case measure => simp [intOf]; omega
              · have hlen := jl_len (trn r) d a b c
                go_wp2_with (at_builtin; refine wpList_append1 rfl _ _ rfl w.heap.size u7 (jl (trn r) d a b c) c rfl rfl HO.out (by omega) kb.size ?_; intro v' w' hown' hgrow)
                go_roundw
                case rel => exact ⟨c + 1, by omega, by go_num, kb.trans hgrow, by rw [HJ.out, if_pos q]; exact hown'⟩
                case measure => simp [intOf]; omega
    · obtain rfl : c = n := by omega
      go_wp2
      go_ret
      exact ⟨kb, _, rfl, ints_own HO.out⟩
end Lv
end Go.Proofs.Ytblmjhnkjbhdmaa
