/- Whole numbers without bound: Num. -/
import Derived.Test.YtpddkchnogfjkaaGreatDoorNrShift
namespace Go.Proofs.YtpddkchnogfjkaaGreatDoor
open Go.RowKit
namespace Nm
/-- a number and whether it is held -/
def numA : Option (Int × Nat) → Value
  | some (c, s) => .tuple #[nv c s, .bool true]
  | none => .tuple #[nv 0 0, .bool false]
theorem strip_0 (s : Nat) : strip s 0 = (0, 0) := by
  induction s with
  | zero => rfl
  | succ s ih => unfold strip; rw [if_pos rfl]; exact ih
theorem hold_0 (s : Nat) : hold 0 s = some (0, 0) := by
  unfold hold
  rw [show (0 : Int).natAbs = 0 from rfl, strip_0]; rfl
theorem hold_is {z : Int} {s t c : Nat} (h : strip t c = strip s z.natAbs) (he : t = 0 ∨ c % 10 ≠ 0) : hold z s = if 9 < t ∨ 1000000000000000 ≤ c then none else some (if z < 0 then -(c : Int) else (c : Int), t) := by
  rw [strip_end he] at h
  unfold hold
  rw [← h]
theorem dv_drop_le (l : List Nat) (i : Nat) : dv (l.drop i) ≤ dv l := by
  conv => rhs; rw [← List.take_append_drop i l, dv_app]
  have : 0 < 10 ^ (l.take i).length := Nat.pow_pos (by decide)
  have := Nat.le_mul_of_pos_left (dv (l.drop i)) this
  omega
theorem dgs_head {c : Nat} (h : c ≠ 0) : (dgs c)[0]? = some (c % 10) ∧ (dgs c).tail = dgs (c / 10) := by rw [dgs_pos h]; exact ⟨rfl, rfl⟩
theorem dgs_ne {c : Nat} (h : c ≠ 0) : 0 < (dgs c).length := by rw [dgs_pos h]; simp
/-- a row without its first digit -/
theorem Rw.tail {w : World} {k o cap n : Nat} {l : List Nat} (h : Rw w (.slice (some ⟨k, o, none⟩) n cap) l) (hl : 0 < l.length) :
    Rw w (.slice (if cap = 1 then some ⟨k, o, none⟩ else some ⟨k, o + 1, none⟩) (n - 1) (cap - 1)) l.tail := by
  rcases h with ⟨h, _⟩ | ⟨k', o', cap', he, hc, hk, h⟩
  · simp at h
  · simp only [Value.slice.injEq, Option.some.injEq, Addr.mk.injEq, and_true] at he
    obtain ⟨⟨rfl, rfl⟩, rfl, rfl⟩ := he
    by_cases h1 : cap = 1
    · subst h1
      have e : l.tail = [] := List.length_eq_zero_iff.1 (by rw [List.length_tail]; omega)
      rw [if_pos rfl, e]
      exact Or.inr ⟨k, o, 0, by rw [show l.length - 1 = 0 by omega]; rfl, by simp, hk, fun j d hj => by simp at hj⟩
    · rw [if_neg h1]
      refine Or.inr ⟨k, o + 1, cap - 1, by rw [List.length_tail], by rw [List.length_tail]; omega, hk, fun j d hj => ?_⟩
      rw [List.getElem?_tail] at hj
      have := h (j + 1) d hj
      rw [show o + (j + 1) = o + 1 + j by omega] at this
      exact this
theorem Rw.len {w : World} {a : Option Addr} {n cap : Nat} {l : List Nat} (h : Rw w (.slice a n cap) l) : n = l.length := by
  obtain ⟨_, _, he, _⟩ := h.form
  simp only [Value.slice.injEq] at he
  exact he.2.1
theorem Rw.cap {w : World} {a : Option Addr} {n cap : Nat} {l : List Nat} (h : Rw w (.slice a n cap) l) : n ≤ cap := by
  obtain ⟨_, _, he, hc, _⟩ := h.form
  simp only [Value.slice.injEq] at he
  omega
theorem Rw.ptr {w : World} {a : Option Addr} {n cap : Nat} {l : List Nat} (h : Rw w (.slice a n cap) l) (hl : 0 < l.length) : ∃ k o, a = some ⟨k, o, none⟩ := by
  obtain ⟨_, _, he, _, h2⟩ := h.form
  simp only [Value.slice.injEq] at he
  obtain ⟨k, o, e, _⟩ := h2 hl
  exact ⟨k, o, he.1.trans e⟩
theorem Rw.lt {w : World} {k o n cap : Nat} {l : List Nat} (h : Rw w (.slice (some ⟨k, o, none⟩) n cap) l) : k < w.heap.size := by
  rcases h with ⟨h, _⟩ | ⟨k', o', cap', he, _, hk, _⟩
  · simp at h
  · simp only [Value.slice.injEq, Option.some.injEq, Addr.mk.injEq, and_true] at he
    omega
theorem Rw.cell {w : World} {k o n cap j d : Nat} {l : List Nat} (h : Rw w (.slice (some ⟨k, o, none⟩) n cap) l) (hj : l[j]? = some d) : w.cell? ⟨k, o + j, none⟩ = some (.int .i64 (d : Nat)) := by
  rcases h with ⟨h, _⟩ | ⟨k', o', cap', he, _, hk, h⟩
  · simp at h
  · simp only [Value.slice.injEq, Option.some.injEq, Addr.mk.injEq, and_true] at he
    obtain ⟨⟨rfl, rfl⟩, _⟩ := he
    exact h j d hj
set_option maxRecDepth 100000 in
set_option maxHeartbeats 8000000 in
theorem num_nonneg (b : Bool) (v : Value) (l : List Nat) (s : Nat) (z : Int) (w : World) (hr : Rw w v l) (hd : Dg l) (hl : l.length ≤ 1000000000) (hs : s ≤ 1000000000) (hz : z = sg b (dv l)) :
    Calls Tryz.prog 27 #[.agg #[.bool b, v], .int .i64 (s : Int)] w fun e w' => e = .returned (numA (hold z s)) ∧ Below w.heap.size w w' := by
  obtain ⟨N, hN⟩ : ∃ N, dv l = N := ⟨_, rfl⟩
  rw [hN] at hz
  have hzN : z.natAbs = N := by rw [hz, abs_sg]
  obtain ⟨g, hg⟩ : ∃ g, ng b N = g := ⟨_, rfl⟩
  have HG : Hid (g = decide (z < 0)) := Lib.hid (by rw [← hg, ng_sg, hz])
  have htrim : ∀ w', Hid (Below w.heap.size w w') → Calls Tryz.prog 26 #[.agg #[.bool b, v]] w' (fun e w'' => ∃ ao n cap, e = .returned (.agg #[.bool g, .slice ao n cap]) ∧ Hid (Rw w'' (.slice ao n cap) (dgs N)) ∧ Below w'.heap.size w' w'') := fun w' h => by
    refine (trim_any b v l w' (hr.on h.out) hd hl).mono ?_
    rintro e w'' ⟨v', rfl, h1, h2⟩
    rw [hN] at h1 ⊢
    rw [hg]
    obtain ⟨ao, n, cap, rfl⟩ := h1.sl
    exact ⟨ao, n, cap, rfl, Lib.hid h1, h2⟩
  have HZN := Lib.hid hzN
  have hsl := hr.sl
  obtain ⟨vo, vn, vc, rfl⟩ := hsl
  clear hr hd hl hz hzN hg hN
  go_enter Tryz.func27, Tryz.ntmps27
  go_wp2_with (go_at_call 26; refine (htrim _ (Lib.hid (bA2 _ _ _))).mono ?_; rintro e w1 ⟨ao1, n1, c1, rfl, HR1, b1⟩; have HB1 := Lib.hid b1; obtain ⟨e0, e1, f0, f1⟩ := boxed b1 w.heap.size (.bool b) (.slice vo vn vc) (by simp [go_sem]) (by simp [go_sem]) (by simp [go_sem]) (by simp [go_sem]); clear b1)
  have HL0 : Hid (Lb w1 w.heap.size (.bool b) (.slice vo vn vc)) := Lib.hid (((Lb.new w _ _).alloc _).on HB1.out)
  have HX0 : Hid (Bx w1 (w.heap.size + 1) (.int .i64 0) (.int .i64 0)) := Lib.hid (Bx.on ⟨by simp [go_sem], by simp [go_sem], by simp [go_sem], by simp [go_sem]⟩ HB1.out)
  have HB0 : Hid (Below w.heap.size w w1) := Lib.hid (bT (bA2 _ _ _) HB1.out)
  have HR0 : Hid (Rw ((w1.setCell ⟨w.heap.size, 0, none⟩ (.bool g)).setCell ⟨w.heap.size, 1, none⟩ (.slice ao1 n1 c1)) (.slice ao1 n1 c1) (dgs N)) := Lib.hid (HR1.out.box HL0.out.bx)
  have HL1 : Hid (Lb ((w1.setCell ⟨w.heap.size, 0, none⟩ (.bool g)).setCell ⟨w.heap.size, 1, none⟩ (.slice ao1 n1 c1)) w.heap.size (.bool g) (.slice ao1 n1 c1)) := Lib.hid ((HL0.out.set0 _).set1 _)
  have HX1 : Hid (Bx ((w1.setCell ⟨w.heap.size, 0, none⟩ (.bool g)).setCell ⟨w.heap.size, 1, none⟩ (.slice ao1 n1 c1)) (w.heap.size + 1) (.int .i64 0) (.int .i64 0)) := Lib.hid ((HX0.out.far (by simp) _).far (by simp) _)
  have HBB : Hid (Below w.heap.size w ((w1.setCell ⟨w.heap.size, 0, none⟩ (.bool g)).setCell ⟨w.heap.size, 1, none⟩ (.slice ao1 n1 c1))) := Lib.hid ((HB0.out.setCell (by simp) _).setCell (by simp) _)
  clear e0 e1 f0 f1 HB1 HR1
  go_loopw [1] (fun sc wr => ∃ (t c n cap : Nat) (ao : Option Addr), sc = .int .i64 (t : Nat) ∧ t ≤ s ∧ Hid (strip t c = strip s N) ∧ Hid (c = 0 → N = 0) ∧ Hid (Rw wr (.slice ao n cap) (dgs c)) ∧ Hid (Lb wr w.heap.size (.bool g) (.slice ao n cap)) ∧ Hid (Bx wr (w.heap.size + 1) (.int .i64 0) (.int .i64 0)) ∧ Hid (Below w.heap.size w wr)) (fun sc _ => (intOf sc).toNat)
  case atStart => exact ⟨s, N, n1, c1, ao1, rfl, Nat.le_refl _, Lib.hid rfl, Lib.hid id, HR0, HL1, HX1, HBB⟩
  case round =>
    clear HL0 HX0 HB0 HR0 HL1 HX1 HBB htrim
    obtain ⟨t, c, n, cap, ao, rfl, ht, HS, HC, HRw, HL, HR, HBel⟩ := hrel
    by_cases hc0 : c = 0
    · subst hc0
      have hn0 : n = 0 := by have := HRw.out.len; rw [dgs_zero] at this; exact this
      subst hn0
      have hz0 : z = 0 := by have := HC.out rfl; have := HZN.out; omega
      have E : Hid (hold z s = some (0, 0)) := Lib.hid (by rw [hz0, hold_0])
      clear hz0
      obtain ⟨l0, l1, m0, m1⟩ := HL.out.bx
      obtain ⟨r0, r1, s0, s1⟩ := HR.out
      by_cases htp : 0 < t
      · go_wp2
        obtain ⟨z0, z1, _, _⟩ := HR.out.put (.int .i64 0) (.int .i64 0)
        simp [bodyPost, results, Tryz.results27, go_sem, z0, z1]
        exact ⟨by rw [E.out]; rfl, (HBel.out.setCell (by simp) _).setCell (by simp) _⟩
      · obtain rfl : t = 0 := by omega
        go_wp2
        obtain ⟨z0, z1, _, _⟩ := HR.out.put (.int .i64 0) (.int .i64 0)
        simp [bodyPost, results, Tryz.results27, go_sem, z0, z1]
        exact ⟨by rw [E.out]; rfl, (HBel.out.setCell (by simp) _).setCell (by simp) _⟩
    obtain ⟨k, o, rfl⟩ := HRw.out.ptr (dgs_ne hc0)
    have hn1 : 0 < n := by have := HRw.out.len; have := dgs_ne hc0; omega
    have hn2 : ((n : Int) == 0) = false := by simp; omega
    by_cases ht0 : t = 0
    · subst ht0
      have HA := Lib.hid (hold_is (z := z) (s := s) (t := 0) (c := c) (by rw [HZN.out]; exact HS.out) (Or.inl rfl))
      clear HS HC
      have hnl : n = (dgs c).length := HRw.out.len
      have hnc : n ≤ cap := HRw.out.cap
      have hkl : k < wr.heap.size := HRw.out.lt
      have HN := Lib.hid hnl
      by_cases g1 : 15 < n
      · have E : Hid (hold z s = none) := Lib.hid (by
          rw [HA.out, if_pos (Or.inr ?_)]
          refine Decidable.byContradiction fun g => ?_
          have := dgs_len.2 (show c < 10 ^ 15 by omega)
          omega)
        clear HA hnl
        obtain ⟨l0, l1, m0, m1⟩ := HL.out.bx
        obtain ⟨r0, r1, s0, s1⟩ := HR.out
        go_wp2
        obtain ⟨z0, z1, _, _⟩ := HR.out.put (.int .i64 0) (.int .i64 0)
        simp [bodyPost, results, Tryz.results27, go_sem, z0, z1]
        exact ⟨by rw [E.out]; rfl, (HBel.out.setCell (by simp) _).setCell (by simp) _⟩
      have hc15 : c < 1000000000000000 := dgs_len.1 (show (dgs c).length ≤ 15 by omega)
      clear hnl
      obtain ⟨l0, l1, m0, m1⟩ := HL.out.bx
      obtain ⟨r0, r1, s0, s1⟩ := HR.out
      have hdv := fun i => dv_drop_le (dgs c) i
      rw [dv_dgs] at hdv
      have HDV := Lib.hid hdv
      clear hdv
      go_wp2
      go_loop [6, 7] (fun cc i => ∃ (j e : Nat), i = .int .i64 ((j : Int) - 1) ∧ j ≤ n ∧ cc = .int .i64 (e : Nat) ∧ e ≤ c ∧ Hid (e = dv ((dgs c).drop j))) (fun _ i => (intOf i + 1).toNat)
      case atStart => exact ⟨n, 0, rfl, Nat.le_refl _, rfl, by omega, Lib.hid (by rw [List.drop_eq_nil_of_le (by have := HN.out; omega)]; rfl)⟩
      case round =>
        obtain ⟨j, e, rfl, hj, rfl, hec, HE⟩ := hrel
        by_cases j0 : j = 0
        · subst j0
          have HE2 : Hid (e = c) := Lib.hid (by rw [HE.out, List.drop_zero, dv_dgs])
          by_cases hz : z < 0
          · have E : Hid (hold z s = some (-(e : Int), 0)) := Lib.hid (by rw [HA.out, if_neg (by omega), if_pos hz, HE2.out])
            have hgg := HG.out.trans (decide_eq_true hz)
            clear HE HE2 HA
            subst hgg
            go_wp2
            obtain ⟨z0, z1, _, _⟩ := HR.out.put (.int .i64 (-(e : Int))) (.int .i64 0)
            simp [bodyPost, results, Tryz.results27, go_sem, z0, z1]
            exact ⟨by rw [E.out]; rfl, (HBel.out.setCell (by simp) _).setCell (by simp) _⟩
          · have E : Hid (hold z s = some ((e : Int), 0)) := Lib.hid (by rw [HA.out, if_neg (by omega), if_neg hz, HE2.out])
            have hgg := HG.out.trans (decide_eq_false hz)
            clear HE HE2 HA
            subst hgg
            go_wp2
            obtain ⟨z0, z1, _, _⟩ := HR.out.put (.int .i64 (e : Int)) (.int .i64 0)
            simp [bodyPost, results, Tryz.results27, go_sem, z0, z1]
            exact ⟨by rw [E.out]; rfl, (HBel.out.setCell (by simp) _).setCell (by simp) _⟩
        · obtain ⟨m, rfl⟩ : ∃ m, j = m + 1 := ⟨j - 1, by omega⟩
          have hml : m < (dgs c).length := by have := HN.out; omega
          obtain ⟨d, hd⟩ : ∃ d, (dgs c)[m]? = some d := ⟨(dgs c)[m], List.getElem?_eq_getElem hml⟩
          have hcl : wr.cell? ⟨k, o + m, none⟩ = some (.int .i64 (d : Nat)) := HRw.out.cell hd
          have hd10 := Dg_dgs c d (List.mem_of_getElem? hd)
          have HE' : Hid (10 * e + d = dv ((dgs c).drop m)) := Lib.hid (by
            obtain ⟨h1, h2⟩ := List.getElem?_eq_some_iff.1 hd
            rw [dv_drop h1, h2, ← HE.out]; omega)
          have hle : 10 * e + d ≤ c := by rw [HE'.out]; exact HDV.out m
          clear HE hd hml
          have em : ((m + 1 : Nat) : Int) - 1 = (m : Int) := by omega
          rw [em]
          clear em
          go_wp2
          go_round
          case rel => exact ⟨m, 10 * e + d, by go_num, by omega, by go_num, hle, HE'⟩
          case measure => simp [intOf]
    have hfst : wr.cell? ⟨k, o, none⟩ = some (.int .i64 (((c % 10 : Nat)) : Int)) := by
      have := HRw.out.cell (dgs_head hc0).1
      rw [Nat.add_zero] at this
      exact this
    by_cases c10 : c % 10 = 0
    · rw [c10] at hfst
      have HS' : Hid (strip (t - 1) (c / 10) = strip s N) := Lib.hid (by rw [strip_go c10 (by omega)]; exact HS.out)
      have HC' : Hid (c / 10 = 0 → N = 0) := Lib.hid (fun h => by omega)
      have hnc : n ≤ cap := HRw.out.cap
      have HRw' := Lib.hid (by have h := HRw.out.tail (dgs_ne hc0); rw [(dgs_head hc0).2] at h; exact h)
      obtain ⟨l0, l1, m0, m1⟩ := HL.out.bx
      clear HS HC
      by_cases hcap : cap = 1
      · subst hcap
        obtain rfl : n = 1 := by omega
        rw [if_pos rfl] at HRw'
        go_wp2
        go_roundw
        case rel => exact ⟨t - 1, c / 10, 0, 0, _, by go_num, by omega, HS', HC', Lib.hid (HRw'.out.apart l1 (by intro n; simp)), Lib.hid (HL.out.set1 _), Lib.hid (HR.out.far (by simp) _), Lib.hid (HBel.out.setCell (by simp) _)⟩
        case measure => simp [intOf]; omega
      · rw [if_neg hcap] at HRw'
        go_wp2
        go_roundw
        case rel => exact ⟨t - 1, c / 10, n - 1, cap - 1, _, by go_num, by omega, HS', HC', Lib.hid (HRw'.out.apart l1 (by intro n; simp)), Lib.hid (HL.out.set1 _), Lib.hid (HR.out.far (by simp) _), Lib.hid (HBel.out.setCell (by simp) _)⟩
        case measure => simp [intOf]; omega
    · have HA := Lib.hid (hold_is (z := z) (s := s) (t := t) (c := c) (by rw [HZN.out]; exact HS.out) (Or.inr c10))
      obtain ⟨u, hu⟩ : ∃ u : Nat, c % 10 = u := ⟨_, rfl⟩
      rw [hu] at hfst c10
      have hu0 : ((u : Int) == 0) = false := by simp; omega
      clear HS HC hu
      have hnl : n = (dgs c).length := HRw.out.len
      have hnc : n ≤ cap := HRw.out.cap
      have hkl : k < wr.heap.size := HRw.out.lt
      have HN := Lib.hid hnl
      by_cases g1 : 15 < n
      · have E : Hid (hold z s = none) := Lib.hid (by
          rw [HA.out, if_pos (Or.inr ?_)]
          refine Decidable.byContradiction fun g => ?_
          have := dgs_len.2 (show c < 10 ^ 15 by omega)
          omega)
        clear HA hnl
        obtain ⟨l0, l1, m0, m1⟩ := HL.out.bx
        obtain ⟨r0, r1, s0, s1⟩ := HR.out
        go_wp2
        obtain ⟨z0, z1, _, _⟩ := HR.out.put (.int .i64 0) (.int .i64 0)
        simp [bodyPost, results, Tryz.results27, go_sem, z0, z1]
        exact ⟨by rw [E.out]; rfl, (HBel.out.setCell (by simp) _).setCell (by simp) _⟩
      have hc15 : c < 1000000000000000 := dgs_len.1 (show (dgs c).length ≤ 15 by omega)
      clear hnl
      obtain ⟨l0, l1, m0, m1⟩ := HL.out.bx
      obtain ⟨r0, r1, s0, s1⟩ := HR.out
      by_cases g2 : 9 < t
      · have E : Hid (hold z s = none) := Lib.hid (by rw [HA.out, if_pos (Or.inl g2)])
        clear HA
        go_wp2
        obtain ⟨z0, z1, _, _⟩ := HR.out.put (.int .i64 0) (.int .i64 0)
        simp [bodyPost, results, Tryz.results27, go_sem, z0, z1]
        exact ⟨by rw [E.out]; rfl, (HBel.out.setCell (by simp) _).setCell (by simp) _⟩
      have hdv := fun i => dv_drop_le (dgs c) i
      rw [dv_dgs] at hdv
      have HDV := Lib.hid hdv
      clear hdv
      go_wp2
      go_loop [6, 7] (fun cc i => ∃ (j e : Nat), i = .int .i64 ((j : Int) - 1) ∧ j ≤ n ∧ cc = .int .i64 (e : Nat) ∧ e ≤ c ∧ Hid (e = dv ((dgs c).drop j))) (fun _ i => (intOf i + 1).toNat)
      case atStart => exact ⟨n, 0, rfl, Nat.le_refl _, rfl, by omega, Lib.hid (by rw [List.drop_eq_nil_of_le (by have := HN.out; omega)]; rfl)⟩
      case round =>
        obtain ⟨j, e, rfl, hj, rfl, hec, HE⟩ := hrel
        by_cases j0 : j = 0
        · subst j0
          have HE2 : Hid (e = c) := Lib.hid (by rw [HE.out, List.drop_zero, dv_dgs])
          by_cases hz : z < 0
          · have E : Hid (hold z s = some (-(e : Int), t)) := Lib.hid (by rw [HA.out, if_neg (by omega), if_pos hz, HE2.out])
            have hgg := HG.out.trans (decide_eq_true hz)
            clear HE HE2 HA
            subst hgg
            go_wp2
            obtain ⟨z0, z1, _, _⟩ := HR.out.put (.int .i64 (-(e : Int))) (.int .i64 (t : Int))
            simp [bodyPost, results, Tryz.results27, go_sem, z0, z1]
            exact ⟨by rw [E.out]; rfl, (HBel.out.setCell (by simp) _).setCell (by simp) _⟩
          · have E : Hid (hold z s = some ((e : Int), t)) := Lib.hid (by rw [HA.out, if_neg (by omega), if_neg hz, HE2.out])
            have hgg := HG.out.trans (decide_eq_false hz)
            clear HE HE2 HA
            subst hgg
            go_wp2
            obtain ⟨z0, z1, _, _⟩ := HR.out.put (.int .i64 (e : Int)) (.int .i64 (t : Int))
            simp [bodyPost, results, Tryz.results27, go_sem, z0, z1]
            exact ⟨by rw [E.out]; rfl, (HBel.out.setCell (by simp) _).setCell (by simp) _⟩
        · obtain ⟨m, rfl⟩ : ∃ m, j = m + 1 := ⟨j - 1, by omega⟩
          have hml : m < (dgs c).length := by have := HN.out; omega
          obtain ⟨d, hd⟩ : ∃ d, (dgs c)[m]? = some d := ⟨(dgs c)[m], List.getElem?_eq_getElem hml⟩
          have hcl : wr.cell? ⟨k, o + m, none⟩ = some (.int .i64 (d : Nat)) := HRw.out.cell hd
          have hd10 := Dg_dgs c d (List.mem_of_getElem? hd)
          have HE' : Hid (10 * e + d = dv ((dgs c).drop m)) := Lib.hid (by
            obtain ⟨h1, h2⟩ := List.getElem?_eq_some_iff.1 hd
            rw [dv_drop h1, h2, ← HE.out]; omega)
          have hle : 10 * e + d ≤ c := by rw [HE'.out]; exact HDV.out m
          clear HE hd hml
          have em : ((m + 1 : Nat) : Int) - 1 = (m : Int) := by omega
          rw [em]
          clear em
          go_wp2
          go_round
          case rel => exact ⟨m, 10 * e + d, by go_num, by omega, by go_num, hle, HE'⟩
          case measure => simp [intOf]
end Nm
end Go.Proofs.YtpddkchnogfjkaaGreatDoor
