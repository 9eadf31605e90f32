/- The document's Same, of all values. -/
import Derived.Test.YtkmfoclhhnhkdaaJvSize
import Derived.StillTailTactics
import Derived.Deep.QuietTactic
import Derived.BigQuiet
namespace Go.Proofs.Ytkmfoclhhnhkdaa
open Go.RowKit
namespace Jv
open _root_.Go.Proofs.Ytkmfoclhhnhkdaa.Nm
set_option maxRecDepth 100000 in
theorem run_eqN (a b c d : Int) (w : World) : (Op.equalIn 10000 23 (.agg #[.int .i64 a, .int .i64 b]) (.agg #[.int .i64 c, .int .i64 d])).run Try.prog w = .ok (a == c && b == d) w := by
  by_cases h : a = c <;> by_cases h' : b = d <;> simp [go_sem, h, h']
theorem str_same (a : ByteArray) : (a.toList == a.toList) = true := by simp
theorem bN {w a : World} (h : Below w.heap.size w a) (n : Nat) : Below w.heap.size w (a.drewN n) := by
  cases n with
  | zero => exact h
  | succ n =>
    have e : (a.drewN n).drew = a.drewN (n + 1) := by rfl
    rw [← e]
    exact (bN h n).drew
theorem Vb.drewN {w : World} {k : Nat} {cs : Array Value} (h : Vb w k cs) (n : Nat) : Vb (w.drewN n) k cs := h.on (bN (Below.refl _ _) n)
theorem At6.drewN {w : World} {b p n : Nat} {x : Six} (h : At6 w b p x) (hk : b < w.heap.size) : At6 (w.drewN n) b p x := h.on hk (bN (Below.refl _ _) n)
set_option maxRecDepth 100000 in
set_option maxHeartbeats 8000000 in
theorem rsame_any : ∀ (f g : Nat) (x y : Six) (tx ty : JV) (w : World), VT w f x tx → VT w g y ty →
    Calls Try.prog 12 #[x.val, y.val] w fun e w' => e = .returned (.bool (sameB tx ty)) ∧ Below w.heap.size w w' := by
  intro f
  induction f with
  | zero => intro g x y tx ty w hv; exact hv.elim
  | succ f ih =>
    intro g x y tx ty w hv hw
    cases g with
    | zero => exact hw.elim
    | succ g =>
    obtain ⟨b, hb⟩ : ∃ b : Bool, sameB tx ty = b := ⟨_, rfl⟩
    rw [hb]
    have HBQ := Lib.hid hb
    have IH := Lib.hid ih
    clear hb ih
    obtain ⟨e1, e2, e3, e4, e5, _, l, hl, hll, hlt⟩ := hv
    obtain ⟨d1, d2, d3, d4, d5, _, l', hl', hll', hlt'⟩ := hw
    obtain ⟨k, c, s, st, iv, kv⟩ := x
    obtain ⟨k', c', s', st', iv', kv'⟩ := y
    simp only at e1 e2 e3 e4 d1 d2 d3 d4 e5 d5 hl hl'
    have HEX : Hid (sameB tx ty = true ↔ (k = k' ∧ c = c' ∧ s = s' ∧ st = st' ∧ tx.items = ty.items ∧ tx.keys = ty.keys)) := Lib.hid (by
      rw [sameB_iff, JV.ext_iff', e1, e2, e3, e4, d1, d2, d3, d4])
    have hmx : l.length ≤ maxLen := by obtain ⟨_, _, q1, q2, q3, _⟩ := hl; omega
    have hmy : l'.length ≤ maxLen := by obtain ⟨_, _, q1, q2, q3, _⟩ := hl'; omega
    have hmk : tx.keys.length ≤ maxLen := by obtain ⟨_, _, q1, q2, q3, _⟩ := e5; omega
    have hmk' : ty.keys.length ≤ maxLen := by obtain ⟨_, _, q1, q2, q3, _⟩ := d5; omega
    unfold maxLen at hmx hmy hmk hmk'
    obtain ⟨ao, cap, rfl, hc, h⟩ := hl.form
    obtain ⟨ao', cap', rfl, hc', h'⟩ := hl'.form
    obtain ⟨ko, kcap, rfl, hkc, hk⟩ := e5.form
    obtain ⟨ko', kcap', rfl, hkc', hk'⟩ := d5.form
    have H := Lib.hid h
    have H' := Lib.hid h'
    have HK := Lib.hid hk
    have HK' := Lib.hid hk'
    have HL := Lib.hid hll
    have HL' := Lib.hid hll'
    have HT := Lib.hid hlt
    have HT' := Lib.hid hlt'
    clear h h' hk hk' hll hll' hlt hlt' e1 e2 e3 e4 d1 d2 d3 d4 e5 d5 hl hl'
    have hne := run_eqN c s c' s'
    unfold Six.val vV
    by_cases q1 : ¬ (k = k')
    · have HF : Hid (b = false) := Lib.hid (by rw [← HBQ.out, Bool.eq_false_iff]; intro h; exact q1 (HEX.out.1 h).1)
      have q2 : (k == k') = false := by simpa using q1
      have q3 : (k != k') = true := by simpa using q1
      go_enter Try.func12, Try.ntmps12
      go_wp2_with fail
      go_ret
      exact ⟨by rw [HF.out]; rfl, (bA1 _ _).alloc (by simp) _⟩
    have q1 := Decidable.not_not.1 q1
    subst q1
    by_cases q1 : ¬ ((c == c' && s == s') = true)
    · have HF : Hid (b = false) := Lib.hid (by
        rw [← HBQ.out, Bool.eq_false_iff]; intro h
        obtain ⟨_, h1, h2, _⟩ := HEX.out.1 h
        exact q1 (by simp [h1, h2]))
      have q2 : (c == c' && s == s') = false := by simpa using q1
      rw [q2] at hne
      go_enter Try.func12, Try.ntmps12
      go_wp2_with fail
      go_ret
      exact ⟨by rw [HF.out]; rfl, (bA1 _ _).alloc (by simp) _⟩
    have q1 := Decidable.not_not.1 q1
    obtain ⟨qc, qs⟩ : c = c' ∧ s = s' := by simpa using q1
    subst qc
    subst qs
    rw [q1] at hne
    clear q1
    by_cases q1 : ¬ (st = st')
    · have HF : Hid (b = false) := Lib.hid (by rw [← HBQ.out, Bool.eq_false_iff]; intro h; exact q1 (HEX.out.1 h).2.2.2.1)
      have q2 := str_ne q1
      go_enter Try.func12, Try.ntmps12
      go_wp2_with fail
      go_ret
      exact ⟨by rw [HF.out]; rfl, (bA1 _ _).alloc (by simp) _⟩
    have q1 := Decidable.not_not.1 q1
    subst q1
    by_cases q1 : ¬ (l.length = l'.length)
    · have HF : Hid (b = false) := Lib.hid (by
        rw [← HBQ.out, Bool.eq_false_iff]; intro h
        exact q1 (by rw [HL.out, HL'.out, (HEX.out.1 h).2.2.2.2.1]))
      have q2 : ((l.length : Int) == (l'.length : Int)) = false := by simp; omega
      have q3 : ((l.length : Int) != (l'.length : Int)) = true := by simp; omega
      go_enter Try.func12, Try.ntmps12
      go_wp2_with fail
      go_ret
      exact ⟨by rw [HF.out]; rfl, (bA1 _ _).alloc (by simp) _⟩
    by_cases q0 : ¬ (tx.keys.length = ty.keys.length)
    · have HF : Hid (b = false) := Lib.hid (by
        rw [← HBQ.out, Bool.eq_false_iff]; intro h
        exact q0 (by rw [(HEX.out.1 h).2.2.2.2.2]))
      have q2 : ((tx.keys.length : Int) == (ty.keys.length : Int)) = false := by simp; omega
      have q3 : ((tx.keys.length : Int) != (ty.keys.length : Int)) = true := by simp; omega
      have q4 : ((l.length : Int) == (l'.length : Int)) = true := by simp; omega
      have q5 : ((l.length : Int) != (l'.length : Int)) = false := by simp; omega
      clear q1
      go_enter Try.func12, Try.ntmps12
      go_wp2_with fail
      go_ret
      exact ⟨by rw [HF.out]; rfl, (bA1 _ _).alloc (by simp) _⟩
    have q2 : ((l.length : Int) == (l'.length : Int)) = true := by simp; omega
    have q3 : ((l.length : Int) != (l'.length : Int)) = false := by simp; omega
    have q4 : ((tx.keys.length : Int) == (ty.keys.length : Int)) = true := by simp; omega
    have q5 : ((tx.keys.length : Int) != (ty.keys.length : Int)) = false := by simp; omega
    have qa1 : l.length ≤ l'.length := by omega
    have qa2 : l'.length ≤ l.length := by omega
    have qb1 : tx.keys.length ≤ ty.keys.length := by omega
    have qb2 : ty.keys.length ≤ tx.keys.length := by omega
    clear q1 q0
    go_enter Try.func12, Try.ntmps12
    go_wp2_with fail
    clear hne q2 q3 q4 q5
    go_loopw [5] (fun i wr => ∃ j : Nat, i = .int .i64 (j : Nat) ∧ j ≤ tx.keys.length ∧ Hid (Vb wr w.heap.size #[.int .i64 k, .int .i64 c, .int .i64 s, .string st, .slice ao l.length cap, .slice ko tx.keys.length kcap] ∧ Vb wr (w.heap.size + 1) #[.int .i64 k, .int .i64 c, .int .i64 s, .string st, .slice ao' l'.length cap', .slice ko' ty.keys.length kcap']) ∧ Hid (Below w.heap.size w wr) ∧ w.heap.size + 2 ≤ wr.heap.size ∧ Hid (∀ p, p < j → tx.keys[p]? = ty.keys[p]?)) (fun i _ => tx.keys.length - (intOf i).toNat)
    case atStart => exact ⟨0, rfl, by omega, Lib.hid ⟨(Vb.new w _).alloc _, by simpa using Vb.new (w.alloc (.cells #[.int .i64 k, .int .i64 c, .int .i64 s, .string st, .slice ao l.length cap, .slice ko tx.keys.length kcap] 27)) #[.int .i64 k, .int .i64 c, .int .i64 s, .string st, .slice ao' l'.length cap', .slice ko' ty.keys.length kcap']⟩, Lib.hid ((bA1 _ _).alloc (by simp) _), by simp, Lib.hid (fun p hp => by omega)⟩
    case round =>
      obtain ⟨j, rfl, hj, HV, HW, hsz, HA⟩ := hrel
      obtain ⟨z0, z1, z2, z3, z4, z5⟩ := HV.out.1.six
      obtain ⟨y0, y1, y2, y3, y4, y5⟩ := HV.out.2.six
      by_cases hlt : j < tx.keys.length
      · obtain ⟨s1, hs1⟩ : ∃ y, tx.keys[j]? = some y := ⟨_, List.getElem?_eq_getElem hlt⟩
        obtain ⟨s2, hs2⟩ : ∃ y, ty.keys[j]? = some y := ⟨_, List.getElem?_eq_getElem (by omega)⟩
        obtain ⟨g1, o1, rfl, hg1, hk1⟩ := HK.out (by omega)
        obtain ⟨g2, o2, rfl, hg2, hk2⟩ := HK'.out (by omega)
        have c1 := (HW.out.cell (p := ⟨g1, o1 + j, none⟩) hg1).trans (hk1 j s1 hs1)
        have c2 := (HW.out.cell (p := ⟨g2, o2 + j, none⟩) hg2).trans (hk2 j s2 hs2)
        have HS1 := Lib.hid hs1
        have HS2 := Lib.hid hs2
        have i1 : (j : Int) < (tx.keys.length : Int) := by omega
        have i2 : (j : Int) < (ty.keys.length : Int) := by omega
        clear hk1 hk2 hs1 hs2 HK HK'
        by_cases he : s1 = s2
        · subst he
          have he2 := str_same s1
          go_wp2_with fail
          go_quiet (fail)
          go_wp2_with fail
          go_roundw
          case rel =>
            refine ⟨j + 1, by go_num, by omega, Lib.hid ⟨HV.out.1.drewN _, HV.out.2.drewN _⟩, Lib.hid (bN HW.out _), hsz, Lib.hid (fun p hp => ?_)⟩
            by_cases e : p = j
            · subst e
              rw [HS1.out, HS2.out]
            · exact HA.out p (by omega)
          case measure => simp [intOf]; omega
        · have HF : Hid (b = false) := Lib.hid (by
            rw [← HBQ.out, Bool.eq_false_iff]; intro h
            have := HS1.out
            rw [(HEX.out.1 h).2.2.2.2.2, HS2.out] at this
            exact he (Option.some.inj this).symm)
          have he2 := str_ne he
          go_wp2_with fail
          go_quiet (fail)
          go_wp2_with fail
          go_ret
          exact ⟨by rw [HF.out]; rfl, bN HW.out _⟩
      · have HKS : Hid (tx.keys = ty.keys) := Lib.hid (List.ext_getElem? fun p => by
          by_cases hp : p < tx.keys.length
          · exact HA.out p (by omega)
          · rw [List.getElem?_eq_none (by omega), List.getElem?_eq_none (by omega)])
        clear HA HK HK'
        go_wp2_with fail
        go_loopw [6] (fun i wr => ∃ j : Nat, i = .int .i64 (j : Nat) ∧ j ≤ l.length ∧ Hid (Vb wr w.heap.size #[.int .i64 k, .int .i64 c, .int .i64 s, .string st, .slice ao l.length cap, .slice ko tx.keys.length kcap] ∧ Vb wr (w.heap.size + 1) #[.int .i64 k, .int .i64 c, .int .i64 s, .string st, .slice ao' l'.length cap', .slice ko' ty.keys.length kcap']) ∧ Hid (Below w.heap.size w wr) ∧ w.heap.size + 2 ≤ wr.heap.size ∧ Hid (∀ p, p < j → tx.items[p]? = ty.items[p]?)) (fun i _ => l.length - (intOf i).toNat)
        case atStart => exact ⟨0, rfl, by omega, HV, HW, hsz, Lib.hid (fun p hp => by omega)⟩
        case round =>
          clear HV HW z0 z1 z2 z3 z4 z5 y0 y1 y2 y3 y4 y5
          obtain ⟨m, rfl, hm, HV, HW, hsz, HA⟩ := hrel
          obtain ⟨z0, z1, z2, z3, z4, z5⟩ := HV.out.1.six
          obtain ⟨y0, y1, y2, y3, y4, y5⟩ := HV.out.2.six
          by_cases hlm : m < l.length
          · obtain ⟨v1, hv1⟩ : ∃ y, l[m]? = some y := ⟨_, List.getElem?_eq_getElem hlm⟩
            obtain ⟨v2, hv2⟩ : ∃ y, l'[m]? = some y := ⟨_, List.getElem?_eq_getElem (by omega)⟩
            obtain ⟨t1, ht1⟩ : ∃ z, tx.items[m]? = some z := ⟨_, List.getElem?_eq_getElem (by rw [← HL.out]; exact hlm)⟩
            obtain ⟨t2, ht2⟩ : ∃ z, ty.items[m]? = some z := ⟨_, List.getElem?_eq_getElem (by rw [← HL'.out]; omega)⟩
            obtain ⟨g1, o1, rfl, hg1, hk1⟩ := H.out (by omega)
            obtain ⟨g2, o2, rfl, hg2, hk2⟩ := H'.out (by omega)
            have A1 := (hk1 m v1 hv1).on hg1 HW.out
            have A2 := (hk2 m v2 hv2).on hg2 HW.out
            have T1 := VT.on HW.out f (HT.out m v1 t1 hv1 ht1)
            have T2 := VT.on HW.out g (HT'.out m v2 t2 hv2 ht2)
            have hf := IH.out g v1 v2 t1 t2 wr.drew (VT.on (Below.refl _ _).drew f T1) (VT.on (Below.refl _ _).drew g T2)
            obtain ⟨k1, k2, k3, k4, k5, k6⟩ := v1
            obtain ⟨m1, m2, m3, m4, m5, m6⟩ := v2
            obtain ⟨c0, c1, c2, c3, c4, c5⟩ := A1
            obtain ⟨a0, a1, a2, a3, a4, a5⟩ := A2
            simp only at c0 c1 c2 c3 c4 c5 a0 a1 a2 a3 a4 a5
            unfold Six.val vV at hf
            simp only at hf
            have HT1 := Lib.hid ht1
            have HT2 := Lib.hid ht2
            have i1 : (m : Int) < (l.length : Int) := by omega
            have i2 : (m : Int) < (l'.length : Int) := by omega
            clear hk1 hk2 hv1 hv2 ht1 ht2 T1 T2 H H'
            cases hr : sameB t1 t2
            · rw [hr] at hf
              have HF : Hid (b = false) := Lib.hid (by
                rw [← HBQ.out, Bool.eq_false_iff]; intro h
                have := HT1.out
                rw [(HEX.out.1 h).2.2.2.2.1, HT2.out] at this
                exact sameB_no.1 hr (Option.some.inj this).symm)
              have HFF := Lib.hid hf
              clear hf hr
              go_wp2_with fail
              go_still_tail 10, (by kernel_rfl)
              change wpList _ _ _ _ _ wr.drew
              go_wp2_with (go_at_call 12; refine HFF.out.mono ?_; rintro e w1 ⟨rfl, b1⟩)
              go_ret
              exact ⟨by rw [HF.out]; rfl, bT HW.out.drew b1⟩
            · rw [hr] at hf
              have HA' : Hid (∀ p, p < m + 1 → tx.items[p]? = ty.items[p]?) := Lib.hid (fun p hp => by
                by_cases e : p = m
                · subst e
                  rw [HT1.out, HT2.out, sameB_iff.1 hr]
                · exact HA.out p (by omega))
              have HFF := Lib.hid hf
              clear hf hr HA
              go_wp2_with fail
              go_still_tail 10, (by kernel_rfl)
              change wpList _ _ _ _ _ wr.drew
              go_wp2_with (go_at_call 12; refine HFF.out.mono ?_; rintro e w1 ⟨rfl, b1⟩)
              go_roundw
              case rel => exact ⟨m + 1, by go_num, by omega, Lib.hid ⟨(HV.out.1.on (Below.refl _ _).drew).on b1, (HV.out.2.on (Below.refl _ _).drew).on b1⟩, Lib.hid (bT HW.out.drew b1), Nat.le_trans hsz b1.size, HA'⟩
              case measure => simp [intOf]; omega
          · have HF : Hid (b = true) := Lib.hid (by
              rw [← HBQ.out]
              refine HEX.out.2 ⟨by trivial, by trivial, by trivial, by trivial, List.ext_getElem? fun p => ?_, HKS.out⟩
              by_cases hp : p < m
              · exact HA.out p hp
              · rw [List.getElem?_eq_none (by have := HL.out; omega), List.getElem?_eq_none (by have := HL'.out; omega)])
            clear HA
            go_wp2_with fail
            go_ret
            exact ⟨by rw [HF.out]; rfl, HW.out⟩
end Jv
end Go.Proofs.Ytkmfoclhhnhkdaa
