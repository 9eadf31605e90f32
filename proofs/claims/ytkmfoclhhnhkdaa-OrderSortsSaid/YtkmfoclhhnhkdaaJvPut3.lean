/- jval.Put, of a key that isn't there yet. -/
import Derived.Test.YtkmfoclhhnhkdaaJvPut2
namespace Go.Proofs.Ytkmfoclhhnhkdaa
open Go.RowKit
namespace Jv
open _root_.Go.Proofs.Ytkmfoclhhnhkdaa.Nm
theorem spk_any (vp vr : Value) (x : ByteArray) (i j : Nat) (l : List ByteArray) (w : World) (hp : Cs 1 w vp i ((l.take i).map Value.string)) (hr : Cs 1 w vr (l.length - j) ((l.drop j).map Value.string)) (hi : i ≤ l.length) (hj : j ≤ l.length) (hn : l.length ≤ 1000000000) :
    Calls Try.prog 46 #[vp, .string x, vr] w fun e w' => ∃ v', e = .returned v' ∧ Ks w' v' (l.take i ++ ([x] ++ l.drop j)) ∧ Below w.heap.size w w' ∧ AtNew w.heap.size v' := by
  refine (spliceS vp vr x i (l.length - j) _ _ w hp hr (by omega)).mono ?_
  rintro e w1 ⟨v', rfl, hcs, b1, hnw⟩
  refine ⟨v', rfl, ?_, b1, hnw⟩
  refine Cs.ks (n := i + 1 + (l.length - j)) ?_ (by simp; omega)
  rw [List.map_append, List.map_append]
  exact hcs
theorem meet8 {w w3 : World} {qa : Option Addr} {q qc kcl kc : Nat} {ko : Option Addr} {L : List Six} {k c s : Int} {st : ByteArray} {x4 : Value} {Z : Array Value}
    (HVS : Hid (Vs w3 (.slice qa q qc) L)) (HNW : Hid (AtNew (w.heap.size + 3) (.slice qa q qc)))
    (HV3 : Hid (Vb w3 w.heap.size #[.int .i64 k, .int .i64 c, .int .i64 s, .string st, x4, .slice ko kcl kc] ∧ Vb w3 (w.heap.size + 2) Z)) (HB3 : Hid (Below w.heap.size w w3)) (hs3 : w.heap.size + 3 ≤ w3.heap.size) :
    ∃ ra n rc, Hid (Vs (w3.setCell ⟨w.heap.size, 4, none⟩ (.slice qa q qc)) (.slice ra n rc) L ∧ AtNew (w.heap.size + 3) (.slice ra n rc)) ∧ Hid (Vb (w3.setCell ⟨w.heap.size, 4, none⟩ (.slice qa q qc)) w.heap.size #[.int .i64 k, .int .i64 c, .int .i64 s, .string st, .slice ra n rc, .slice ko kcl kc] ∧ Vb (w3.setCell ⟨w.heap.size, 4, none⟩ (.slice qa q qc)) (w.heap.size + 2) Z) ∧ Hid (Below w.heap.size w (w3.setCell ⟨w.heap.size, 4, none⟩ (.slice qa q qc))) ∧ w.heap.size + 3 ≤ (w3.setCell ⟨w.heap.size, 4, none⟩ (.slice qa q qc)).heap.size :=
  ⟨qa, q, qc, Lib.hid (And.intro (HVS.out.on0 HNW.out (fun q hq => heap_far (by omega) _ _) (by simp)) HNW.out), Lib.hid ⟨HV3.out.1.set 4 _, HV3.out.2.far (k' := w.heap.size) (by omega) 4 _⟩, Lib.hid (HB3.out.setCell (Nat.le_refl _) _), by simpa using hs3⟩
theorem meet9 {w w3 : World} {ra qa : Option Addr} {n rc q qc : Nat} {L : List Six} {K : List ByteArray} {k c s : Int} {st : ByteArray} {x5 : Value} {Z : Array Value}
    (HVI : Hid (Vs w3 (.slice ra n rc) L)) (HNI : AtNew (w.heap.size + 3) (.slice ra n rc)) (HKS : Hid (Ks w3 (.slice qa q qc) K)) (HNW : Hid (AtNew (w.heap.size + 3) (.slice qa q qc)))
    (HV3 : Hid (Vb w3 w.heap.size #[.int .i64 k, .int .i64 c, .int .i64 s, .string st, .slice ra n rc, x5] ∧ Vb w3 (w.heap.size + 2) Z)) (HB3 : Hid (Below w.heap.size w w3)) (hs3 : w.heap.size + 3 ≤ w3.heap.size) :
    ∃ ra n rc sa m sc, Hid (Vs (w3.setCell ⟨w.heap.size, 5, none⟩ (.slice qa q qc)) (.slice ra n rc) L ∧ AtNew (w.heap.size + 3) (.slice ra n rc)) ∧ Hid (Ks (w3.setCell ⟨w.heap.size, 5, none⟩ (.slice qa q qc)) (.slice sa m sc) K ∧ AtNew (w.heap.size + 3) (.slice sa m sc)) ∧ Hid (Vb (w3.setCell ⟨w.heap.size, 5, none⟩ (.slice qa q qc)) w.heap.size #[.int .i64 k, .int .i64 c, .int .i64 s, .string st, .slice ra n rc, .slice sa m sc] ∧ Vb (w3.setCell ⟨w.heap.size, 5, none⟩ (.slice qa q qc)) (w.heap.size + 2) Z) ∧ Hid (Below w.heap.size w (w3.setCell ⟨w.heap.size, 5, none⟩ (.slice qa q qc))) ∧ w.heap.size + 3 ≤ (w3.setCell ⟨w.heap.size, 5, none⟩ (.slice qa q qc)).heap.size :=
  ⟨ra, n, rc, qa, q, qc, Lib.hid (And.intro (HVI.out.on0 HNI (fun q hq => heap_far (by omega) _ _) (by simp)) HNI), Lib.hid (And.intro (HKS.out.on0 HNW.out (fun q hq => heap_far (by omega) _ _) (by simp)) HNW.out), Lib.hid ⟨HV3.out.1.set 5 _, HV3.out.2.far (k' := w.heap.size) (by omega) 5 _⟩, Lib.hid (HB3.out.setCell (Nat.le_refl _) _), by simpa using hs3⟩
theorem Cs.empty (w : World) (sz : Nat) : Cs sz w (.slice none 0 0) 0 [] :=
  ⟨by simp, fun u hu => by simp at hu, _, 0, rfl, Nat.le_refl _, by decide, fun _ => ⟨rfl, rfl⟩, fun a h => by cases h⟩
set_option maxRecDepth 100000 in
set_option maxHeartbeats 16000000 in
theorem put_new (x v : Six) (keys : List ByteArray) (its : List Six) (key : ByteArray) (p : Nat) (w : World) (hk : Ks w x.kv keys) (hi : Vs w x.iv its) (h1 : ∀ y ∈ its, y.one) (hv : v.one) (hn : its.length ≤ 1000000000) (ho : x.k = 6 ∧ keys.length = its.length) (hx : idx keys key = -1) (hp : plc keys key = p) :
    Calls Try.prog 25 #[x.val, .string key, v.val] w fun e w' => ∃ iv' kv', e = .returned (Six.val ⟨x.k, x.c, x.s, x.st, iv', kv'⟩) ∧ Vs w' iv' (its.take p ++ ([v] ++ its.drop p)) ∧ Ks w' kv' (keys.take p ++ ([key] ++ keys.drop p)) ∧ Below w.heap.size w w' ∧ AtNew w.heap.size iv' ∧ AtNew w.heap.size kv' := by
  have hcs := hi.cs h1
  have hks := hk.cs
  have hpl : p ≤ keys.length := hp ▸ plc_le keys key
  have hicm0 : ∀ a n c, x.iv = .slice a n c → c ≤ maxLen := fun a n c h => by obtain ⟨_, _, q0, _, q2, _⟩ := hi; rw [h] at q0; injection q0 with _ _ q3; omega
  have hkcm0 : ∀ a n c, x.kv = .slice a n c → c ≤ maxLen := fun a n c h => by obtain ⟨_, _, q0, _, q2, _⟩ := hk; rw [h] at q0; injection q0 with _ _ q3; omega
  obtain ⟨ko, kc, hkv, hkl, hkh⟩ := hk.form
  obtain ⟨io, ic, hiv, hicl, hih⟩ := hi.form
  have hicm := hicm0 _ _ _ hiv
  have hkcm := hkcm0 _ _ _ hkv
  clear hicm0 hkcm0
  obtain ⟨k, c, s, st, iv, kv⟩ := x
  simp only at hkv hiv
  subst hkv hiv
  have hio := fun w => isObject_v k c s st io ko its.length ic keys.length kc w
  unfold vV at hio
  unfold Six.val vV
  have e1 : decide (k = 6 ∧ keys.length = its.length) = true := decide_eq_true ho
  rw [e1] at hio
  have HIO := Lib.hid hio
  have hl1 : keys.length ≤ its.length := by omega
  have hl2 : its.length ≤ keys.length := by omega
  have hix : ∀ w', Below w.heap.size w w' → Calls Try.prog 43 #[.slice ko keys.length kc, .string key] w' fun e w'' => e = .returned (.int .i64 (idx keys key)) ∧ w' = w'' := fun w' h => index_any _ keys key w' (hk.on h) (by omega)
  rw [hx] at hix
  have HIX := Lib.hid hix
  have hpx : ∀ w', Below w.heap.size w w' → Calls Try.prog 45 #[.slice ko keys.length kc, .string key] w' fun e w'' => e = .returned (.int .i64 (plc keys key : Nat)) ∧ w' = w'' := fun w' h => place_any _ keys key w' (hk.on h) (by omega)
  rw [hp] at hpx
  have HPL := Lib.hid hpx
  have HC := Lib.hid hcs
  have HKC := Lib.hid hks
  have HV := Lib.hid hv
  unfold maxLen at hicm hkcm
  clear hkh hih hk hi hio e1 ho hix hx hcs hv h1 hpx hp hks
  obtain ⟨v0, v1, v2, v3, v4, v5⟩ := v
  have hspV : ∀ w' A R, Below w.heap.size w w' → Cs 6 w A p ((its.take p).flatMap Six.cells) → Cs 6 w R (its.length - p) ((its.drop p).flatMap Six.cells) → Calls Try.prog 44 #[A, (.agg #[.int .i64 v0, .int .i64 v1, .int .i64 v2, .string v3, v4, v5]), R] w' (fun e w'' => ∃ v', e = .returned v' ∧ Vs w'' v' (its.take p ++ ([⟨v0, v1, v2, v3, v4, v5⟩] ++ its.drop p)) ∧ Below w'.heap.size w' w'' ∧ AtNew w'.heap.size v') :=
    fun w' A R hb ha hr => spl_any A R ⟨v0, v1, v2, v3, v4, v5⟩ p p its w' (ha.on hb) (hr.on hb) HV.out (by omega) (by omega) hn
  have HSPV := Lib.hid hspV
  clear hspV
  have hspS : ∀ w' A R, Below w.heap.size w w' → Cs 1 w A p ((keys.take p).map Value.string) → Cs 1 w R (keys.length - p) ((keys.drop p).map Value.string) → Calls Try.prog 46 #[A, .string key, R] w' (fun e w'' => ∃ v', e = .returned v' ∧ Ks w'' v' (keys.take p ++ ([key] ++ keys.drop p)) ∧ Below w'.heap.size w' w'' ∧ AtNew w'.heap.size v') :=
    fun w' A R hb ha hr => spk_any A R key p p keys w' (ha.on hb) (hr.on hb) (by omega) (by omega) (by omega)
  have HSPS := Lib.hid hspS
  clear hspS
  have HV0 : Hid (Vb (((w.alloc (.cells #[.int .i64 k, .int .i64 c, .int .i64 s, .string st, .slice io its.length ic, .slice ko keys.length kc] 27)).alloc (.cells #[.int .i64 v0, .int .i64 v1, .int .i64 v2, .string v3, v4, v5] 27)).alloc (.cells #[.int .i64 0, .int .i64 0, .int .i64 0, .string ⟨#[]⟩, .slice none 0 0, .slice none 0 0] 27)) w.heap.size #[.int .i64 k, .int .i64 c, .int .i64 s, .string st, .slice io its.length ic, .slice ko keys.length kc] ∧ Vb (((w.alloc (.cells #[.int .i64 k, .int .i64 c, .int .i64 s, .string st, .slice io its.length ic, .slice ko keys.length kc] 27)).alloc (.cells #[.int .i64 v0, .int .i64 v1, .int .i64 v2, .string v3, v4, v5] 27)).alloc (.cells #[.int .i64 0, .int .i64 0, .int .i64 0, .string ⟨#[]⟩, .slice none 0 0, .slice none 0 0] 27)) (w.heap.size + 1) #[.int .i64 v0, .int .i64 v1, .int .i64 v2, .string v3, v4, v5] ∧ Vb (((w.alloc (.cells #[.int .i64 k, .int .i64 c, .int .i64 s, .string st, .slice io its.length ic, .slice ko keys.length kc] 27)).alloc (.cells #[.int .i64 v0, .int .i64 v1, .int .i64 v2, .string v3, v4, v5] 27)).alloc (.cells #[.int .i64 0, .int .i64 0, .int .i64 0, .string ⟨#[]⟩, .slice none 0 0, .slice none 0 0] 27)) (w.heap.size + 2) #[.int .i64 0, .int .i64 0, .int .i64 0, .string ⟨#[]⟩, .slice none 0 0, .slice none 0 0]) :=
    Lib.hid ⟨((Vb.new w _).alloc _).alloc _, by simpa using (Vb.new (w.alloc (.cells #[.int .i64 k, .int .i64 c, .int .i64 s, .string st, .slice io its.length ic, .slice ko keys.length kc] 27)) #[.int .i64 v0, .int .i64 v1, .int .i64 v2, .string v3, v4, v5]).alloc (.cells #[.int .i64 0, .int .i64 0, .int .i64 0, .string ⟨#[]⟩, .slice none 0 0, .slice none 0 0] 27), by simpa using Vb.new ((w.alloc (.cells #[.int .i64 k, .int .i64 c, .int .i64 s, .string st, .slice io its.length ic, .slice ko keys.length kc] 27)).alloc (.cells #[.int .i64 v0, .int .i64 v1, .int .i64 v2, .string v3, v4, v5] 27)) #[.int .i64 0, .int .i64 0, .int .i64 0, .string ⟨#[]⟩, .slice none 0 0, .slice none 0 0]⟩
  have HB0 : Hid (Below w.heap.size w (((w.alloc (.cells #[.int .i64 k, .int .i64 c, .int .i64 s, .string st, .slice io its.length ic, .slice ko keys.length kc] 27)).alloc (.cells #[.int .i64 v0, .int .i64 v1, .int .i64 v2, .string v3, v4, v5] 27)).alloc (.cells #[.int .i64 0, .int .i64 0, .int .i64 0, .string ⟨#[]⟩, .slice none 0 0, .slice none 0 0] 27))) := Lib.hid (((bA1 _ _).alloc (by simp) _).alloc (by simp; omega) _)
  have hs0 : w.heap.size + 3 ≤ (((w.alloc (.cells #[.int .i64 k, .int .i64 c, .int .i64 s, .string st, .slice io its.length ic, .slice ko keys.length kc] 27)).alloc (.cells #[.int .i64 v0, .int .i64 v1, .int .i64 v2, .string v3, v4, v5] 27)).alloc (.cells #[.int .i64 0, .int .i64 0, .int .i64 0, .string ⟨#[]⟩, .slice none 0 0, .slice none 0 0] 27)).heap.size := by simp
  go_enter Try.func25, Try.ntmps25
  go_upto_region 8 with (first | (go_at_call 42; refine (HIO.out _).mono ?_; rintro e w1 ⟨rfl, b1⟩; have HV1 := Lib.hid (And.intro (HV0.out.1.on b1) (And.intro (HV0.out.2.1.on b1) (HV0.out.2.2.on b1))); have HB1 := Lib.hid (bT HB0.out b1); have hs1 := Nat.le_trans hs0 b1.size; obtain ⟨z0, z1, z2, z3, z4, z5⟩ := HV1.out.1.six; obtain ⟨r0, r1, r2, r3, r4, r5⟩ := HV1.out.2.1.six; obtain ⟨t0, t1, t2, t3, t4, t5⟩ := HV1.out.2.2.six; have hf0 := fun o => HV1.out.1.free o; have hf2 := fun o => HV1.out.2.2.free o) | (go_at_call 43; refine (HIX.out _ HB1.out).mono ?_; rintro e w2 ⟨rfl, rfl⟩) | (go_at_call 45; refine (HPL.out _ HB1.out).mono ?_; rintro e w2 ⟨rfl, rfl⟩))
  go_cut [45] (fun _ wx => ∃ ra n rc, Hid (Vs wx (.slice ra n rc) (its.take p ++ ([⟨v0, v1, v2, v3, v4, v5⟩] ++ its.drop p)) ∧ AtNew (w.heap.size + 3) (.slice ra n rc)) ∧ Hid (Vb wx w.heap.size #[.int .i64 k, .int .i64 c, .int .i64 s, .string st, .slice ra n rc, .slice ko keys.length kc] ∧ Vb wx (w.heap.size + 2) #[.int .i64 0, .int .i64 0, .int .i64 0, .string ⟨#[]⟩, .slice none 0 0, .slice none 0 0]) ∧ Hid (Below w.heap.size w wx) ∧ w.heap.size + 3 ≤ wx.heap.size)
  case first =>
    cases io with
    | none =>
      have HZ := Lib.hid (HC.out.nilS).1
      have hz2 : ic = 0 := (HC.out.nilS).2.1
      subst hz2
      have hp0 : p = 0 := by have := HZ.out; omega
      subst hp0
      have HSP := Lib.hid (fun w' h => HSPV.out w' (.slice none 0 0) (.slice none 0 0) h (by rw [List.length_eq_zero_iff.1 HZ.out]; exact Cs.empty _ _) (by rw [List.length_eq_zero_iff.1 HZ.out]; exact Cs.empty _ _))
      go_still_tail 9, (by kernel_rfl)
      (try (refine wpStill_step (fun K hK => ?_); go_simp; (repeat (first | rw [if_pos (by omega)] | rw [if_neg (by omega)])); (try go_simp); (repeat (first | rw [if_pos (by omega)] | rw [if_neg (by omega)])); (try go_simp); refine hK _ ?_; clear hK K))
      repeat still_step
      (try (refine wpStill_step (fun K hK => ?_); go_simp; (repeat (first | rw [if_pos (by omega)] | rw [if_neg (by omega)])); (try go_simp); (repeat (first | rw [if_pos (by omega)] | rw [if_neg (by omega)])); (try go_simp); refine hK _ ?_; clear hK K))
      (try refine wpStill_nil ?_)
      change wpList _ _ _ _ _ w1.drew
      go_wp2_with (go_at_call 44; refine (HSP.out _ HB1.out.drew).mono ?_; rintro e w3 ⟨iv', rfl, hvs, b3, hnw⟩; have HVS := Lib.hid hvs; have HNW := Lib.hid (hnw.mono hs1); obtain ⟨qa, q, qc, rfl⟩ := hvs.form'; clear hvs hnw; have HV3 := Lib.hid (And.intro ((HV1.out.1.on (Below.refl _ _).drew).on b3) ((HV1.out.2.2.on (Below.refl _ _).drew).on b3)); have HB3 := Lib.hid (bT HB1.out.drew b3); have hs3 : w.heap.size + 3 ≤ w3.heap.size := Nat.le_trans hs1 b3.size; obtain ⟨u0, u1, u2, u3, u4, u5⟩ := HV3.out.1.six; have hf3 := fun o => HV3.out.1.free o)
      go_meet
      exact meet8 HVS HNW HV3 HB3 hs3
    | some ad =>
      by_cases hcap : ic = p
      · subst hcap
        have HSP := Lib.hid (fun w' h => HSPV.out w' (.slice (some ad) ic ic) (.slice (some ad) 0 0) h (by have := HC.out.pre (i := ic) (by omega) (fun h => by cases h); rw [flat_take] at this; exact this) (by rw [List.drop_eq_nil_of_le (by omega), show its.length - ic = 0 by omega]; exact Cs.zero _ _ _))
        go_still_tail 9, (by kernel_rfl)
        (try (refine wpStill_step (fun K hK => ?_); go_simp; (repeat (first | rw [if_pos (by omega)] | rw [if_neg (by omega)])); (try go_simp); (repeat (first | rw [if_pos (by omega)] | rw [if_neg (by omega)])); (try go_simp); refine hK _ ?_; clear hK K))
        repeat still_step
        (try (refine wpStill_step (fun K hK => ?_); go_simp; (repeat (first | rw [if_pos (by omega)] | rw [if_neg (by omega)])); (try go_simp); (repeat (first | rw [if_pos (by omega)] | rw [if_neg (by omega)])); (try go_simp); refine hK _ ?_; clear hK K))
        (try refine wpStill_nil ?_)
        change wpList _ _ _ _ _ w1.drew
        go_wp2_with (go_at_call 44; refine (HSP.out _ HB1.out.drew).mono ?_; rintro e w3 ⟨iv', rfl, hvs, b3, hnw⟩; have HVS := Lib.hid hvs; have HNW := Lib.hid (hnw.mono hs1); obtain ⟨qa, q, qc, rfl⟩ := hvs.form'; clear hvs hnw; have HV3 := Lib.hid (And.intro ((HV1.out.1.on (Below.refl _ _).drew).on b3) ((HV1.out.2.2.on (Below.refl _ _).drew).on b3)); have HB3 := Lib.hid (bT HB1.out.drew b3); have hs3 : w.heap.size + 3 ≤ w3.heap.size := Nat.le_trans hs1 b3.size; obtain ⟨u0, u1, u2, u3, u4, u5⟩ := HV3.out.1.six; have hf3 := fun o => HV3.out.1.free o)
        go_meet
        exact meet8 HVS HNW HV3 HB3 hs3

      · have c1 : p < ic := by omega
        have HSP := Lib.hid (fun w' h => HSPV.out w' (.slice (some ad) p ic) (.slice (some (ad.add (p * 6))) (its.length - p) (ic - p)) h (by have := HC.out.pre (i := p) (by omega) (fun h => by cases h); rw [flat_take] at this; exact this) (by have := HC.out.suf (i := p) (by omega); rw [flat_drop] at this; exact this))
        go_still_tail 9, (by kernel_rfl)
        (try (refine wpStill_step (fun K hK => ?_); go_simp; (repeat (first | rw [if_pos (by omega)] | rw [if_neg (by omega)])); (try go_simp); (repeat (first | rw [if_pos (by omega)] | rw [if_neg (by omega)])); (try go_simp); refine hK _ ?_; clear hK K))
        repeat still_step
        (try (refine wpStill_step (fun K hK => ?_); go_simp; (repeat (first | rw [if_pos (by omega)] | rw [if_neg (by omega)])); (try go_simp); (repeat (first | rw [if_pos (by omega)] | rw [if_neg (by omega)])); (try go_simp); refine hK _ ?_; clear hK K))
        (try refine wpStill_nil ?_)
        change wpList _ _ _ _ _ w1.drew
        go_wp2_with (go_at_call 44; refine (HSP.out _ HB1.out.drew).mono ?_; rintro e w3 ⟨iv', rfl, hvs, b3, hnw⟩; have HVS := Lib.hid hvs; have HNW := Lib.hid (hnw.mono hs1); obtain ⟨qa, q, qc, rfl⟩ := hvs.form'; clear hvs hnw; have HV3 := Lib.hid (And.intro ((HV1.out.1.on (Below.refl _ _).drew).on b3) ((HV1.out.2.2.on (Below.refl _ _).drew).on b3)); have HB3 := Lib.hid (bT HB1.out.drew b3); have hs3 : w.heap.size + 3 ≤ w3.heap.size := Nat.le_trans hs1 b3.size; obtain ⟨u0, u1, u2, u3, u4, u5⟩ := HV3.out.1.six; have hf3 := fun o => HV3.out.1.free o)
        go_meet
        exact meet8 HVS HNW HV3 HB3 hs3

  case rest =>
  clear z0 z1 z2 z3 z4 z5 r0 r1 r2 r3 r4 r5 t0 t1 t2 t3 t4 t5 hf0 hf2
  obtain ⟨ra, n, rc, HVS8, HV8, HB8, hs8⟩ := hcut
  obtain ⟨z0, z1, z2, z3, z4, z5⟩ := HV8.out.1.six
  have hf0 := fun o => HV8.out.1.free o
  go_upto_region 9 with (fail)
  go_cut [56] (fun _ wx => ∃ ra n rc sa m sc, Hid (Vs wx (.slice ra n rc) (its.take p ++ ([⟨v0, v1, v2, v3, v4, v5⟩] ++ its.drop p)) ∧ AtNew (w.heap.size + 3) (.slice ra n rc)) ∧ Hid (Ks wx (.slice sa m sc) (keys.take p ++ ([key] ++ keys.drop p)) ∧ AtNew (w.heap.size + 3) (.slice sa m sc)) ∧ Hid (Vb wx w.heap.size #[.int .i64 k, .int .i64 c, .int .i64 s, .string st, .slice ra n rc, .slice sa m sc] ∧ Vb wx (w.heap.size + 2) #[.int .i64 0, .int .i64 0, .int .i64 0, .string ⟨#[]⟩, .slice none 0 0, .slice none 0 0]) ∧ Hid (Below w.heap.size w wx) ∧ w.heap.size + 3 ≤ wx.heap.size)
  case first =>
    cases ko with
    | none =>
      have HZ := Lib.hid (HKC.out.nilS).1
      have hz2 : kc = 0 := (HKC.out.nilS).2.1
      subst hz2
      have hp0 : p = 0 := by have := HZ.out; omega
      subst hp0
      have HSP := Lib.hid (fun w' h => HSPS.out w' (.slice none 0 0) (.slice none 0 0) h (by rw [List.length_eq_zero_iff.1 HZ.out]; exact Cs.empty _ _) (by rw [List.length_eq_zero_iff.1 HZ.out]; exact Cs.empty _ _))
      go_still_tail 9, (by kernel_rfl)
      (try (refine wpStill_step (fun K hK => ?_); go_simp; (repeat (first | rw [if_pos (by omega)] | rw [if_neg (by omega)])); (try go_simp); (repeat (first | rw [if_pos (by omega)] | rw [if_neg (by omega)])); (try go_simp); refine hK _ ?_; clear hK K))
      repeat still_step
      (try (refine wpStill_step (fun K hK => ?_); go_simp; (repeat (first | rw [if_pos (by omega)] | rw [if_neg (by omega)])); (try go_simp); (repeat (first | rw [if_pos (by omega)] | rw [if_neg (by omega)])); (try go_simp); refine hK _ ?_; clear hK K))
      (try refine wpStill_nil ?_)
      change wpList _ _ _ _ _ wc.drew
      go_wp2_with (go_at_call 46; refine (HSP.out _ HB8.out.drew).mono ?_; rintro e w3 ⟨iv', rfl, hvs, b3, hnw⟩; have HVS := Lib.hid hvs; have HNW := Lib.hid (hnw.mono hs8); obtain ⟨qa, q, qc, rfl⟩ := hvs.form'; clear hvs hnw; have HV3 := Lib.hid (And.intro ((HV8.out.1.on (Below.refl _ _).drew).on b3) ((HV8.out.2.on (Below.refl _ _).drew).on b3)); have HB3 := Lib.hid (bT HB8.out.drew b3); have hs3 : w.heap.size + 3 ≤ w3.heap.size := Nat.le_trans hs8 b3.size; obtain ⟨u0, u1, u2, u3, u4, u5⟩ := HV3.out.1.six; have hf3 := fun o => HV3.out.1.free o; have HVI := Lib.hid ((HVS8.out.1.on (Below.refl _ _).drew).on b3))
      go_meet
      exact meet9 HVI HVS8.out.2 HVS HNW HV3 HB3 hs3
    | some ad =>
      by_cases hcap : kc = p
      · subst hcap
        have HSP := Lib.hid (fun w' h => HSPS.out w' (.slice (some ad) kc kc) (.slice (some ad) 0 0) h (by have := HKC.out.pre (i := kc) (by omega) (fun h => by cases h); rw [Nat.mul_one, ← List.map_take] at this; exact this) (by rw [List.drop_eq_nil_of_le (by omega), show keys.length - kc = 0 by omega]; exact Cs.zero _ _ _))
        go_still_tail 9, (by kernel_rfl)
        (try (refine wpStill_step (fun K hK => ?_); go_simp; (repeat (first | rw [if_pos (by omega)] | rw [if_neg (by omega)])); (try go_simp); (repeat (first | rw [if_pos (by omega)] | rw [if_neg (by omega)])); (try go_simp); refine hK _ ?_; clear hK K))
        repeat still_step
        (try (refine wpStill_step (fun K hK => ?_); go_simp; (repeat (first | rw [if_pos (by omega)] | rw [if_neg (by omega)])); (try go_simp); (repeat (first | rw [if_pos (by omega)] | rw [if_neg (by omega)])); (try go_simp); refine hK _ ?_; clear hK K))
        (try refine wpStill_nil ?_)
        change wpList _ _ _ _ _ wc.drew
        go_wp2_with (go_at_call 46; refine (HSP.out _ HB8.out.drew).mono ?_; rintro e w3 ⟨iv', rfl, hvs, b3, hnw⟩; have HVS := Lib.hid hvs; have HNW := Lib.hid (hnw.mono hs8); obtain ⟨qa, q, qc, rfl⟩ := hvs.form'; clear hvs hnw; have HV3 := Lib.hid (And.intro ((HV8.out.1.on (Below.refl _ _).drew).on b3) ((HV8.out.2.on (Below.refl _ _).drew).on b3)); have HB3 := Lib.hid (bT HB8.out.drew b3); have hs3 : w.heap.size + 3 ≤ w3.heap.size := Nat.le_trans hs8 b3.size; obtain ⟨u0, u1, u2, u3, u4, u5⟩ := HV3.out.1.six; have hf3 := fun o => HV3.out.1.free o; have HVI := Lib.hid ((HVS8.out.1.on (Below.refl _ _).drew).on b3))
        go_meet
        exact meet9 HVI HVS8.out.2 HVS HNW HV3 HB3 hs3

      · have c1 : p < kc := by omega
        have HSP := Lib.hid (fun w' h => HSPS.out w' (.slice (some ad) p kc) (.slice (some (ad.add p)) (keys.length - p) (kc - p)) h (by have := HKC.out.pre (i := p) (by omega) (fun h => by cases h); rw [Nat.mul_one, ← List.map_take] at this; exact this) (by have := HKC.out.suf (i := p) (by omega); rw [Nat.mul_one, ← List.map_drop] at this; exact this))
        go_still_tail 9, (by kernel_rfl)
        (try (refine wpStill_step (fun K hK => ?_); go_simp; (repeat (first | rw [if_pos (by omega)] | rw [if_neg (by omega)])); (try go_simp); (repeat (first | rw [if_pos (by omega)] | rw [if_neg (by omega)])); (try go_simp); refine hK _ ?_; clear hK K))
        repeat still_step
        (try (refine wpStill_step (fun K hK => ?_); go_simp; (repeat (first | rw [if_pos (by omega)] | rw [if_neg (by omega)])); (try go_simp); (repeat (first | rw [if_pos (by omega)] | rw [if_neg (by omega)])); (try go_simp); refine hK _ ?_; clear hK K))
        (try refine wpStill_nil ?_)
        change wpList _ _ _ _ _ wc.drew
        go_wp2_with (go_at_call 46; refine (HSP.out _ HB8.out.drew).mono ?_; rintro e w3 ⟨iv', rfl, hvs, b3, hnw⟩; have HVS := Lib.hid hvs; have HNW := Lib.hid (hnw.mono hs8); obtain ⟨qa, q, qc, rfl⟩ := hvs.form'; clear hvs hnw; have HV3 := Lib.hid (And.intro ((HV8.out.1.on (Below.refl _ _).drew).on b3) ((HV8.out.2.on (Below.refl _ _).drew).on b3)); have HB3 := Lib.hid (bT HB8.out.drew b3); have hs3 : w.heap.size + 3 ≤ w3.heap.size := Nat.le_trans hs8 b3.size; obtain ⟨u0, u1, u2, u3, u4, u5⟩ := HV3.out.1.six; have hf3 := fun o => HV3.out.1.free o; have HVI := Lib.hid ((HVS8.out.1.on (Below.refl _ _).drew).on b3))
        go_meet
        exact meet9 HVI HVS8.out.2 HVS HNW HV3 HB3 hs3

  case rest =>
    clear z0 z1 z2 z3 z4 z5 hf0 HVS8 HV8 HB8 hs8
    obtain ⟨ra, n, rc, sa, m, sc, HVS, HKS, HV3, HB3, hs3⟩ := hcut
    obtain ⟨z0, z1, z2, z3, z4, z5⟩ := HV3.out.1.six
    obtain ⟨t0, t1, t2, t3, t4, t5⟩ := HV3.out.2.six
    have hf2 := fun o => HV3.out.2.free o
    go_wp2_with fail
    obtain ⟨y0, y1, y2, y3, y4, y5⟩ := (HV3.out.2.put (.int .i64 k) (.int .i64 c) (.int .i64 s) (.string st) (.slice ra n rc) (.slice sa m sc)).six
    have HBE := Lib.hid (b6 HB3.out (by omega : w.heap.size ≤ w.heap.size + 2) (.int .i64 k) (.int .i64 c) (.int .i64 s) (.string st) (.slice ra n rc) (.slice sa m sc))
    clear z0 z1 z2 z3 z4 z5 t0 t1 t2 t3 t4 t5 hf2
    simp [bodyPost, results, Try.results25, go_sem, y0, y1, y2, y3, y4, y5]
    exact ⟨_, _, ⟨rfl, rfl⟩, HVS.out.1.on0 HVS.out.2 (fun q hq => heap_far6 (by omega) _ _ _ _ _ _) (by simp), HKS.out.1.on0 HKS.out.2 (fun q hq => heap_far6 (by omega) _ _ _ _ _ _) (by simp), HBE.out, HVS.out.2.mono (by omega), HKS.out.2.mono (by omega)⟩
end Jv
end Go.Proofs.Ytkmfoclhhnhkdaa
