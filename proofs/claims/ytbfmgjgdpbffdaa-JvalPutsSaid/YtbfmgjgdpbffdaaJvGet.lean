/- jval.Get, of every value. -/
import Derived.Test.YtbfmgjgdpbffdaaJvPut
namespace Go.Proofs.Ytbfmgjgdpbffdaa
open Go.RowKit
namespace Jv
open _root_.Go.Proofs.Ytbfmgjgdpbffdaa.Nm
/-- nothing -/
def six0 : Six := ⟨0, 0, 0, ⟨#[]⟩, .slice none 0 0, .slice none 0 0⟩
/-- what a key has -/
def gotS (x : Six) (keys : List ByteArray) (its : List Six) (key : ByteArray) : Six × Bool :=
  if x.k = 6 ∧ keys.length = its.length then (match its[(idx keys key).toNat]? with | some y => if 0 ≤ idx keys key then (y, true) else (six0, false) | none => (six0, false)) else (six0, false)
theorem idx_cases (l : List ByteArray) (key : ByteArray) : (idx l key = -1 ∧ key ∉ l) ∨ ∃ i : Nat, idx l key = i ∧ i < l.length ∧ l[i]? = some key ∧ ∀ j, j < i → l[j]? ≠ some key := by
  unfold idx
  cases h : l.findIdx? (fun x => decide (key = x)) with
  | none =>
    left
    refine ⟨rfl, fun hm => ?_⟩
    have := List.findIdx?_eq_none_iff.1 h key hm
    simp at this
  | some i =>
    right
    obtain ⟨h1, h2, h3⟩ := List.findIdx?_eq_some_iff_getElem.1 h
    have h2 := of_decide_eq_true h2
    refine ⟨i, rfl, h1, by rw [List.getElem?_eq_getElem h1, ← h2], fun j hj e => ?_⟩
    have h4 := h3 j hj
    rw [List.getElem?_eq_getElem (by omega)] at e
    rw [Option.some.inj e] at h4
    simp at h4
set_option maxRecDepth 100000 in
set_option maxHeartbeats 4000000 in
theorem get_any (x : Six) (keys : List ByteArray) (its : List Six) (key : ByteArray) (w : World) (hk : Ks w x.kv keys) (hi : Vs w x.iv its) (h1 : ∀ y ∈ its, y.one) :
    Calls Try.prog 23 #[x.val, .string key] w fun e w' => e = .returned (.tuple #[(gotS x keys its key).1.val, .bool (gotS x keys its key).2]) ∧ Below w.heap.size w w' := by
  obtain ⟨R, hR⟩ : ∃ R, gotS x keys its key = R := ⟨_, rfl⟩
  rw [hR]
  have HR := Lib.hid hR
  clear hR
  have hmk : keys.length ≤ maxLen := by obtain ⟨_, _, q1, q2, q3, _⟩ := hk; omega
  have hmi : its.length ≤ maxLen := by obtain ⟨_, _, q1, q2, q3, _⟩ := hi; omega
  obtain ⟨ko, kc, hkv, hkl, hkh⟩ := hk.form
  obtain ⟨io, ic, hiv, hil, hih⟩ := hi.form
  obtain ⟨k, c, s, st, iv, kv⟩ := x
  simp only at hkv hiv
  subst hkv hiv
  have HKS := Lib.hid hk
  have HI := Lib.hid hih
  have hio := fun w => isObject_v k c s st io ko its.length ic keys.length kc w
  unfold vV at hio
  unfold maxLen at hmk hmi
  unfold Six.val vV
  clear hkh hih hk hi
  have HO1 := Lib.hid h1
  clear h1
  by_cases ho : k = 6 ∧ keys.length = its.length
  · have e1 : decide (k = 6 ∧ keys.length = its.length) = true := decide_eq_true ho
    rw [e1] at hio
    have HIO := Lib.hid hio
    have l1 : keys.length ≤ its.length := by omega
    have l2 : its.length ≤ keys.length := by omega
    have HO := Lib.hid ho
    clear hio e1 ho
    have hix : ∀ w', Below w.heap.size w w' → Calls Try.prog 34 #[.slice ko keys.length kc, .string key] w' fun e w'' => e = .returned (.int .i64 (idx keys key)) ∧ w' = w'' := fun w' h => index_any _ keys key w' (HKS.out.on h) (by omega)
    have HV0 : Hid (Vb ((w.alloc (.cells #[.int .i64 k, .int .i64 c, .int .i64 s, .string st, .slice io its.length ic, .slice ko keys.length kc] 27)).alloc (.cells #[.int .i64 0, .int .i64 0, .int .i64 0, .string ⟨#[]⟩, .slice none 0 0, .slice none 0 0] 27)) w.heap.size #[.int .i64 k, .int .i64 c, .int .i64 s, .string st, .slice io its.length ic, .slice ko keys.length kc] ∧ Vb ((w.alloc (.cells #[.int .i64 k, .int .i64 c, .int .i64 s, .string st, .slice io its.length ic, .slice ko keys.length kc] 27)).alloc (.cells #[.int .i64 0, .int .i64 0, .int .i64 0, .string ⟨#[]⟩, .slice none 0 0, .slice none 0 0] 27)) (w.heap.size + 1) #[.int .i64 0, .int .i64 0, .int .i64 0, .string ⟨#[]⟩, .slice none 0 0, .slice none 0 0]) :=
      Lib.hid ⟨(Vb.new w _).alloc _, by simpa using Vb.new (w.alloc (.cells #[.int .i64 k, .int .i64 c, .int .i64 s, .string st, .slice io its.length ic, .slice ko keys.length kc] 27)) #[.int .i64 0, .int .i64 0, .int .i64 0, .string ⟨#[]⟩, .slice none 0 0, .slice none 0 0]⟩
    have HB0 : Hid (Below w.heap.size w ((w.alloc (.cells #[.int .i64 k, .int .i64 c, .int .i64 s, .string st, .slice io its.length ic, .slice ko keys.length kc] 27)).alloc (.cells #[.int .i64 0, .int .i64 0, .int .i64 0, .string ⟨#[]⟩, .slice none 0 0, .slice none 0 0] 27))) := Lib.hid ((bA1 _ _).alloc (by simp) _)
    rcases idx_cases keys key with ⟨hx, hno⟩ | ⟨i, hx, hil2, hgi, _⟩
    · rw [hx] at hix
      have HIX := Lib.hid hix
      have HRR : Hid (R = (⟨0, 0, 0, ⟨#[]⟩, .slice none 0 0, .slice none 0 0⟩, false)) := Lib.hid (by
        rw [← HR.out]; unfold gotS; rw [if_pos HO.out, hx]
        cases its[(-1 : Int).toNat]? <;> rfl)
      clear hix hx hno HR
      obtain rfl := HRR.out
      clear HRR
      go_enter Try.func23, Try.ntmps23
      go_wp2_with (first | (go_at_call 33; refine (HIO.out _).mono ?_; rintro e w1 ⟨rfl, b1⟩; have HV1 := Lib.hid ((HV0.out.1).on b1); have HV2 := Lib.hid ((HV0.out.2).on b1); have HB1 := Lib.hid (bT HB0.out b1); obtain ⟨z0, z1, z2, z3, z4, z5⟩ := HV1.out.six; obtain ⟨t0, t1, t2, t3, t4, t5⟩ := HV2.out.six; have hf2 := fun o => HV2.out.free o) | (go_at_call 34; refine (HIX.out _ HB1.out).mono ?_; rintro e w2 ⟨rfl, rfl⟩))
      obtain ⟨y0, y1, y2, y3, y4, y5⟩ := (HV2.out.put (.int .i64 0) (.int .i64 0) (.int .i64 0) (.string ⟨#[]⟩) (.slice none 0 0) (.slice none 0 0)).six
      have HBE := Lib.hid (b6 HB1.out (by omega : w.heap.size ≤ w.heap.size + 1) (.int .i64 0) (.int .i64 0) (.int .i64 0) (.string ⟨#[]⟩) (.slice none 0 0) (.slice none 0 0))
      clear z0 z1 z2 z3 z4 z5 t0 t1 t2 t3 t4 t5 hf2
      simp [bodyPost, results, Try.results23, go_sem, y0, y1, y2, y3, y4, y5]
      exact HBE.out
    · rw [hx] at hix
      have HIX := Lib.hid hix
      have hlt : i < its.length := by omega
      obtain ⟨y, hy⟩ : ∃ y, its[i]? = some y := ⟨_, List.getElem?_eq_getElem hlt⟩
      have HRR : Hid (R = (y, true)) := Lib.hid (by
        rw [← HR.out]; unfold gotS; rw [if_pos HO.out, hx]
        simp only [Int.toNat_natCast]
        rw [hy]
        simp)
      obtain ⟨g, o, rfl, hg, hcl⟩ := HI.out (by omega)
      have HA6 := Lib.hid (hcl i y hy)
      obtain ⟨⟨q1, q2, q3, q4⟩, q5, q6, q7, q8⟩ := HO1.out y (List.mem_of_getElem? hy)
      obtain ⟨yk, yc, ys, yst, yi, yv⟩ := y
      simp only at q4 q8
      subst q4 q8
      clear hix hx HR hy hcl hgi
      obtain rfl := HRR.out
      clear HRR
      have i1 : (i : Int) < (its.length : Int) := by omega
      go_enter Try.func23, Try.ntmps23
      go_wp2_with (first | (go_at_call 33; refine (HIO.out _).mono ?_; rintro e w1 ⟨rfl, b1⟩; have HV1 := Lib.hid ((HV0.out.1).on b1); have HV2 := Lib.hid ((HV0.out.2).on b1); have HB1 := Lib.hid (bT HB0.out b1); obtain ⟨z0, z1, z2, z3, z4, z5⟩ := HV1.out.six; obtain ⟨t0, t1, t2, t3, t4, t5⟩ := HV2.out.six; have hf2 := fun o => HV2.out.free o) | (go_at_call 34; refine (HIX.out _ HB1.out).mono ?_; rintro e w2 ⟨rfl, rfl⟩; obtain ⟨c0, c1, c2, c3, c4, c5⟩ := HA6.out.on hg HB1.out; simp only at c0 c1 c2 c3 c4 c5))
      clear c0 c1 c2 c3 c4 c5
      obtain ⟨y0, y1, y2, y3, y4, y5⟩ := (HV2.out.put (.int .i64 yk) (.int .i64 yc) (.int .i64 ys) (.string yst) (.slice q1 q2 q3) (.slice q5 q6 q7)).six
      have HBE := Lib.hid (b6 HB1.out (by omega : w.heap.size ≤ w.heap.size + 1) (.int .i64 yk) (.int .i64 yc) (.int .i64 ys) (.string yst) (.slice q1 q2 q3) (.slice q5 q6 q7))
      clear z0 z1 z2 z3 z4 z5 t0 t1 t2 t3 t4 t5 hf2
      simp [bodyPost, results, Try.results23, go_sem, y0, y1, y2, y3, y4, y5]
      exact HBE.out
  · have e1 : decide (k = 6 ∧ keys.length = its.length) = false := decide_eq_false ho
    rw [e1] at hio
    have HIO := Lib.hid hio
    have HRR : Hid (R = (⟨0, 0, 0, ⟨#[]⟩, .slice none 0 0, .slice none 0 0⟩, false)) := Lib.hid (by rw [← HR.out]; unfold gotS; rw [if_neg ho]; rfl)
    clear hio e1 ho HR
    obtain rfl := HRR.out
    clear HRR
    have HV0 : Hid (Vb ((w.alloc (.cells #[.int .i64 k, .int .i64 c, .int .i64 s, .string st, .slice io its.length ic, .slice ko keys.length kc] 27)).alloc (.cells #[.int .i64 0, .int .i64 0, .int .i64 0, .string ⟨#[]⟩, .slice none 0 0, .slice none 0 0] 27)) w.heap.size #[.int .i64 k, .int .i64 c, .int .i64 s, .string st, .slice io its.length ic, .slice ko keys.length kc] ∧ Vb ((w.alloc (.cells #[.int .i64 k, .int .i64 c, .int .i64 s, .string st, .slice io its.length ic, .slice ko keys.length kc] 27)).alloc (.cells #[.int .i64 0, .int .i64 0, .int .i64 0, .string ⟨#[]⟩, .slice none 0 0, .slice none 0 0] 27)) (w.heap.size + 1) #[.int .i64 0, .int .i64 0, .int .i64 0, .string ⟨#[]⟩, .slice none 0 0, .slice none 0 0]) :=
      Lib.hid ⟨(Vb.new w _).alloc _, by simpa using Vb.new (w.alloc (.cells #[.int .i64 k, .int .i64 c, .int .i64 s, .string st, .slice io its.length ic, .slice ko keys.length kc] 27)) #[.int .i64 0, .int .i64 0, .int .i64 0, .string ⟨#[]⟩, .slice none 0 0, .slice none 0 0]⟩
    have HB0 : Hid (Below w.heap.size w ((w.alloc (.cells #[.int .i64 k, .int .i64 c, .int .i64 s, .string st, .slice io its.length ic, .slice ko keys.length kc] 27)).alloc (.cells #[.int .i64 0, .int .i64 0, .int .i64 0, .string ⟨#[]⟩, .slice none 0 0, .slice none 0 0] 27))) := Lib.hid ((bA1 _ _).alloc (by simp) _)
    go_enter Try.func23, Try.ntmps23
    go_wp2_with (go_at_call 33; refine (HIO.out _).mono ?_; rintro e w1 ⟨rfl, b1⟩; have HV1 := Lib.hid ((HV0.out.1).on b1); have HV2 := Lib.hid ((HV0.out.2).on b1); have HB1 := Lib.hid (bT HB0.out b1); obtain ⟨z0, z1, z2, z3, z4, z5⟩ := HV1.out.six; obtain ⟨t0, t1, t2, t3, t4, t5⟩ := HV2.out.six; have hf2 := fun o => HV2.out.free o)
    obtain ⟨y0, y1, y2, y3, y4, y5⟩ := (HV2.out.put (.int .i64 0) (.int .i64 0) (.int .i64 0) (.string ⟨#[]⟩) (.slice none 0 0) (.slice none 0 0)).six
    have HBE := Lib.hid (b6 HB1.out (by omega : w.heap.size ≤ w.heap.size + 1) (.int .i64 0) (.int .i64 0) (.int .i64 0) (.string ⟨#[]⟩) (.slice none 0 0) (.slice none 0 0))
    clear z0 z1 z2 z3 z4 z5 t0 t1 t2 t3 t4 t5 hf2
    simp [bodyPost, results, Try.results23, go_sem, y0, y1, y2, y3, y4, y5]
    exact HBE.out
end Jv
end Go.Proofs.Ytbfmgjgdpbffdaa
