/- jval.Put, of every value. -/
import Derived.Test.YtkmfoclhhnhkdaaJvGet
import Derived.StillTailTactics
import Derived.IntWalk
namespace Go.Proofs.Ytkmfoclhhnhkdaa
open Go.RowKit
namespace Jv
open _root_.Go.Proofs.Ytkmfoclhhnhkdaa.Nm
/-- the keys behind Put -/
def putK (keys : List ByteArray) (key : ByteArray) : List ByteArray := if 0 ≤ idx keys key then keys else keys.take (plc keys key) ++ ([key] ++ keys.drop (plc keys key))
/-- the items behind Put -/
def putI {α : Type} (keys : List ByteArray) (its : List α) (key : ByteArray) (v : α) : List α :=
  if 0 ≤ idx keys key then its.take (idx keys key).toNat ++ ([v] ++ its.drop ((idx keys key).toNat + 1)) else its.take (plc keys key) ++ ([v] ++ its.drop (plc keys key))
theorem plc_le (l : List ByteArray) (key : ByteArray) : plc l key ≤ l.length := by
  unfold plc
  cases h : l.findIdx? (fun x => gtB x key) with
  | none => exact Nat.le_refl _
  | some i => have := (List.findIdx?_eq_some_iff_getElem.1 h).1; exact Nat.le_of_lt this
theorem flat_len (l : List Six) : (l.flatMap Six.cells).length = l.length * 6 := by
  induction l with
  | nil => rfl
  | cons x l ih => rw [List.flatMap_cons, List.length_append, ih, Six.cells_len, List.length_cons]; omega
theorem flat_take (l : List Six) (i : Nat) : (l.flatMap Six.cells).take (i * 6) = (l.take i).flatMap Six.cells := by
  induction l generalizing i with
  | nil => simp
  | cons x l ih =>
    cases i with
    | zero => simp
    | succ i =>
      rw [List.flatMap_cons, List.take_succ_cons, List.flatMap_cons, ← ih i, List.take_append, Six.cells_len, List.take_of_length_le (by rw [Six.cells_len]; omega), show (i + 1) * 6 - 6 = i * 6 by omega]
theorem flat_drop (l : List Six) (i : Nat) : (l.flatMap Six.cells).drop (i * 6) = (l.drop i).flatMap Six.cells := by
  induction l generalizing i with
  | nil => simp
  | cons x l ih =>
    cases i with
    | zero => simp
    | succ i =>
      rw [List.flatMap_cons, List.drop_succ_cons, ← ih i, List.drop_append, Six.cells_len, List.drop_eq_nil_of_le (by rw [Six.cells_len]; omega), show (i + 1) * 6 - 6 = i * 6 by omega]
      rfl
theorem Cs.zero (w : World) (a : Addr) (sz : Nat) : Cs sz w (.slice (some a) 0 0) 0 [] :=
  ⟨by simp, fun u hu => by simp at hu, _, 0, rfl, Nat.le_refl _, by decide, fun e => (by cases e), fun b _ => ⟨fun j u h => by simp at h, fun h => absurd h (by omega)⟩⟩
theorem Vs.form' {w : World} {v : Value} {l : List Six} (h : Vs w v l) : ∃ a n c, v = .slice a n c := by
  obtain ⟨ao, cap, h1, _⟩ := h
  exact ⟨ao, _, cap, h1⟩
theorem Ks.form' {w : World} {v : Value} {l : List ByteArray} (h : Ks w v l) : ∃ a n c, v = .slice a n c := by
  obtain ⟨ao, cap, h1, _⟩ := h
  exact ⟨ao, _, cap, h1⟩
theorem At6.blk {a b : World} {k p : Nat} {x : Six} (h : At6 a k p x) (he : b.heap[k]? = a.heap[k]?) : At6 b k p x := by
  obtain ⟨h0, h1, h2, h3, h4, h5⟩ := h
  exact ⟨(World.cell?_of_block (a := ⟨k, _, none⟩) he).trans h0, (World.cell?_of_block (a := ⟨k, _, none⟩) he).trans h1, (World.cell?_of_block (a := ⟨k, _, none⟩) he).trans h2, (World.cell?_of_block (a := ⟨k, _, none⟩) he).trans h3, (World.cell?_of_block (a := ⟨k, _, none⟩) he).trans h4, (World.cell?_of_block (a := ⟨k, _, none⟩) he).trans h5⟩
theorem heap_far {w : World} {k k' : Nat} (hk : k ≠ k') (i : Nat) (u : Value) : (w.setCell ⟨k', i, none⟩ u).heap[k]? = w.heap[k]? := by
  simp only [World.setCell, Array.getElem?_modify]
  rw [if_neg (by omega)]
theorem heap_far6 {w : World} {k k' : Nat} (hk : k ≠ k') (u0 u1 u2 u3 u4 u5 : Value) : ((((((w.setCell ⟨k', 0, none⟩ u0).setCell ⟨k', 1, none⟩ u1).setCell ⟨k', 2, none⟩ u2).setCell ⟨k', 3, none⟩ u3).setCell ⟨k', 4, none⟩ u4).setCell ⟨k', 5, none⟩ u5).heap[k]? = w.heap[k]? := by
  rw [heap_far hk, heap_far hk, heap_far hk, heap_far hk, heap_far hk, heap_far hk]
/-- a row of values stands where its own block does -/
theorem Vs.on0 {a b : World} {v : Value} {l : List Six} {B : Nat} (h : Vs a v l) (hn : AtNew B v) (hb : ∀ k, B ≤ k → b.heap[k]? = a.heap[k]?) (hs : a.heap.size ≤ b.heap.size) : Vs b v l := by
  obtain ⟨ao, cap, h1, h2, h3, h4, h⟩ := h
  obtain ⟨ao', n', c', h6, h7⟩ := hn
  refine ⟨ao, cap, h1, h2, h3, h4, fun h0 => ?_⟩
  obtain ⟨k, o, h5, hk, h⟩ := h h0
  rw [h1] at h6
  injection h6 with h6
  exact ⟨k, o, h5, by omega, fun j d hj => (h j d hj).blk (hb k (h7 ⟨k, o, none⟩ (h6 ▸ h5)))⟩
theorem Ks.on0 {a b : World} {v : Value} {l : List ByteArray} {B : Nat} (h : Ks a v l) (hn : AtNew B v) (hb : ∀ k, B ≤ k → b.heap[k]? = a.heap[k]?) (hs : a.heap.size ≤ b.heap.size) : Ks b v l := by
  obtain ⟨ao, cap, h1, h2, h3, h4, h⟩ := h
  obtain ⟨ao', n', c', h6, h7⟩ := hn
  refine ⟨ao, cap, h1, h2, h3, h4, fun h0 => ?_⟩
  obtain ⟨k, o, h5, hk, h⟩ := h h0
  rw [h1] at h6
  injection h6 with h6
  exact ⟨k, o, h5, by omega, fun j d hj => (World.cell?_of_block (a := ⟨k, o + j, none⟩) (hb k (h7 ⟨k, o, none⟩ (h6 ▸ h5)))).trans (h j d hj)⟩
theorem Vb.far {w : World} {k k' : Nat} {cs : Array Value} (h : Vb w k cs) (hk : k ≠ k') (i : Nat) (u : Value) : Vb (w.setCell ⟨k', i, none⟩ u) k cs := by
  unfold Vb at h ⊢
  rw [heap_far hk]
  exact h
theorem spl_any (vp vr : Value) (v : Six) (i j : Nat) (its : List Six) (w : World) (hp : Cs 6 w vp i ((its.take i).flatMap Six.cells)) (hr : Cs 6 w vr (its.length - j) ((its.drop j).flatMap Six.cells)) (hv : v.one) (hi : i ≤ its.length) (hj : j ≤ its.length) (hn : its.length ≤ 1000000000) :
    Calls Try.prog 44 #[vp, v.val, vr] w fun e w' => ∃ v', e = .returned v' ∧ Vs w' v' (its.take i ++ ([v] ++ its.drop j)) ∧ Below w.heap.size w w' ∧ AtNew w.heap.size v' := by
  refine (spliceV vp vr v i (its.length - j) _ _ w hp hv hr (by omega)).mono ?_
  rintro e w1 ⟨v', rfl, hcs, b1, hnw⟩
  refine ⟨v', rfl, ?_, b1, hnw⟩
  refine Cs.vs (n := i + 1 + (its.length - j)) ?_ (by simp; omega)
  rw [List.flatMap_append, List.flatMap_append]
  simpa using hcs
set_option maxRecDepth 100000 in
set_option maxHeartbeats 8000000 in
theorem put_no (x v : Six) (keys : List ByteArray) (its : List Six) (key : ByteArray) (w : World) (hk : Ks w x.kv keys) (hi : Vs w x.iv its) (ho : ¬ (x.k = 6 ∧ keys.length = its.length)) :
    Calls Try.prog 25 #[x.val, .string key, v.val] w fun e w' => e = .returned x.val ∧ Below w.heap.size w w' := by
  obtain ⟨ko, kc, hkv, hkl, hkh⟩ := hk.form
  obtain ⟨io, ic, hiv, hil, hih⟩ := hi.form
  obtain ⟨k, c, s, st, iv, kv⟩ := x
  simp only at hkv hiv
  subst hkv hiv
  have hio := fun w => isObject_v k c s st io ko its.length ic keys.length kc w
  unfold vV at hio
  unfold Six.val vV
  have e1 : decide (k = 6 ∧ keys.length = its.length) = false := decide_eq_false ho
  rw [e1] at hio
  have HIO := Lib.hid hio
  clear hkh hih hk hi hio e1 ho
  obtain ⟨v0, v1, v2, v3, v4, v5⟩ := v
  have HV0 : Hid (Vb (((w.alloc (.cells #[.int .i64 k, .int .i64 c, .int .i64 s, .string st, .slice io its.length ic, .slice ko keys.length kc] 27)).alloc (.cells #[.int .i64 v0, .int .i64 v1, .int .i64 v2, .string v3, v4, v5] 27)).alloc (.cells #[.int .i64 0, .int .i64 0, .int .i64 0, .string ⟨#[]⟩, .slice none 0 0, .slice none 0 0] 27)) w.heap.size #[.int .i64 k, .int .i64 c, .int .i64 s, .string st, .slice io its.length ic, .slice ko keys.length kc] ∧ Vb (((w.alloc (.cells #[.int .i64 k, .int .i64 c, .int .i64 s, .string st, .slice io its.length ic, .slice ko keys.length kc] 27)).alloc (.cells #[.int .i64 v0, .int .i64 v1, .int .i64 v2, .string v3, v4, v5] 27)).alloc (.cells #[.int .i64 0, .int .i64 0, .int .i64 0, .string ⟨#[]⟩, .slice none 0 0, .slice none 0 0] 27)) (w.heap.size + 1) #[.int .i64 v0, .int .i64 v1, .int .i64 v2, .string v3, v4, v5] ∧ Vb (((w.alloc (.cells #[.int .i64 k, .int .i64 c, .int .i64 s, .string st, .slice io its.length ic, .slice ko keys.length kc] 27)).alloc (.cells #[.int .i64 v0, .int .i64 v1, .int .i64 v2, .string v3, v4, v5] 27)).alloc (.cells #[.int .i64 0, .int .i64 0, .int .i64 0, .string ⟨#[]⟩, .slice none 0 0, .slice none 0 0] 27)) (w.heap.size + 2) #[.int .i64 0, .int .i64 0, .int .i64 0, .string ⟨#[]⟩, .slice none 0 0, .slice none 0 0]) :=
    Lib.hid ⟨((Vb.new w _).alloc _).alloc _, by simpa using (Vb.new (w.alloc (.cells #[.int .i64 k, .int .i64 c, .int .i64 s, .string st, .slice io its.length ic, .slice ko keys.length kc] 27)) #[.int .i64 v0, .int .i64 v1, .int .i64 v2, .string v3, v4, v5]).alloc (.cells #[.int .i64 0, .int .i64 0, .int .i64 0, .string ⟨#[]⟩, .slice none 0 0, .slice none 0 0] 27), by simpa using Vb.new ((w.alloc (.cells #[.int .i64 k, .int .i64 c, .int .i64 s, .string st, .slice io its.length ic, .slice ko keys.length kc] 27)).alloc (.cells #[.int .i64 v0, .int .i64 v1, .int .i64 v2, .string v3, v4, v5] 27)) #[.int .i64 0, .int .i64 0, .int .i64 0, .string ⟨#[]⟩, .slice none 0 0, .slice none 0 0]⟩
  have HB0 : Hid (Below w.heap.size w (((w.alloc (.cells #[.int .i64 k, .int .i64 c, .int .i64 s, .string st, .slice io its.length ic, .slice ko keys.length kc] 27)).alloc (.cells #[.int .i64 v0, .int .i64 v1, .int .i64 v2, .string v3, v4, v5] 27)).alloc (.cells #[.int .i64 0, .int .i64 0, .int .i64 0, .string ⟨#[]⟩, .slice none 0 0, .slice none 0 0] 27))) := Lib.hid (((bA1 _ _).alloc (by simp) _).alloc (by simp; omega) _)
  have hs0 : w.heap.size + 3 ≤ (((w.alloc (.cells #[.int .i64 k, .int .i64 c, .int .i64 s, .string st, .slice io its.length ic, .slice ko keys.length kc] 27)).alloc (.cells #[.int .i64 v0, .int .i64 v1, .int .i64 v2, .string v3, v4, v5] 27)).alloc (.cells #[.int .i64 0, .int .i64 0, .int .i64 0, .string ⟨#[]⟩, .slice none 0 0, .slice none 0 0] 27)).heap.size := by simp
  go_enter Try.func25, Try.ntmps25
  go_wp2_with (go_at_call 42; refine (HIO.out _).mono ?_; rintro e w1 ⟨rfl, b1⟩; have HV1 := Lib.hid (And.intro (HV0.out.1.on b1) (And.intro (HV0.out.2.1.on b1) (HV0.out.2.2.on b1))); have HB1 := Lib.hid (bT HB0.out b1); have hs1 := Nat.le_trans hs0 b1.size; obtain ⟨z0, z1, z2, z3, z4, z5⟩ := HV1.out.1.six; obtain ⟨r0, r1, r2, r3, r4, r5⟩ := HV1.out.2.1.six; obtain ⟨t0, t1, t2, t3, t4, t5⟩ := HV1.out.2.2.six; have hf0 := fun o => HV1.out.1.free o; have hf2 := fun o => HV1.out.2.2.free o)
  obtain ⟨y0, y1, y2, y3, y4, y5⟩ := (HV1.out.2.2.put (.int .i64 k) (.int .i64 c) (.int .i64 s) (.string st) (.slice io its.length ic) (.slice ko keys.length kc)).six
  have HBE := Lib.hid (b6 HB1.out (by omega : w.heap.size ≤ w.heap.size + 2) (.int .i64 k) (.int .i64 c) (.int .i64 s) (.string st) (.slice io its.length ic) (.slice ko keys.length kc))
  clear z0 z1 z2 z3 z4 z5 r0 r1 r2 r3 r4 r5 t0 t1 t2 t3 t4 t5 hf0 hf2
  simp [bodyPost, results, Try.results25, go_sem, y0, y1, y2, y3, y4, y5]
  exact HBE.out
set_option maxRecDepth 100000 in
set_option maxHeartbeats 8000000 in
theorem put_has (x v : Six) (keys : List ByteArray) (its : List Six) (key : ByteArray) (i : Nat) (w : World) (hk : Ks w x.kv keys) (hi : Vs w x.iv its) (h1 : ∀ y ∈ its, y.one) (hv : v.one) (hn : its.length ≤ 1000000000) (ho : x.k = 6 ∧ keys.length = its.length) (hx : idx keys key = i) (hil : i < its.length) :
    Calls Try.prog 25 #[x.val, .string key, v.val] w fun e w' => ∃ iv', e = .returned (Six.val ⟨x.k, x.c, x.s, x.st, iv', x.kv⟩) ∧ Vs w' iv' (its.take i ++ ([v] ++ its.drop (i + 1))) ∧ Below w.heap.size w w' ∧ AtNew w.heap.size iv' := by
  have hcs := hi.cs h1
  obtain ⟨ko, kc, hkv, hkl, hkh⟩ := hk.form
  obtain ⟨io, ic, hiv, hicl, hih⟩ := hi.form
  obtain ⟨g, o, hio2, hg, _⟩ := hih (by omega)
  have hicm : ic ≤ maxLen := by obtain ⟨_, _, q0, _, q2, _⟩ := hi; rw [hiv] at q0; injection q0 with _ _ q3; omega
  subst hio2
  obtain ⟨k, c, s, st, iv, kv⟩ := x
  simp only at hkv hiv
  subst hkv hiv
  have hio := fun w => isObject_v k c s st (some ⟨g, o, none⟩) ko its.length ic keys.length kc w
  unfold vV at hio
  unfold Six.val vV
  have e1 : decide (k = 6 ∧ keys.length = its.length) = true := decide_eq_true ho
  rw [e1] at hio
  have HIO := Lib.hid hio
  have hix : ∀ w', Below w.heap.size w w' → Calls Try.prog 43 #[.slice ko keys.length kc, .string key] w' fun e w'' => e = .returned (.int .i64 (idx keys key)) ∧ w' = w'' := fun w' h => index_any _ keys key w' (hk.on h) (by omega)
  rw [hx] at hix
  have HIX := Lib.hid hix
  have HC := Lib.hid hcs
  have HV := Lib.hid hv
  unfold maxLen at hicm
  clear hkh hih hk hi hio e1 ho hix hx hcs hv h1
  obtain ⟨v0, v1, v2, v3, v4, v5⟩ := v
  have hsp : ∀ w' R, Below w.heap.size w w' → Cs 6 w R (its.length - (i + 1)) ((its.drop (i + 1)).flatMap Six.cells) → Calls Try.prog 44 #[.slice (some ⟨g, o, none⟩) i ic, (.agg #[.int .i64 v0, .int .i64 v1, .int .i64 v2, .string v3, v4, v5]), R] w' (fun e w'' => ∃ v', e = .returned v' ∧ Vs w'' v' (its.take i ++ ([⟨v0, v1, v2, v3, v4, v5⟩] ++ its.drop (i + 1))) ∧ Below w'.heap.size w' w'' ∧ AtNew w'.heap.size v') :=
    fun w' R hb hr => spl_any _ R ⟨v0, v1, v2, v3, v4, v5⟩ i (i + 1) its w' ((flat_take its i ▸ HC.out.pre (by omega) (fun h => by cases h)).on hb) (hr.on hb) HV.out (by omega) (by omega) hn
  have HSP0 := Lib.hid hsp
  clear hsp
  have HV0 : Hid (Vb (((w.alloc (.cells #[.int .i64 k, .int .i64 c, .int .i64 s, .string st, .slice (some ⟨g, o, none⟩) its.length ic, .slice ko keys.length kc] 27)).alloc (.cells #[.int .i64 v0, .int .i64 v1, .int .i64 v2, .string v3, v4, v5] 27)).alloc (.cells #[.int .i64 0, .int .i64 0, .int .i64 0, .string ⟨#[]⟩, .slice none 0 0, .slice none 0 0] 27)) w.heap.size #[.int .i64 k, .int .i64 c, .int .i64 s, .string st, .slice (some ⟨g, o, none⟩) its.length ic, .slice ko keys.length kc] ∧ Vb (((w.alloc (.cells #[.int .i64 k, .int .i64 c, .int .i64 s, .string st, .slice (some ⟨g, o, none⟩) its.length ic, .slice ko keys.length kc] 27)).alloc (.cells #[.int .i64 v0, .int .i64 v1, .int .i64 v2, .string v3, v4, v5] 27)).alloc (.cells #[.int .i64 0, .int .i64 0, .int .i64 0, .string ⟨#[]⟩, .slice none 0 0, .slice none 0 0] 27)) (w.heap.size + 1) #[.int .i64 v0, .int .i64 v1, .int .i64 v2, .string v3, v4, v5] ∧ Vb (((w.alloc (.cells #[.int .i64 k, .int .i64 c, .int .i64 s, .string st, .slice (some ⟨g, o, none⟩) its.length ic, .slice ko keys.length kc] 27)).alloc (.cells #[.int .i64 v0, .int .i64 v1, .int .i64 v2, .string v3, v4, v5] 27)).alloc (.cells #[.int .i64 0, .int .i64 0, .int .i64 0, .string ⟨#[]⟩, .slice none 0 0, .slice none 0 0] 27)) (w.heap.size + 2) #[.int .i64 0, .int .i64 0, .int .i64 0, .string ⟨#[]⟩, .slice none 0 0, .slice none 0 0]) :=
    Lib.hid ⟨((Vb.new w _).alloc _).alloc _, by simpa using (Vb.new (w.alloc (.cells #[.int .i64 k, .int .i64 c, .int .i64 s, .string st, .slice (some ⟨g, o, none⟩) its.length ic, .slice ko keys.length kc] 27)) #[.int .i64 v0, .int .i64 v1, .int .i64 v2, .string v3, v4, v5]).alloc (.cells #[.int .i64 0, .int .i64 0, .int .i64 0, .string ⟨#[]⟩, .slice none 0 0, .slice none 0 0] 27), by simpa using Vb.new ((w.alloc (.cells #[.int .i64 k, .int .i64 c, .int .i64 s, .string st, .slice (some ⟨g, o, none⟩) its.length ic, .slice ko keys.length kc] 27)).alloc (.cells #[.int .i64 v0, .int .i64 v1, .int .i64 v2, .string v3, v4, v5] 27)) #[.int .i64 0, .int .i64 0, .int .i64 0, .string ⟨#[]⟩, .slice none 0 0, .slice none 0 0]⟩
  have HB0 : Hid (Below w.heap.size w (((w.alloc (.cells #[.int .i64 k, .int .i64 c, .int .i64 s, .string st, .slice (some ⟨g, o, none⟩) its.length ic, .slice ko keys.length kc] 27)).alloc (.cells #[.int .i64 v0, .int .i64 v1, .int .i64 v2, .string v3, v4, v5] 27)).alloc (.cells #[.int .i64 0, .int .i64 0, .int .i64 0, .string ⟨#[]⟩, .slice none 0 0, .slice none 0 0] 27))) := Lib.hid (((bA1 _ _).alloc (by simp) _).alloc (by simp; omega) _)
  have hs0 : w.heap.size + 3 ≤ (((w.alloc (.cells #[.int .i64 k, .int .i64 c, .int .i64 s, .string st, .slice (some ⟨g, o, none⟩) its.length ic, .slice ko keys.length kc] 27)).alloc (.cells #[.int .i64 v0, .int .i64 v1, .int .i64 v2, .string v3, v4, v5] 27)).alloc (.cells #[.int .i64 0, .int .i64 0, .int .i64 0, .string ⟨#[]⟩, .slice none 0 0, .slice none 0 0] 27)).heap.size := by simp
  have i0 : ¬ (i : Int) < 0 := by omega
  have HWR : Hid (IntKind.i64.wrap ((i : Int) + 1) = (i : Int) + 1) := Lib.hid (IntWalk.i64_in _ (by omega))
  have HTN : Hid (((i : Int) + 1).toNat = i + 1) := Lib.hid (by omega)
  go_enter Try.func25, Try.ntmps25
  go_upto_region 5 with (first | (go_at_call 42; refine (HIO.out _).mono ?_; rintro e w1 ⟨rfl, b1⟩; have HV1 := Lib.hid (And.intro (HV0.out.1.on b1) (And.intro (HV0.out.2.1.on b1) (HV0.out.2.2.on b1))); have HB1 := Lib.hid (bT HB0.out b1); have hs1 := Nat.le_trans hs0 b1.size; obtain ⟨z0, z1, z2, z3, z4, z5⟩ := HV1.out.1.six; obtain ⟨r0, r1, r2, r3, r4, r5⟩ := HV1.out.2.1.six; obtain ⟨t0, t1, t2, t3, t4, t5⟩ := HV1.out.2.2.six; have hf0 := fun o => HV1.out.1.free o; have hf2 := fun o => HV1.out.2.2.free o) | (go_at_call 43; refine (HIX.out _ HB1.out).mono ?_; rintro e w2 ⟨rfl, rfl⟩))
  go_cut [29] (fun _ wx => ∃ ra n rc, Hid (Vs wx (.slice ra n rc) (its.take i ++ ([⟨v0, v1, v2, v3, v4, v5⟩] ++ its.drop (i + 1))) ∧ AtNew (w.heap.size + 3) (.slice ra n rc)) ∧ Hid (Vb wx w.heap.size #[.int .i64 k, .int .i64 c, .int .i64 s, .string st, .slice ra n rc, .slice ko keys.length kc] ∧ Vb wx (w.heap.size + 2) #[.int .i64 0, .int .i64 0, .int .i64 0, .string ⟨#[]⟩, .slice none 0 0, .slice none 0 0]) ∧ Hid (Below w.heap.size w wx) ∧ w.heap.size + 3 ≤ wx.heap.size)
  case first =>
    have i1 : (i : Int) + 1 ≤ (its.length : Int) := by omega
    have i2 : (i : Int) ≤ (its.length : Int) := by omega
    have j1 : (i : Int) ≤ (ic : Int) := by omega
    have j2 : i ≤ ic := by omega
    have j3 : i + 1 ≤ its.length := by omega
    have j4 : (i : Int) + 1 ≤ (ic : Int) := by omega
    have j5 : i ≤ its.length := by omega
    have j6 : (0 : Int) ≤ (i : Int) + 1 := by omega
    have j8 : i + 1 ≤ ic := by omega
    by_cases hcap : ic = i + 1
    · subst hcap
      have HSP := Lib.hid (fun w' h => HSP0.out w' (.slice (some ⟨g, o, none⟩) 0 0) h (by rw [List.drop_eq_nil_of_le (by omega), show its.length - (i + 1) = 0 by omega]; exact Cs.zero _ _ _))
      go_still_tail 10, (by kernel_rfl)
      (refine wpStill_step (fun K hK => ?_); go_simp; (try simp only [HWR.out, HTN.out]); (repeat (first | rw [if_pos (by omega)] | rw [if_neg (by omega)])); (try go_simp); (repeat (first | rw [if_pos (by omega)] | rw [if_neg (by omega)])); (try go_simp); refine hK _ ?_; clear hK K)
      repeat still_step
      (try (refine wpStill_step (fun K hK => ?_); go_simp; (try simp only [HWR.out, HTN.out]); (repeat (first | rw [if_pos (by omega)] | rw [if_neg (by omega)])); (try go_simp); (repeat (first | rw [if_pos (by omega)] | rw [if_neg (by omega)])); (try go_simp); refine hK _ ?_; clear hK K))
      (try refine wpStill_nil ?_)
      change wpList _ _ _ _ _ w1.drew
      go_wp2_with (go_at_call 44; refine (HSP.out _ HB1.out.drew).mono ?_; rintro e w3 ⟨iv', rfl, hvs, b3, hnw⟩; have HVS := Lib.hid hvs; have HNW := Lib.hid (hnw.mono hs1); obtain ⟨ra, n, rc, rfl⟩ := hvs.form'; clear hvs hnw; have HV3 := Lib.hid (And.intro ((HV1.out.1.on (Below.refl _ _).drew).on b3) ((HV1.out.2.2.on (Below.refl _ _).drew).on b3)); have HB3 := Lib.hid (bT HB1.out.drew b3); have hs3 : w.heap.size + 3 ≤ w3.heap.size := Nat.le_trans hs1 b3.size; obtain ⟨u0, u1, u2, u3, u4, u5⟩ := HV3.out.1.six; have hf3 := fun o => HV3.out.1.free o)
      go_meet
      exact ⟨ra, n, rc, Lib.hid (And.intro (HVS.out.on0 HNW.out (fun q hq => heap_far (by omega) _ _) (by simp)) HNW.out), Lib.hid ⟨HV3.out.1.set 4 _, HV3.out.2.far (k' := w.heap.size) (by omega) 4 _⟩, Lib.hid (HB3.out.setCell (Nat.le_refl _) _), by simpa using hs3⟩
    · have c1 : i + 1 < ic := by omega
      have c2 : ¬ ic ≤ i + 1 := by omega
      have c3 : ¬ ic = i + 1 := by omega
      have c4 : ¬ ic - (i + 1) = 0 := by omega
      have c5 : (i : Int) + 1 < (ic : Int) := by omega
      have HSP := Lib.hid (fun w' h => HSP0.out w' (.slice (some ⟨g, o + (i + 1) * 6, none⟩) (its.length - (i + 1)) (ic - (i + 1))) h (by have := HC.out.suf (i := i + 1) (by omega); rw [add_at, flat_drop] at this; exact this))
      go_still_tail 10, (by kernel_rfl)
      (refine wpStill_step (fun K hK => ?_); go_simp; (try simp only [HWR.out, HTN.out]); (repeat (first | rw [if_pos (by omega)] | rw [if_neg (by omega)])); (try go_simp); (repeat (first | rw [if_pos (by omega)] | rw [if_neg (by omega)])); (try go_simp); refine hK _ ?_; clear hK K)
      repeat still_step
      (try (refine wpStill_step (fun K hK => ?_); go_simp; (try simp only [HWR.out, HTN.out]); (repeat (first | rw [if_pos (by omega)] | rw [if_neg (by omega)])); (try go_simp); (repeat (first | rw [if_pos (by omega)] | rw [if_neg (by omega)])); (try go_simp); refine hK _ ?_; clear hK K))
      (try refine wpStill_nil ?_)
      change wpList _ _ _ _ _ w1.drew
      go_wp2_with (go_at_call 44; refine (HSP.out _ HB1.out.drew).mono ?_; rintro e w3 ⟨iv', rfl, hvs, b3, hnw⟩; have HVS := Lib.hid hvs; have HNW := Lib.hid (hnw.mono hs1); obtain ⟨ra, n, rc, rfl⟩ := hvs.form'; clear hvs hnw; have HV3 := Lib.hid (And.intro ((HV1.out.1.on (Below.refl _ _).drew).on b3) ((HV1.out.2.2.on (Below.refl _ _).drew).on b3)); have HB3 := Lib.hid (bT HB1.out.drew b3); have hs3 : w.heap.size + 3 ≤ w3.heap.size := Nat.le_trans hs1 b3.size; obtain ⟨u0, u1, u2, u3, u4, u5⟩ := HV3.out.1.six; have hf3 := fun o => HV3.out.1.free o)
      go_meet
      exact ⟨ra, n, rc, Lib.hid (And.intro (HVS.out.on0 HNW.out (fun q hq => heap_far (by omega) _ _) (by simp)) HNW.out), Lib.hid ⟨HV3.out.1.set 4 _, HV3.out.2.far (k' := w.heap.size) (by omega) 4 _⟩, Lib.hid (HB3.out.setCell (Nat.le_refl _) _), by simpa using hs3⟩
  case rest =>
    clear z0 z1 z2 z3 z4 z5 r0 r1 r2 r3 r4 r5 t0 t1 t2 t3 t4 t5 hf0 hf2
    obtain ⟨ra, n, rc, HVS, HV3, HB3, hs3⟩ := hcut
    obtain ⟨z0, z1, z2, z3, z4, z5⟩ := HV3.out.1.six
    obtain ⟨t0, t1, t2, t3, t4, t5⟩ := HV3.out.2.six
    have hf2 := fun o => HV3.out.2.free o
    go_wp2_with fail
    obtain ⟨y0, y1, y2, y3, y4, y5⟩ := (HV3.out.2.put (.int .i64 k) (.int .i64 c) (.int .i64 s) (.string st) (.slice ra n rc) (.slice ko keys.length kc)).six
    have HBE := Lib.hid (b6 HB3.out (by omega : w.heap.size ≤ w.heap.size + 2) (.int .i64 k) (.int .i64 c) (.int .i64 s) (.string st) (.slice ra n rc) (.slice ko keys.length kc))
    clear z0 z1 z2 z3 z4 z5 t0 t1 t2 t3 t4 t5 hf2
    simp [bodyPost, results, Try.results25, go_sem, y0, y1, y2, y3, y4, y5]
    exact ⟨HVS.out.1.on0 HVS.out.2 (fun q hq => heap_far6 (by omega) _ _ _ _ _ _) (by simp), HBE.out, HVS.out.2.mono (by omega)⟩
end Jv
end Go.Proofs.Ytkmfoclhhnhkdaa
