/- The document's shape, of every value of few keys: it answers. -/
import Derived.Test.YtelladgeehlkpaaNdStrip
import Derived.Test.YtelladgeehlkpaaJvRIs
import Derived.Test.YtelladgeehlkpaaNdRef
import Derived.Deep.RegionHeld3
namespace Go.Proofs.Ytelladgeehlkpaa
open Go.RowKit
namespace Nd
open _root_.Go.Proofs.Ytelladgeehlkpaa.Nm _root_.Go.Proofs.Ytelladgeehlkpaa.Jv
/-- has a value few keys, and each value in it? -/
def Sk (B : Nat) : Nat → JV → Prop
  | 0, _ => True
  | n + 1, t => t.keys.length ≤ B ∧ ∀ z ∈ t.items, Sk B n z
theorem Sn.sk {B : Nat} : ∀ (n : Nat) {t : NV}, Sn B n t → Sk B n t.strip
  | 0, _, _ => trivial
  | n + 1, t, ⟨_, _, h1, h3⟩ => ⟨by rw [strip_keys]; exact h1, fun z hz => by
    rw [strip_items] at hz
    obtain ⟨y, hy, rfl⟩ := List.mem_map.1 hz
    exact Sn.sk n (h3 y hy)⟩
def six0 : Six := ⟨0, 0, 0, ⟨#[]⟩, .slice none 0 0, .slice none 0 0⟩
def jv0 : JV := .mk 0 0 0 ⟨#[]⟩ [] []
theorem VT.zero (w : World) (n : Nat) : VT w (n + 1) six0 jv0 :=
  ⟨rfl, rfl, rfl, rfl, Ks.nil0 w, ⟨by decide, by decide, by decide, by decide, fun x hx => by simp [jv0, JV.keys] at hx⟩, [], Vs.nil0 w, rfl, fun j y z h => by simp at h⟩
theorem SmA.zero (B : Nat) : SmA B jv0 := fun n => by
  cases n with
  | zero => trivial
  | succ n => exact ⟨Nat.zero_le _, fun x hx => by simp [jv0, JV.keys] at hx, fun z hz => by simp [jv0, JV.items] at hz⟩
theorem SmA.make {B : Nat} {k c s : Int} {st : ByteArray} {items : List JV} {ks : List ByteArray} (h1 : st.size ≤ B) (h2 : ∀ x ∈ ks, x.size ≤ B) (h3 : ∀ z ∈ items, SmA B z) : SmA B (.mk k c s st items ks) := fun n => by
  cases n with
  | zero => exact trivial
  | succ n => exact ⟨h1, h2, fun z hz => h3 z hz n⟩
theorem wpList_app6 {ops : Array Oper} {rest : List Oper} {o : Oper} {a : Act} {w : World} {Q : Exit → Act → World → Prop} (hgd : o.guard = none) (s x : Operand)
    (hop : o.op = Op.call { callee := Callee.builtin Builtin.append, args := #[s, x], argTypes := #[60, 60] }) (B b : Nat) (v : Value) (l : List Six) (y : Six) (hs : a.eval s = v) (hx : a.eval x = .slice (some ⟨b, 0, none⟩) 1 1)
    (h : Own6 B w v l) (hy : w.heap[b]? = some (.cells y.cells.toArray 62 (0, 0))) (h1 : one6 y) (hn : l.length ≤ 1000000000) (hB : B ≤ w.heap.size)
    (hK : ∀ v' w', Own6 B w' v' (l ++ [y]) → Below B w w' → wpList Try.prog ops Q rest (a.put o.dst v') w') :
    wpList Try.prog ops Q (o :: rest) a w := by
  refine wpList_plain hgd fun K hK' => ?_
  obtain ⟨v', w', hrun, r1, r2, r3, r4⟩ := app6 o.type h hy h1 hn hB
  unfold Oper.wp
  simp [execOp, hop, resolve, invoke, builtin, hs, hx, hrun, Result.andThen]
  exact hK' _ _ (hK v' w' r1 r3)
set_option maxRecDepth 100000 in
set_option maxHeartbeats 8000000 in
theorem shape_any : ∀ (n : Nat) (x : Six) (t : JV) (w : World), VT w n x t → SmA 1000000000 t → Sk 2000000 n t → Calls Try.prog 33 #[x.val] w fun e w' => ∃ b, e = .returned (.bool b) ∧ Below w.heap.size w w' := by
  intro n
  induction n with
  | zero => intro x t w hv; exact hv.elim
  | succ n ih =>
    intro x t w hv hsm hsk
    have IH := Lib.hid ih
    have HSM := Lib.hid hsm
    have HSK := Lib.hid hsk
    have hkl := hsk.1
    clear ih hsm hsk
    obtain ⟨e1, e2, e3, e4, e5, hB, l, hl, hll, hlt⟩ := hv
    obtain ⟨k, c, s, st, iv, kv⟩ := x
    simp only at e1 e2 e3 e4 e5 hB hl
    obtain ⟨ao, cap, rfl, hc, h⟩ := hl.form
    have hmx : l.length ≤ maxLen := by obtain ⟨_, _, q1, q2, q3, _⟩ := hl; omega
    have HKV := Lib.hid e5
    obtain ⟨ko, kc, rfl, hkc, _⟩ := e5.form
    unfold maxLen at hmx
    have H := Lib.hid h
    have HL := Lib.hid hll
    have HT := Lib.hid hlt
    have HB := Lib.hid hB
    have HST := Lib.hid e4
    clear h hll hlt e1 e2 e3 e4 e5 hB hl hc hkc
    unfold Six.val vV
    have hV0 : Vb ((w.alloc (Obj.cells #[.int .i64 k, .int .i64 c, .int .i64 s, .string st, .slice ao l.length cap, .slice ko t.keys.length kc] 62)).alloc (Obj.cells #[.int .i64 k, .int .i64 c, .int .i64 s, .string st, .slice none 0 0, .slice ko t.keys.length kc] 62)) w.heap.size #[.int .i64 k, .int .i64 c, .int .i64 s, .string st, .slice ao l.length cap, .slice ko t.keys.length kc] := (Vb.new w _).alloc _
    have hW0 : Vb ((w.alloc (Obj.cells #[.int .i64 k, .int .i64 c, .int .i64 s, .string st, .slice ao l.length cap, .slice ko t.keys.length kc] 62)).alloc (Obj.cells #[.int .i64 k, .int .i64 c, .int .i64 s, .string st, .slice none 0 0, .slice ko t.keys.length kc] 62)) (w.heap.size + 1) #[.int .i64 k, .int .i64 c, .int .i64 s, .string st, .slice none 0 0, .slice ko t.keys.length kc] := by
      have := Vb.new (w.alloc (Obj.cells #[.int .i64 k, .int .i64 c, .int .i64 s, .string st, .slice ao l.length cap, .slice ko t.keys.length kc] 62)) #[.int .i64 k, .int .i64 c, .int .i64 s, .string st, .slice none 0 0, .slice ko t.keys.length kc]
      simpa using this
    have hbel0 : Below w.heap.size w ((w.alloc (Obj.cells #[.int .i64 k, .int .i64 c, .int .i64 s, .string st, .slice ao l.length cap, .slice ko t.keys.length kc] 62)).alloc (Obj.cells #[.int .i64 k, .int .i64 c, .int .i64 s, .string st, .slice none 0 0, .slice ko t.keys.length kc] 62)) := bT (bA1 _ _) (bA1 _ _)
    obtain ⟨w2, hw2⟩ : ∃ w2, (w.alloc (Obj.cells #[.int .i64 k, .int .i64 c, .int .i64 s, .string st, .slice ao l.length cap, .slice ko t.keys.length kc] 62)).alloc (Obj.cells #[.int .i64 k, .int .i64 c, .int .i64 s, .string st, .slice none 0 0, .slice ko t.keys.length kc] 62) = w2 := ⟨_, rfl⟩
    have hsz2 : w2.heap.size = w.heap.size + 2 := by rw [← hw2]; simp
    rw [hw2] at hV0 hW0 hbel0
    go_enter Try.func33, Try.ntmps33
    go_upto_region 3 with fail
    clear hw2
    obtain ⟨z0, z1, z2, z3, z4, z5⟩ := hV0.six
    go_cut [35] (fun q wx => w2 = wx ∧ ∃ b : Bool, q = .bool b)
    case first =>
      rcases Bool.eq_false_or_eq_true (k == 6) with h6 | h6
      · have g6 : (k != 6) = false := by simp [bne, h6]
        have g5 : (k == 5) = false := by have : k = 6 := by simpa using h6
                                         rw [this]; rfl
        have g5' : (k != 5) = true := by simp [bne, g5]
        by_cases he : t.keys.length = l.length
        · have q1 : ((t.keys.length : Int) == (l.length : Int)) = true := by simp; omega
          have q2 : ((t.keys.length : Int) != (l.length : Int)) = false := by simp; omega
          clear he
          go_wp2_with fail
          all_goals (go_meet; exact ⟨rfl, _, rfl⟩)
        · have q1 : ((t.keys.length : Int) == (l.length : Int)) = false := by rw [beq_eq_false_iff_ne]; omega
          have q2 : ((t.keys.length : Int) != (l.length : Int)) = true := by simp [bne, q1]
          clear he
          go_wp2_with fail
          all_goals (go_meet; exact ⟨rfl, _, rfl⟩)
      · have g6 : (k != 6) = true := by simp [bne, h6]
        rcases Bool.eq_false_or_eq_true (k == 5) with h5 | h5
        · have g5 : (k != 5) = false := by simp [bne, h5]
          go_wp2_with fail
          all_goals (go_meet; exact ⟨rfl, _, rfl⟩)
        · have g5 : (k != 5) = true := by simp [bne, h5]
          by_cases h0 : 0 < l.length
          · have q1 : decide (0 < (l.length : Int)) = true := by rw [decide_eq_true_eq]; omega
            clear h0
            go_wp2_with fail
            all_goals (go_meet; exact ⟨rfl, _, rfl⟩)
          · have q1 : decide (0 < (l.length : Int)) = false := by rw [decide_eq_false_iff_not]; omega
            clear h0
            go_wp2_with fail
            all_goals (go_meet; exact ⟨rfl, _, rfl⟩)
    case rest =>
    obtain ⟨rfl, b0, rfl⟩ := hcut
    cases b0 with
    | true =>
      go_wp2_with fail
      go_ret
      exact ⟨false, rfl, hbel0⟩
    | false =>
    have HV0 := Lib.hid hV0
    have HBE0 := Lib.hid hbel0
    have HW0 := Lib.hid hW0
    have hkv2 := HKV.out.on hbel0
    have HK2 := Lib.hid hkv2
    clear hV0 hbel0 hW0 hkv2 z0 z1 z2 z3 z4 z5
    go_wp2_with fail
    go_loopw [4] (fun i wr => ∃ (j : Nat) (vv : Value), i = .int .i64 (j : Nat) ∧ j ≤ t.keys.length ∧ Hid (Below (w.heap.size + 1) w2 wr) ∧ Hid (Vb wr (w.heap.size + 1) #[.int .i64 k, .int .i64 c, .int .i64 s, .string st, vv, .slice ko t.keys.length kc]) ∧ Hid (Own6 (w.heap.size + 2) wr vv (List.replicate j six0))) (fun i _ => t.keys.length - (intOf i).toNat)
    case atStart => exact ⟨0, _, rfl, by omega, Lib.hid (Below.refl _ _), HW0, Lib.hid (Own6.nil _ _)⟩
    case round =>
      obtain ⟨j, vv, rfl, hj, HB1, HW1, HO1⟩ := hrel
      have HV1 : Hid (Vb wr w.heap.size #[.int .i64 k, .int .i64 c, .int .i64 s, .string st, .slice ao l.length cap, .slice ko t.keys.length kc]) := Lib.hid ((HB1.out.block _ (by omega)).trans HV0.out)
      obtain ⟨z0, z1, z2, z3, z4, z5⟩ := HV1.out.six
      obtain ⟨va, vc, hvv⟩ := HO1.out.form
      rw [List.length_replicate] at hvv
      subst hvv
      obtain ⟨p0, p1, p2, p3, p4, p5⟩ := HW1.out.six
      have hszr : w.heap.size + 2 ≤ wr.heap.size := by have := HB1.out.size; omega
      by_cases hlt : j < t.keys.length
      · have i1 : (j : Int) < (t.keys.length : Int) := by omega
        go_wp2_with (at_builtin; refine wpList_app6 rfl _ _ rfl (w.heap.size + 2) wr.heap.size (.slice va j vc) (List.replicate j six0) six0 rfl rfl (HO1.out.on (bA1 _ _)) (heap_alloc_new wr _) ⟨rfl, rfl⟩ (by simp; omega) (by simp; omega) ?_; intro v9 w9 ho9 hb9; have HO9 := Lib.hid ho9; obtain ⟨va9, vc9, hv9⟩ := ho9.form; rw [List.length_append, List.length_replicate, List.length_singleton] at hv9; subst hv9; have hW9 : Vb w9 (w.heap.size + 1) #[.int .i64 k, .int .i64 c, .int .i64 s, .string st, .slice va j vc, .slice ko t.keys.length kc] := (hb9.block _ (by omega)).trans (HW1.out.alloc (Obj.cells #[.int .i64 0, .int .i64 0, .int .i64 0, .string ⟨#[]⟩, .slice none 0 0, .slice none 0 0] 62)); have HW9 := Lib.hid hW9; obtain ⟨r0, r1, r2, r3, r4, r5⟩ := hW9.six; have hf9 := fun i => hW9.free i; have HB9 := Lib.hid (hb9.mono (show w.heap.size + 1 ≤ w.heap.size + 2 by omega)); clear ho9 hb9 hW9)
        have HBX : Hid (Below (w.heap.size + 1) w2 w9) := Lib.hid ((HB1.out.trans ((bA1 wr _).mono (by omega))).trans HB9.out)
        go_roundw
        case rel => exact ⟨j + 1, _, by go_num, by omega, Lib.hid (HBX.out.setCell (Nat.le_refl _) _), Lib.hid (HW9.out.set 4 _), Lib.hid (by rw [List.replicate_succ']; exact HO9.out.set 4 _ (by omega))⟩
        case measure => simp [intOf]; omega
      · obtain rfl : j = t.keys.length := by omega
        have hIS : Calls Try.prog 57 #[(Six.mk k c s st (.slice va t.keys.length vc) (.slice ko t.keys.length kc)).val, .int .i64 0] wr fun e w' => e = .returned (.bool (isT 33 (.mk k c s st (List.replicate t.keys.length jv0) t.keys))) ∧ Below wr.heap.size wr w' := by
          have hbw : Below w.heap.size w wr := HBE0.out.trans (HB1.out.mono (by omega))
          refine ris_any 33 2 _ _ 0 wr (by omega) (by omega) ⟨rfl, rfl, rfl, rfl, HKV.out.on hbw, HB.out, List.replicate t.keys.length six0, HO1.out.vs (fun y hy => by rw [List.eq_of_mem_replicate hy]; exact ⟨rfl, rfl⟩), by simp [JV.items], fun q y z hy hz => ?_⟩ ?_
          · rw [List.eq_of_mem_replicate (List.mem_of_getElem? hy), List.eq_of_mem_replicate (List.mem_of_getElem? hz)]
            exact VT.zero wr 0
          · exact SmA.make (by rw [show st = t.st from HST.out]; exact HSM.out.st) HSM.out.key (fun z hz => by rw [List.eq_of_mem_replicate hz]; exact SmA.zero _)
        unfold Six.val vV at hIS
        simp only at hIS
        generalize isT 33 (.mk k c s st (List.replicate t.keys.length jv0) t.keys) = bi at hIS
        have HIS := Lib.hid hIS
        have HBW : Hid (Below w.heap.size w wr) := Lib.hid (HBE0.out.trans (HB1.out.mono (by omega)))
        clear hIS
        cases bi with
        | false =>
          go_wp2_with (go_at_call 57; refine HIS.out.mono ?_; rintro e w3 ⟨rfl, b3⟩)
          go_ret
          exact ⟨false, rfl, bT HBW.out b3⟩
        | true =>
          go_wp2_with (go_at_call 57; refine HIS.out.mono ?_; rintro e w3 ⟨rfl, b3⟩; have HB3 := Lib.hid (HB1.out.trans (b3.mono (by omega))); clear b3)
          obtain ⟨wo, rfl⟩ : ∃ wo : World, wo = wr := ⟨_, rfl⟩
          clear z0 z1 z2 z3 z4 z5 p0 p1 p2 p3 p4 p5 HV1 HO1 HW1 HIS HBW
          go_loopw [5] (fun i wr => ∃ j : Nat, i = .int .i64 (j : Nat) ∧ j ≤ l.length ∧ Hid (Below (w.heap.size + 1) w2 wr)) (fun i _ => l.length - (intOf i).toNat)
          case atStart => exact ⟨0, rfl, by omega, HB3⟩
          case round =>
            obtain ⟨q, rfl, hq, HBQ⟩ := hrel
            have HVQ : Hid (Vb wr w.heap.size #[.int .i64 k, .int .i64 c, .int .i64 s, .string st, .slice ao l.length cap, .slice ko t.keys.length kc]) := Lib.hid ((HBQ.out.block _ (by omega)).trans HV0.out)
            obtain ⟨z0, z1, z2, z3, z4, z5⟩ := HVQ.out.six
            have hbw : Below w.heap.size w wr := HBE0.out.trans (HBQ.out.mono (by omega))
            have HBW := Lib.hid hbw
            by_cases hlt2 : q < l.length
            · obtain ⟨y, hy⟩ : ∃ y, l[q]? = some y := ⟨l[q], List.getElem?_eq_getElem hlt2⟩
              obtain ⟨zt, hz⟩ : ∃ z, t.items[q]? = some z := ⟨t.items[q]'(by rw [← HL.out]; exact hlt2), List.getElem?_eq_getElem _⟩
              obtain ⟨g, o, rfl, hg, hcl⟩ := H.out (by omega)
              have h6 := (hcl q y hy).on hg hbw
              have hmem := List.mem_of_getElem? hz
              have hf := IH.out y zt wr (VT.on hbw n (HT.out q y zt hy hz)) (HSM.out.item zt hmem) (HSK.out.2 zt hmem)
              obtain ⟨yk, yc, ys, yst, yi, yv⟩ := y
              obtain ⟨c0, c1, c2, c3, c4, c5⟩ := h6
              simp only at c0 c1 c2 c3 c4 c5
              unfold Six.val vV at hf
              simp only at hf
              have HF := Lib.hid hf
              have i1 : (q : Int) < (l.length : Int) := by omega
              have hszq : w.heap.size + 1 ≤ wr.heap.size := by have := HBQ.out.size; omega
              clear hcl hy hz hmem hf H
              go_wp2_with (go_at_call 33; refine HF.out.mono ?_; rintro e w4 ⟨bq, rfl, b4⟩; cases bq)
              · go_ret
                exact ⟨false, rfl, bT HBW.out b4⟩
              · go_roundw
                case rel => exact ⟨q + 1, by go_num, by omega, Lib.hid (HBQ.out.trans (b4.mono hszq))⟩
                case measure => simp [intOf]; omega
            · go_wp2_with fail
              go_ret
              exact ⟨true, rfl, HBW.out⟩
end Nd
end Go.Proofs.Ytelladgeehlkpaa
namespace Go.Proofs.Ytelladgeehlkpaa
open Go.RowKit
namespace Nd
open _root_.Go.Proofs.Ytelladgeehlkpaa.Nm _root_.Go.Proofs.Ytelladgeehlkpaa.Jv
open _root_.Go.Proofs.Ytelladgeehlkpaa.Lv (Ord IsJ inI TabAt)
section
variable {r : Nat → Nat → Bool} {n : Nat} {j : Nat → Nat → Nat}
theorem _root_.Go.Proofs.Ytelladgeehlkpaa.Jv.SmA.mono' {B C : Nat} {t : JV} (h : SmA B t) (hl : B ≤ C) : SmA C t := fun n => Sm.mono hl n (h n)
theorem riB_item {t z : NV} (h : t.riB j = true) (hz : z ∈ t.items) : z.riB j = true := by
  rw [riB_is, riL_all] at h
  simp only [Bool.and_eq_true] at h
  exact List.all_eq_true.1 h.2 z hz
set_option maxRecDepth 100000 in
set_option maxHeartbeats 4000000 in
theorem right_any (v : Value) (O : Ord r n) (J : IsJ r n j) (h1 : 1 ≤ n) (h8 : n ≤ 8) : ∀ (f : Nat) (x : Eight) (t : NV) (w : World), NT w f x t → TabAt w v n r → t.labB n = true →
    Calls Try.prog 32 #[v, x.val] w fun e w' => e = .returned (.bool (t.riB j)) ∧ Below w.heap.size w w' := by
  intro f
  induction f with
  | zero => intro x t w hv; exact hv.elim
  | succ f ih =>
    intro x t w hv ht hlb
    obtain ⟨b, hb⟩ : ∃ b, t.riB j = b := ⟨_, rfl⟩
    rw [hb]
    have HB := Lib.hid hb
    have IH := Lib.hid ih
    have HTB := Lib.hid ht
    have HLB := Lib.hid hlb
    have hdc : ∀ wx, Below w.heap.size w wx → Calls Try.prog 56 #[v, x.val] wx fun e w' => e = .returned (.int .i64 (t.dp j : Nat)) ∧ Below wx.heap.size wx w' := fun wx hx => deep_any v O J h1 h8 (f + 1) x t wx (NT.on hx (f + 1) hv) (ht.go hx) hlb
    obtain ⟨dq, hdq⟩ : ∃ d, t.dp j = d := ⟨_, rfl⟩
    rw [hdq] at hdc
    obtain ⟨ea, ed, e1, e2, e3, e4, e5, hB, hBl, l, hl, hll, hlt⟩ := hv
    obtain ⟨la, de, k, c, s, st, iv, kv⟩ := x
    simp only at ed
    have HDE : Hid ((de = (dq : Nat)) ↔ (t.de = (t.dp j : Nat))) := Lib.hid (by rw [hdq, ed])
    obtain ⟨ao, cap, rfl, hc, h⟩ := hl.form
    have hmx : l.length ≤ maxLen := by obtain ⟨_, _, q1, q2, q3, _⟩ := hl; omega
    unfold maxLen at hmx
    obtain ⟨ko, kc, rfl, _⟩ := e5.form
    have H := Lib.hid h
    have HL := Lib.hid hll
    have HT := Lib.hid hlt
    unfold Eight.val nV at hdc
    simp only at hdc
    have HDC := Lib.hid hdc
    clear h hll hlt ea ed e1 e2 e3 e4 e5 hB hBl hl hb ih ht hlb hdq hdc hc
    unfold Eight.val nV
    have hW0 := Lib.hid (Wb.new w #[.int .i64 la, .int .i64 de, .int .i64 k, .int .i64 c, .int .i64 s, .string st, .slice ao l.length cap, .slice ko t.keys.length kc])
    have hB0 := Lib.hid (bA1 w (Obj.cells #[.int .i64 la, .int .i64 de, .int .i64 k, .int .i64 c, .int .i64 s, .string st, .slice ao l.length cap, .slice ko t.keys.length kc] 27))
    go_enter Try.func32, Try.ntmps32
    go_wp2_with fail
    obtain ⟨w1, hw1⟩ : ∃ w1, w.alloc (Obj.cells #[.int .i64 la, .int .i64 de, .int .i64 k, .int .i64 c, .int .i64 s, .string st, .slice ao l.length cap, .slice ko t.keys.length kc] 27) = w1 := ⟨_, rfl⟩
    rw [hw1] at hW0 hB0 ⊢
    clear hw1
    obtain ⟨z0, z1, z2, z3, z4, z5, z6, z7⟩ := hW0.out.eight
    have u0 : ∀ wx, Below w1.heap.size w1 wx → wx.cell? ⟨w.heap.size, 0, none⟩ = some (.int .i64 la) := fun wx h => (h.cell (p := ⟨w.heap.size, 0, none⟩) hW0.out.lt).trans z0
    have u1 : ∀ wx, Below w1.heap.size w1 wx → wx.cell? ⟨w.heap.size, 1, none⟩ = some (.int .i64 de) := fun wx h => (h.cell (p := ⟨w.heap.size, 1, none⟩) hW0.out.lt).trans z1
    have u2 : ∀ wx, Below w1.heap.size w1 wx → wx.cell? ⟨w.heap.size, 2, none⟩ = some (.int .i64 k) := fun wx h => (h.cell (p := ⟨w.heap.size, 2, none⟩) hW0.out.lt).trans z2
    have u3 : ∀ wx, Below w1.heap.size w1 wx → wx.cell? ⟨w.heap.size, 3, none⟩ = some (.int .i64 c) := fun wx h => (h.cell (p := ⟨w.heap.size, 3, none⟩) hW0.out.lt).trans z3
    have u4 : ∀ wx, Below w1.heap.size w1 wx → wx.cell? ⟨w.heap.size, 4, none⟩ = some (.int .i64 s) := fun wx h => (h.cell (p := ⟨w.heap.size, 4, none⟩) hW0.out.lt).trans z4
    have u5 : ∀ wx, Below w1.heap.size w1 wx → wx.cell? ⟨w.heap.size, 5, none⟩ = some (.string st) := fun wx h => (h.cell (p := ⟨w.heap.size, 5, none⟩) hW0.out.lt).trans z5
    have u6 : ∀ wx, Below w1.heap.size w1 wx → wx.cell? ⟨w.heap.size, 6, none⟩ = some (.slice ao l.length cap) := fun wx h => (h.cell (p := ⟨w.heap.size, 6, none⟩) hW0.out.lt).trans z6
    have u7 : ∀ wx, Below w1.heap.size w1 wx → wx.cell? ⟨w.heap.size, 7, none⟩ = some (.slice ko t.keys.length kc) := fun wx h => (h.cell (p := ⟨w.heap.size, 7, none⟩) hW0.out.lt).trans z7
    clear z0 z1 z2 z3 z4 z5 z6 z7
    by_cases hq : de = (dq : Nat)
    · have q1 : (de == (dq : Nat)) = true := by simpa using hq
      have q2 : (de != (dq : Nat)) = false := by simp [bne, q1]
      have HQ : Hid (t.de = (t.dp j : Nat)) := Lib.hid (HDE.out.1 hq)
      clear hq HDE
      refine wp_region_held_drew (S := fun wx => Below w1.heap.size w1 wx) (by kernel_rfl) (Below.refl _ _).drew (fun hHeld => ?_)
      refine take_put (i := 0) (d := 6) (oi := _) (v := ?va0) rfl rfl (by kernel_rfl) (by kernel_rfl) (by kernel_rfl) (fun _ _ _ h => h) (Or.inl ⟨by rfl, ?ya0⟩) hHeld ?ra0
      case ya0 => (intro w hSw; (try dsimp only at hSw); go_simp; try with_reducible rfl)
      simp only [Act.put, List.setIfInBounds_toArray, List.set_cons_zero, List.set_cons_succ]
      refine take_put (i := 1) (d := 7) (oi := _) (v := ?va1) rfl rfl (by kernel_rfl) (by kernel_rfl) (by kernel_rfl) (fun _ _ _ h => h) (Or.inl ⟨by rfl, ?ya1⟩) hHeld ?ra1
      case ya1 => (intro w hSw; (try dsimp only at hSw); go_simp; try with_reducible rfl)
      simp only [Act.put, List.setIfInBounds_toArray, List.set_cons_zero, List.set_cons_succ]
      refine take_put (i := 2) (d := 8) (oi := _) (v := ?va2) rfl rfl (by kernel_rfl) (by kernel_rfl) (by kernel_rfl) (fun _ _ _ h => h) (Or.inl ⟨by rfl, ?ya2⟩) hHeld ?ra2
      case ya2 => (intro w hSw; (try dsimp only at hSw); go_simp; try with_reducible rfl)
      simp only [Act.put, List.setIfInBounds_toArray, List.set_cons_zero, List.set_cons_succ]
      refine take_put (i := 3) (d := 9) (oi := _) (v := ?va3) rfl rfl (by kernel_rfl) (by kernel_rfl) (by kernel_rfl) (fun _ _ _ h => h) (Or.inl ⟨by rfl, ?ya3⟩) hHeld ?ra3
      case ya3 => (intro w hSw; (try dsimp only at hSw); go_simp; try with_reducible rfl)
      simp only [Act.put, List.setIfInBounds_toArray, List.set_cons_zero, List.set_cons_succ]
      refine wpAnyH_ready (rs := [4]) (by kernel_rfl) (by simp) (AllReadyH.cons (o := _) rfl (fun K hK => ?_) AllReadyH.nil)
      go_simp
      refine (HDC.out _ (bT hB0.out hHeld)).mono ?_
      rintro e w2 ⟨rfl, b2⟩
      (try dsimp only)
      refine hK.out _ _ (bT hHeld b2) (fun hHeld => ?_)
      clear hK K
      refine take_put (i := 5) (d := 11) (oi := _) (v := ?va5) rfl rfl (by kernel_rfl) (by kernel_rfl) (by kernel_rfl) (fun _ _ _ h => h) (Or.inl ⟨by rfl, ?ya5⟩) hHeld ?ra5
      case ya5 => (intro w hSw; (try dsimp only at hSw); go_simp; try with_reducible rfl)
      simp only [Act.put, List.setIfInBounds_toArray, List.set_cons_zero, List.set_cons_succ]
      refine wpAnyH_done (by kernel_rfl) ?_ _
      have HB3 := Lib.hid (bT hB0.out hHeld)
      have HW3 := Lib.hid (hW0.out.on hHeld)
      clear hW0 hB0 hHeld b2 u0 u1 u2 u3 u4 u5 u6 u7
      go_wp2_with fail
      go_loopw [5] (fun i wr => ∃ p : Nat, i = .int .i64 (p : Nat) ∧ p ≤ l.length ∧ Hid (Wb wr w.heap.size #[.int .i64 la, .int .i64 de, .int .i64 k, .int .i64 c, .int .i64 s, .string st, .slice ao l.length cap, .slice ko t.keys.length kc]) ∧ Hid (Below w.heap.size w wr) ∧ Hid (∀ q z, q < p → t.items[q]? = some z → z.riB j = true)) (fun i _ => l.length - (intOf i).toNat)
      case atStart => exact ⟨0, rfl, by omega, HW3, HB3, Lib.hid (fun q z hq => by omega)⟩
      case round =>
        obtain ⟨p, rfl, hp, HV, HW, HA⟩ := hrel
        obtain ⟨z0, z1, z2, z3, z4, z5, z6, z7⟩ := HV.out.eight
        by_cases hlt : p < l.length
        · obtain ⟨y, hy⟩ : ∃ y, l[p]? = some y := ⟨l[p], List.getElem?_eq_getElem hlt⟩
          obtain ⟨z, hz⟩ : ∃ z, t.items[p]? = some z := ⟨t.items[p]'(by rw [← HL.out]; exact hlt), List.getElem?_eq_getElem _⟩
          obtain ⟨g, o, rfl, hg, _, hcl⟩ := H.out (by omega)
          have h6 := (hcl p y hy).on hg HW.out
          have hvt := NT.on HW.out f (HT.out p y z hy hz)
          have hf := IH.out y z wr hvt (HTB.out.go HW.out) (labB_item HLB.out (List.mem_of_getElem? hz))
          obtain ⟨ya, yd, yk, yc, ys, yst, yi, yv⟩ := y
          obtain ⟨c0, c1, c2, c3, c4, c5, c6, c7⟩ := h6
          simp only at c0 c1 c2 c3 c4 c5 c6 c7
          unfold Eight.val nV at hf
          simp only at hf
          have HZ := Lib.hid hz
          have HFF := Lib.hid hf
          clear hcl hy hvt hz hf H
          cases hr : z.riB j
          · rw [hr] at HFF
            have HBF : Hid (b = false) := Lib.hid (by
              rw [← HB.out, Bool.eq_false_iff]
              intro h
              have := riB_item h (List.mem_of_getElem? HZ.out)
              rw [hr] at this
              cases this)
            clear hr
            go_wp2_with (go_at_call 32; refine HFF.out.mono ?_; rintro e w1 ⟨rfl, b1⟩)
            go_ret
            exact ⟨by rw [HBF.out]; rfl, bT HW.out b1⟩
          · rw [hr] at HFF
            have HA' : Hid (∀ q z, q < p + 1 → t.items[q]? = some z → z.riB j = true) := Lib.hid (fun q z' hq hz' => by
              by_cases e : q = p
              · subst e
                rw [HZ.out] at hz'
                obtain rfl := Option.some.inj hz'
                exact hr
              · exact HA.out q z' (by omega) hz')
            clear hr HA
            go_wp2_with (go_at_call 32; refine HFF.out.mono ?_; rintro e w1 ⟨rfl, b1⟩)
            go_roundw
            case rel => exact ⟨p + 1, by go_num, by omega, Lib.hid (HV.out.on b1), Lib.hid (bT HW.out b1), HA'⟩
            case measure => simp [intOf]; omega
        · have HBT : Hid (b = true) := Lib.hid (by
            rw [← HB.out, riB_is, riL_all, decide_eq_true HQ.out, Bool.true_and, List.all_eq_true]
            intro x hx
            obtain ⟨q, hq, e⟩ := List.getElem_of_mem hx
            exact HA.out q x (by have := HL.out; omega) (by rw [List.getElem?_eq_getElem hq, e]))
          clear HA
          go_wp2_with fail
          go_ret
          exact ⟨by rw [HBT.out]; rfl, HW.out⟩
    · have q1 : (de == (dq : Nat)) = false := by simpa using hq
      have q2 : (de != (dq : Nat)) = true := by simp [bne, q1]
      have HBF : Hid (b = false) := Lib.hid (by
        rw [← HB.out, riB_is]
        rw [decide_eq_false (fun h => hq (HDE.out.2 h)), Bool.false_and])
      clear hq HDE
      refine wp_region_held_drew (S := fun wx => Below w1.heap.size w1 wx) (by kernel_rfl) (Below.refl _ _).drew (fun hHeld => ?_)
      refine take_put (i := 0) (d := 6) (oi := _) (v := ?vb0) rfl rfl (by kernel_rfl) (by kernel_rfl) (by kernel_rfl) (fun _ _ _ h => h) (Or.inl ⟨by rfl, ?yb0⟩) hHeld ?rb0
      case yb0 => (intro w hSw; (try dsimp only at hSw); go_simp; try with_reducible rfl)
      simp only [Act.put, List.setIfInBounds_toArray, List.set_cons_zero, List.set_cons_succ]
      refine take_put (i := 1) (d := 7) (oi := _) (v := ?vb1) rfl rfl (by kernel_rfl) (by kernel_rfl) (by kernel_rfl) (fun _ _ _ h => h) (Or.inl ⟨by rfl, ?yb1⟩) hHeld ?rb1
      case yb1 => (intro w hSw; (try dsimp only at hSw); go_simp; try with_reducible rfl)
      simp only [Act.put, List.setIfInBounds_toArray, List.set_cons_zero, List.set_cons_succ]
      refine take_put (i := 2) (d := 8) (oi := _) (v := ?vb2) rfl rfl (by kernel_rfl) (by kernel_rfl) (by kernel_rfl) (fun _ _ _ h => h) (Or.inl ⟨by rfl, ?yb2⟩) hHeld ?rb2
      case yb2 => (intro w hSw; (try dsimp only at hSw); go_simp; try with_reducible rfl)
      simp only [Act.put, List.setIfInBounds_toArray, List.set_cons_zero, List.set_cons_succ]
      refine take_put (i := 3) (d := 9) (oi := _) (v := ?vb3) rfl rfl (by kernel_rfl) (by kernel_rfl) (by kernel_rfl) (fun _ _ _ h => h) (Or.inl ⟨by rfl, ?yb3⟩) hHeld ?rb3
      case yb3 => (intro w hSw; (try dsimp only at hSw); go_simp; try with_reducible rfl)
      simp only [Act.put, List.setIfInBounds_toArray, List.set_cons_zero, List.set_cons_succ]
      refine wpAnyH_ready (rs := [4]) (by kernel_rfl) (by simp) (AllReadyH.cons (o := _) rfl (fun K hK => ?_) AllReadyH.nil)
      go_simp
      refine (HDC.out _ (bT hB0.out hHeld)).mono ?_
      rintro e w2 ⟨rfl, b2⟩
      (try dsimp only)
      refine hK.out _ _ (bT hHeld b2) (fun hHeld => ?_)
      clear hK K
      refine take_put (i := 5) (d := 11) (oi := _) (v := ?vb5) rfl rfl (by kernel_rfl) (by kernel_rfl) (by kernel_rfl) (fun _ _ _ h => h) (Or.inl ⟨by rfl, ?yb5⟩) hHeld ?rb5
      case yb5 => (intro w hSw; (try dsimp only at hSw); go_simp; try with_reducible rfl)
      simp only [Act.put, List.setIfInBounds_toArray, List.set_cons_zero, List.set_cons_succ]
      refine wpAnyH_done (by kernel_rfl) ?_ _
      have HB3 := Lib.hid (bT hB0.out hHeld)
      clear hHeld
      go_wp2_with fail
      go_ret
      exact ⟨by rw [HBF.out]; rfl, HB3.out⟩
end
section
open _root_.Go.Proofs.Ytelladgeehlkpaa.Lv (SLat sz sr sj sz_le sz_pos sr_ord sr_j)
set_option maxRecDepth 100000 in
set_option maxHeartbeats 4000000 in
theorem is_any (k f : Nat) (v : Value) (x : Eight) (t : NV) (w : World) (hv : NT w f x t) (ht : TabAt w v (sz k) (sr k)) (hsn : SnA 2000000 t) (hc : t.cnt ≤ 1000) :
    Calls Try.prog 10 #[v, x.val] w fun e w' => ∃ b, e = .returned (.bool b) ∧ Below w.heap.size w w' ∧ (b = true → t.labB (sz k) = true ∧ t.riB (sj k) = true) := by
  have hl := fun wx (hx : Below w.heap.size w wx) => labels_any v (sz_pos k) (sz_le k) f x t wx (NT.on hx f hv) (ht.go hx)
  have hr := fun wx (hx : Below w.heap.size w wx) (hlb : t.labB (sz k) = true) => right_any v (sr_ord k) (sr_j k) (sz_pos k) (sz_le k) f x t wx (NT.on hx f hv) (ht.go hx) hlb
  have hs := fun wx (hx : Below w.heap.size w wx) => strip_any f x t wx (NT.on hx f hv) hsn hc
  have hsh : ∀ (wx : World) (y : Six), VT wx f y t.strip → Calls Try.prog 33 #[y.val] wx fun e w' => ∃ b, e = .returned (.bool b) ∧ Below wx.heap.size wx w' := fun wx y hy => shape_any f y t.strip wx hy (hsn.sm.mono' (by decide)) (Sn.sk f (hsn f))
  obtain ⟨io, il, ic, hxi⟩ : ∃ io il ic, x.iv = .slice io il ic := by
    cases f with
    | zero => exact hv.elim
    | succ n => obtain ⟨_, _, _, _, _, _, _, _, _, l, hl, _⟩ := hv; obtain ⟨a, c, h, _⟩ := hl.form; exact ⟨a, _, c, h⟩
  obtain ⟨ko, kl, kc, hxk⟩ : ∃ io il ic, x.kv = .slice io il ic := by
    cases f with
    | zero => exact hv.elim
    | succ n => obtain ⟨_, _, _, _, _, _, h5, _⟩ := hv; obtain ⟨a, c, h, _⟩ := h5.form; exact ⟨a, _, c, h⟩
  obtain ⟨la, de, kk, c, s, st, iv, kv⟩ := x
  simp only at hxi hxk
  subst hxi hxk
  obtain ⟨g0, cap0, R, C, rfl, htab⟩ := ht.form
  have HL := Lib.hid hl
  have HR := Lib.hid hr
  have HS := Lib.hid hs
  have HSH := Lib.hid hsh
  clear hl hr hs hsh hv ht hsn hc htab
  unfold Eight.val nV at HL HR HS ⊢
  simp only at HL HR HS
  have hW0 := Lib.hid (Wb.new w #[.int .i64 la, .int .i64 de, .int .i64 kk, .int .i64 c, .int .i64 s, .string st, .slice io il ic, .slice ko kl kc])
  have hB0 := Lib.hid (bA1 w (Obj.cells #[.int .i64 la, .int .i64 de, .int .i64 kk, .int .i64 c, .int .i64 s, .string st, .slice io il ic, .slice ko kl kc] 27))
  cases hlb : t.labB (sz k) with
  | false =>
    rw [hlb] at HL
    go_enter Try.func10, Try.ntmps10
    go_wp2_with (go_at_call 31; refine (HL.out _ hB0.out).mono ?_; rintro e w1 ⟨rfl, b1⟩)
    go_ret
    exact ⟨false, rfl, bT hB0.out b1, fun h => by cases h⟩
  | true =>
    rw [hlb] at HL
    have HLB := Lib.hid hlb
    clear hlb
    cases hrb : t.riB (sj k) with
    | false =>
      rw [hrb] at HR
      go_enter Try.func10, Try.ntmps10
      go_wp2_with (first | (go_at_call 31; refine (HL.out _ hB0.out).mono ?_; rintro e w1 ⟨rfl, b1⟩; have hB1 := Lib.hid (bT hB0.out b1); obtain ⟨z0, z1, z2, z3, z4, z5, z6, z7⟩ := (hW0.out.on b1).eight) | (go_at_call 32; refine (HR.out _ hB1.out HLB.out).mono ?_; rintro e w2 ⟨rfl, b2⟩))
      go_ret
      exact ⟨false, rfl, bT hB1.out b2, fun h => by cases h⟩
    | true =>
      rw [hrb] at HR
      have HRB := Lib.hid hrb
      clear hrb
      go_enter Try.func10, Try.ntmps10
      go_wp2_with (first | (go_at_call 31; refine (HL.out _ hB0.out).mono ?_; rintro e w1 ⟨rfl, b1⟩; have hB1 := Lib.hid (bT hB0.out b1); have hW1 := Lib.hid (hW0.out.on b1); obtain ⟨z0, z1, z2, z3, z4, z5, z6, z7⟩ := hW1.out.eight) | (go_at_call 32; refine (HR.out _ hB1.out HLB.out).mono ?_; rintro e w2 ⟨rfl, b2⟩; have hB2 := Lib.hid (bT hB1.out b2); clear z0 z1 z2 z3 z4 z5 z6 z7; obtain ⟨z0, z1, z2, z3, z4, z5, z6, z7⟩ := (hW1.out.on b2).eight) | (go_at_call 34; refine (HS.out _ hB2.out).mono ?_; rintro e w3 ⟨y, rfl, b3, hvt⟩; have hB3 := Lib.hid (bT hB2.out b3); have HY := Lib.hid (HSH.out _ y (VTb.vt f hvt)); obtain ⟨ya, yn, yc, yb, ym, yd, hq1, hq2⟩ := hvt.form; obtain ⟨yk, yc2, ys, yst, yi, yv⟩ := y; simp only at hq1 hq2; subst hq1 hq2; unfold Six.val vV at HY ⊢; simp only at HY; clear hvt) | (go_at_call 33; refine HY.out.mono ?_; rintro e w4 ⟨b, rfl, b4⟩))
      go_ret
      exact ⟨b, rfl, bT hB3.out b4, fun _ => ⟨by trivial, by trivial⟩⟩
end
end Nd
end Go.Proofs.Ytelladgeehlkpaa
