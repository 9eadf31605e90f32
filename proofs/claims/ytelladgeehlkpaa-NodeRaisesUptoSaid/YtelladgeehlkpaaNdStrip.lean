/- The document's Strip, of every node of few parts. -/
import Derived.Test.YtelladgeehlkpaaPn
import Derived.Deep.RegionHeld3
import Derived.Deep.DeepCutAuto
namespace Go.Proofs.Ytelladgeehlkpaa
open Go.RowKit
namespace Nd
open _root_.Go.Proofs.Ytelladgeehlkpaa.Nm _root_.Go.Proofs.Ytelladgeehlkpaa.Jv
/-- what Strip answers -/
def StP (f : Nat) (t : NV) (w : World) (e : Ending) (w' : World) : Prop := ∃ y : Six, e = .returned y.val ∧ Below w.heap.size w w' ∧ VTb (fun k => w.heap.size ≤ k) w' f y t.strip
theorem wpList_appK {ops : Array Oper} {rest : List Oper} {o : Oper} {a : Act} {w : World} {Q : Exit → Act → World → Prop} (hgd : o.guard = none) (s x : Operand)
    (hop : o.op = Op.call { callee := Callee.builtin Builtin.append, args := #[s, x], argTypes := #[25, 25] }) (src : Value) (l : List ByteArray) (hs : a.eval s = .slice none 0 0) (hx : a.eval x = src)
    (h : Ks w src l) (hn : l.length ≤ 100000000) (hK : ∀ v' w', Ks w' v' l → InP (fun k => w.heap.size ≤ k) v' → Below w.heap.size w w' → wpList Try.prog ops Q rest (a.put o.dst v') w') :
    wpList Try.prog ops Q (o :: rest) a w := by
  refine wpList_plain hgd fun K hK' => ?_
  obtain ⟨v', w', hrun, r1, r2, r3⟩ := appK o.type h hn
  unfold Oper.wp
  simp [execOp, hop, resolve, invoke, builtin, hs, hx, hrun, Result.andThen]
  exact hK' _ _ (hK v' w' r1 r2 r3)
theorem step_app6 {ops : Array Oper} {o : Oper} {a : Act} {w : World} {K : Act → World → Prop} {Q : Exit → Act → World → Prop} {E : Prop} (hg : o.guard = none) (s x : Operand)
    (hop : o.op = Op.call { callee := Callee.builtin Builtin.append, args := #[s, x], argTypes := #[60, 60] }) (B b : Nat) (v : Value) (l : List Six) (y : Six) (hs : a.eval s = v) (hx : a.eval x = .slice (some ⟨b, 0, none⟩) 1 1)
    (h : Own6 B w v l) (hy : w.heap[b]? = some (.cells y.cells.toArray 62 (0, 0))) (h1 : one6 y) (hn : l.length ≤ 1000000000) (hB : B ≤ w.heap.size)
    (hK : ∀ v' w', Own6 B w' v' (l ++ [y]) → (∀ k, k < w.heap.size → v.ownBlock ≠ some k → w'.heap[k]? = w.heap[k]?) → Below B w w' → (v'.ownBlock = v.ownBlock ∨ v'.ownBlock = some w.heap.size) → K (a.put o.dst v') w') :
    if Region.wanted o (yielded ops a.tmps) = true then Oper.wp Try.prog o a w K Q else E := by
  have hw : Region.wanted o (yielded ops a.tmps) = true := by simp [Region.wanted, hg]
  rw [if_pos hw]
  obtain ⟨v', w', hrun, r1, r2, r3, r4⟩ := app6 o.type h hy h1 hn hB
  unfold Oper.wp
  simp [execOp, hop, resolve, invoke, builtin, hs, hx, hrun, Result.andThen]
  exact hK v' w' r1 r2 r3 r4
/-- nothing below has turned, but the value that is being made -/
structure Sq (B : Nat) (a b : World) : Prop where
  os : b.os = a.os
  tape : b.tape = a.tape
  output : b.output = a.output
  size : a.heap.size ≤ b.heap.size
  block : ∀ k, k < B + 3 → k ≠ B + 2 → b.heap[k]? = a.heap[k]?
theorem Sq.refl (B : Nat) (a : World) : Sq B a a := ⟨rfl, rfl, rfl, Nat.le_refl _, fun _ _ _ => rfl⟩
theorem Sq.drew {B : Nat} {a b : World} (h : Sq B a b) : Sq B a b.drew := ⟨h.os, h.tape, h.output, h.size, h.block⟩
theorem Sq.trans {B : Nat} {a b c : World} (h : Sq B a b) (h' : Sq B b c) : Sq B a c := ⟨h'.os.trans h.os, h'.tape.trans h.tape, h'.output.trans h.output, Nat.le_trans h.size h'.size, fun k h1 h2 => (h'.block k h1 h2).trans (h.block k h1 h2)⟩
theorem Sq.cell {B : Nat} {a b : World} (h : Sq B a b) {k : Nat} (o : Nat) (h1 : k < B + 3) (h2 : k ≠ B + 2) : b.cell? ⟨k, o, none⟩ = a.cell? ⟨k, o, none⟩ := World.cell?_of_block (h.block k h1 h2)
theorem Sq.bel {B : Nat} {a b c : World} (h : Sq B a b) (hb : Below (B + 3) b c) : Sq B a c := h.trans ⟨hb.os, hb.tape, hb.output, hb.size, fun k h1 _ => hb.block k h1⟩
theorem Sq.set {B : Nat} {a b : World} (h : Sq B a b) (i : Nat) (u : Value) : Sq B a (b.setCell ⟨B + 1 + 1, i, none⟩ u) :=
  h.trans ⟨rfl, rfl, rfl, by simp [World.setCell], fun k h1 h2 => RowKit.Below.heap_setCell _ _ _ _ (by show k ≠ B + 1 + 1; omega)⟩
theorem Sq.below {B : Nat} {w a b : World} (h : Sq B a b) (hb : Below B w a) : Below B w b := hb.trans ⟨h.os, h.tape, h.output, h.size, fun k hk => h.block k (by omega) (by omega)⟩
theorem VTb.form {P : Nat → Prop} {w : World} : ∀ {n : Nat} {x : Six} {t : JV}, VTb P w n x t → ∃ a n' c b m d, x.iv = .slice a n' c ∧ x.kv = .slice b m d
  | 0, _, _, h => h.elim
  | n + 1, _, _, ⟨_, _, _, _, h5, _, _, _, l, h6, _⟩ => by
    obtain ⟨a, c, h1, _⟩ := h6.form
    obtain ⟨b, d, h2, _⟩ := h5.form
    exact ⟨_, _, _, _, _, _, h1, h2⟩
theorem VTb.one {P : Nat → Prop} {w : World} {n : Nat} {x : Six} {t : JV} (h : VTb P w n x t) : one6 x := by
  obtain ⟨a, n', c, b, m, d, h1, h2⟩ := h.form
  exact ⟨by rw [h1]; rfl, by rw [h2]; rfl⟩
theorem At8.keep {a b : World} {k p : Nat} {x : Eight} (h : At8 a k p x) (hb : b.heap[k]? = a.heap[k]?) : At8 b k p x := by
  obtain ⟨h0, h1, h2, h3, h4, h5, h6, h7⟩ := h
  have e : ∀ o, b.cell? ⟨k, o, none⟩ = a.cell? ⟨k, o, none⟩ := fun o => World.cell?_of_block hb
  exact ⟨(e _).trans h0, (e _).trans h1, (e _).trans h2, (e _).trans h3, (e _).trans h4, (e _).trans h5, (e _).trans h6, (e _).trans h7⟩
/-- the state of Strip's loop -/
structure StR (B : Nat) (k c s : Int) (st : ByteArray) (kv : Value) (keys : List ByteArray) (items : List NV) (f : Nat) (w4 wr : World) (vv : Value) (ys : List Six) : Prop where
  sq : Sq B w4 wr
  vb : Vb wr (B + 1 + 1) #[.int .i64 k, .int .i64 c, .int .i64 s, .string st, vv, kv]
  own : Own6 (B + 3) wr vv ys
  kk : Ks wr kv keys
  ki : InP (fun b => B + 3 ≤ b ∧ vv.ownBlock ≠ some b) kv
  it : ∀ (q : Nat) (y : Six) (z : NV), ys[q]? = some y → items[q]? = some z → VTb (fun b => B + 3 ≤ b ∧ vv.ownBlock ≠ some b) wr f y z.strip
theorem StR.next {B : Nat} {k c s : Int} {st : ByteArray} {kv : Value} {keys : List ByteArray} {items : List NV} {f : Nat} {w4 wr w7 w9 : World} {vv v' : Value} {ys : List Six} {yy : Six} {z : NV} {o : Obj} (h : StR B k c s st kv keys items f w4 wr vv ys) (hB : B + 3 ≤ wr.heap.size)
    (hz : items[ys.length]? = some z) (bk : Below wr.heap.size wr w7) (hvt : VTb (fun b => wr.heap.size ≤ b) w7 f yy z.strip) (ho : Own6 (B + 3) w9 v' (ys ++ [yy])) (hk : ∀ b, b < (w7.alloc o).heap.size → vv.ownBlock ≠ some b → w9.heap[b]? = (w7.alloc o).heap[b]?) (hb : Below (B + 3) (w7.alloc o) w9)
    (hat : v'.ownBlock = vv.ownBlock ∨ v'.ownBlock = some (w7.alloc o).heap.size) : StR B k c s st kv keys items f w4 (w9.setCell ⟨B + 1 + 1, 4, none⟩ v') v' (ys ++ [yy]) := by
  have hb9 : Below (B + 3) wr w9 := ((bk.mono hB).trans ((bA1 w7 o).mono (Nat.le_trans hB bk.size))).trans hb
  have hs8 : (w7.alloc o).heap.size = w7.heap.size + 1 := by simp
  have hsz : w7.heap.size ≤ (w9.setCell ⟨B + 1 + 1, 4, none⟩ v').heap.size := by
    have := hb.size
    simp [World.setCell]
    omega
  have keep : ∀ b, B + 3 ≤ b → vv.ownBlock ≠ some b → b < w7.heap.size → (w9.setCell ⟨B + 1 + 1, 4, none⟩ v').heap[b]? = w7.heap[b]? := fun b h1 h2 h3 =>
    (RowKit.Below.heap_setCell _ _ _ _ (by show b ≠ B + 1 + 1; omega)).trans ((hk b (by omega) h2).trans ((bA1 w7 o).block b h3))
  have own : ∀ b, vv.ownBlock ≠ some b → b < w7.heap.size → v'.ownBlock ≠ some b := fun b h1 h2 e => by
    rcases hat with h3 | h3 <;> rw [h3] at e
    · exact h1 e
    · have := Option.some.inj e
      omega
  have keepr : ∀ b, (B + 3 ≤ b ∧ vv.ownBlock ≠ some b) → b < wr.heap.size → (w9.setCell ⟨B + 1 + 1, 4, none⟩ v').heap[b]? = wr.heap[b]? := fun b h1 h2 => (keep b h1.1 h1.2 (Nat.lt_of_lt_of_le h2 bk.size)).trans (bk.block b h2)
  have hszr := Nat.le_trans bk.size hsz
  refine ⟨(h.sq.bel hb9).set 4 v', ?_, ho.set 4 v' (by omega), Ks.keep h.kk h.ki keepr hszr, (Ks.inLt h.kk h.ki).weak fun b h1 => ⟨h1.1.1, own b h1.1.2 (Nat.lt_of_lt_of_le h1.2 bk.size)⟩, fun q y z' hy hz' => ?_⟩
  · have h1 : Vb w9 (B + 1 + 1) #[.int .i64 k, .int .i64 c, .int .i64 s, .string st, vv, kv] := (hb9.block _ (by omega)).trans h.vb
    exact h1.set 4 v'
  · rw [List.getElem?_append] at hy
    split at hy
    · have h1 := h.it q y z' hy hz'
      exact VTb.weak (fun b h2 => ⟨h2.1.1, own b h2.1.2 (Nat.lt_of_lt_of_le h2.2 bk.size)⟩) f (VTb.keep (P := fun b => (B + 3 ≤ b ∧ vv.ownBlock ≠ some b) ∧ b < wr.heap.size) (fun b h2 h3 => keepr b h2.1 h3) hszr f (VTb.inLt f h1))
    · rename_i hge
      have hq : q - ys.length = 0 := by have := (List.getElem?_eq_some_iff.1 hy).1; simp at this; omega
      rw [hq] at hy
      obtain rfl := Option.some.inj hy
      obtain rfl : q = ys.length := by omega
      rw [hz] at hz'
      obtain rfl := Option.some.inj hz'
      have hown : ∀ b, wr.heap.size ≤ b → vv.ownBlock ≠ some b := fun b h1 e => by have := (h.own.lt b e).2; omega
      exact VTb.weak (fun b h2 => ⟨Nat.le_trans hB h2.1, own b (hown b h2.1) h2.2⟩) f (VTb.keep (P := fun b => wr.heap.size ≤ b ∧ b < w7.heap.size) (fun b h2 h3 => keep b (Nat.le_trans hB h2.1) (hown b h2.1) h3) hsz f (VTb.inLt f hvt))
set_option maxRecDepth 100000 in
set_option maxHeartbeats 8000000 in
theorem strip_any : ∀ (f : Nat) (x : Eight) (t : NV) (w : World), NT w f x t → SnA 2000000 t → t.cnt ≤ 1000 → Calls Try.prog 34 #[x.val] w (StP f t w) := by
  intro f
  induction f with
  | zero => intro x t w hv; exact hv.elim
  | succ f ih =>
    intro x t w hv hsn hct
    have IH := Lib.hid ih
    clear ih
    obtain ⟨ea, ed, e1, e2, e3, e4, e5, hB, hBl, l, hl, hll, hlt⟩ := hv
    obtain ⟨la, de, k, c, s, st, iv, kv⟩ := x
    simp only at e1 e2 e3 e4 e5 hB hl
    have hcl := cnt_is t
    have hlc := cntL_len t.items
    have hll2 : l.length ≤ 1000 := by omega
    have hkn := hsn.len
    have HSN := Lib.hid hsn
    have HCT : Hid (∀ z ∈ t.items, z.cnt ≤ 1000) := Lib.hid (fun z hz => by have := cntL_le _ z hz; omega)
    obtain ⟨ao, cap, rfl, hc, h⟩ := hl.form
    have HKV := Lib.hid e5
    obtain ⟨ko, kc, rfl, hkc, _⟩ := e5.form
    have H := Lib.hid h
    have HL := Lib.hid hll
    have HT := Lib.hid hlt
    have HE : Hid (k = t.k ∧ c = t.c ∧ s = t.s ∧ st = t.st ∧ Bd k c s st t.keys) := Lib.hid ⟨e1, e2, e3, e4, hB⟩
    clear h hll hlt ea ed e1 e2 e3 e4 e5 hB hBl hl hcl hlc hsn hct hc hkc
    unfold Eight.val nV
    have hbel0 : Below w.heap.size w (((w.alloc (Obj.cells #[.int .i64 la, .int .i64 de, .int .i64 k, .int .i64 c, .int .i64 s, .string st, .slice ao l.length cap, .slice ko t.keys.length kc] 27)).alloc (Obj.cells #[.int .i64 0, .int .i64 0, .int .i64 0, .string ⟨#[]⟩, .slice none 0 0, .slice none 0 0] 62)).alloc (Obj.cells #[.int .i64 k, .int .i64 c, .int .i64 s, .string st, .slice none 0 0, .slice none 0 0] 62)) := bT (bT (bA1 _ _) (bA1 _ _)) (bA1 _ _)
    have hN0 := ((Wb.new w #[.int .i64 la, .int .i64 de, .int .i64 k, .int .i64 c, .int .i64 s, .string st, .slice ao l.length cap, .slice ko t.keys.length kc]).alloc (Obj.cells #[.int .i64 0, .int .i64 0, .int .i64 0, .string ⟨#[]⟩, .slice none 0 0, .slice none 0 0] 62)).alloc (Obj.cells #[.int .i64 k, .int .i64 c, .int .i64 s, .string st, .slice none 0 0, .slice none 0 0] 62)
    have hR0 : Vb (((w.alloc (Obj.cells #[.int .i64 la, .int .i64 de, .int .i64 k, .int .i64 c, .int .i64 s, .string st, .slice ao l.length cap, .slice ko t.keys.length kc] 27)).alloc (Obj.cells #[.int .i64 0, .int .i64 0, .int .i64 0, .string ⟨#[]⟩, .slice none 0 0, .slice none 0 0] 62)).alloc (Obj.cells #[.int .i64 k, .int .i64 c, .int .i64 s, .string st, .slice none 0 0, .slice none 0 0] 62)) (w.heap.size + 1) #[.int .i64 0, .int .i64 0, .int .i64 0, .string ⟨#[]⟩, .slice none 0 0, .slice none 0 0] := by
      have := (Vb.new (w.alloc (Obj.cells #[.int .i64 la, .int .i64 de, .int .i64 k, .int .i64 c, .int .i64 s, .string st, .slice ao l.length cap, .slice ko t.keys.length kc] 27)) #[.int .i64 0, .int .i64 0, .int .i64 0, .string ⟨#[]⟩, .slice none 0 0, .slice none 0 0]).alloc (Obj.cells #[.int .i64 k, .int .i64 c, .int .i64 s, .string st, .slice none 0 0, .slice none 0 0] 62)
      simpa using this
    have hV0 : Vb (((w.alloc (Obj.cells #[.int .i64 la, .int .i64 de, .int .i64 k, .int .i64 c, .int .i64 s, .string st, .slice ao l.length cap, .slice ko t.keys.length kc] 27)).alloc (Obj.cells #[.int .i64 0, .int .i64 0, .int .i64 0, .string ⟨#[]⟩, .slice none 0 0, .slice none 0 0] 62)).alloc (Obj.cells #[.int .i64 k, .int .i64 c, .int .i64 s, .string st, .slice none 0 0, .slice none 0 0] 62)) (w.heap.size + 1 + 1) #[.int .i64 k, .int .i64 c, .int .i64 s, .string st, .slice none 0 0, .slice none 0 0] := by
      have := Vb.new ((w.alloc (Obj.cells #[.int .i64 la, .int .i64 de, .int .i64 k, .int .i64 c, .int .i64 s, .string st, .slice ao l.length cap, .slice ko t.keys.length kc] 27)).alloc (Obj.cells #[.int .i64 0, .int .i64 0, .int .i64 0, .string ⟨#[]⟩, .slice none 0 0, .slice none 0 0] 62)) #[.int .i64 k, .int .i64 c, .int .i64 s, .string st, .slice none 0 0, .slice none 0 0]
      simpa using this
    obtain ⟨w4, hw4⟩ : ∃ w4, ((w.alloc (Obj.cells #[.int .i64 la, .int .i64 de, .int .i64 k, .int .i64 c, .int .i64 s, .string st, .slice ao l.length cap, .slice ko t.keys.length kc] 27)).alloc (Obj.cells #[.int .i64 0, .int .i64 0, .int .i64 0, .string ⟨#[]⟩, .slice none 0 0, .slice none 0 0] 62)).alloc (Obj.cells #[.int .i64 k, .int .i64 c, .int .i64 s, .string st, .slice none 0 0, .slice none 0 0] 62) = w4 := ⟨_, rfl⟩
    have hsz4 : w4.heap.size = w.heap.size + 3 := by rw [← hw4]; simp
    rw [hw4] at hbel0 hN0 hR0 hV0
    go_enter Try.func34, Try.ntmps34
    go_upto_region 5 with fail
    clear hw4
    obtain ⟨z0, z1, z2, z3, z4, z5, z6, z7⟩ := hN0.eight
    obtain ⟨v0, v1, v2, v3, v4, v5⟩ := hV0.six
    have hvf := fun i => hV0.free i
    have HKV4 := Lib.hid (HKV.out.on hbel0)
    go_upto_region 6 with (at_builtin; refine wpList_appK rfl _ _ rfl _ t.keys rfl rfl HKV4.out (by omega) ?_; intro kv' w5 hk5 hi5 hb5; obtain ⟨ka, kcc, rfl, _⟩ := hk5.form; have hV5 := hV0.on hb5; obtain ⟨y0, y1, y2, y3, y4, y5⟩ := hV5.six; have hyf := fun i => hV5.free i)
    have hS0 : StR w.heap.size k c s st (.slice ka t.keys.length kcc) t.keys t.items f w4 (w5.setCell ⟨w.heap.size + 1 + 1, 5, none⟩ (.slice ka t.keys.length kcc)) (.slice none 0 0) [] :=
      ⟨((Sq.refl _ _).bel (hb5.mono (by omega))).set 5 _, hV5.set 5 _, Own6.nil _ _, Ks.keep hk5 hi5 (fun b hb _ => RowKit.Below.heap_setCell _ _ _ _ (by show b ≠ w.heap.size + 1 + 1; omega)) (by simp [World.setCell]), hi5.weak (fun b hb => ⟨by omega, fun e => by cases e⟩), fun q y z h => by simp at h⟩
    have HS0 := Lib.hid hS0
    have HN0 := Lib.hid hN0
    have HR0 := Lib.hid hR0
    have HBEL := Lib.hid hbel0
    clear hS0 hN0 hR0 hbel0 hV0 hV5 hk5 hi5 hb5 hvf hyf z0 z1 z2 z3 z4 z5 z6 z7 v0 v1 v2 v3 v4 v5 y0 y1 y2 y3 y4 y5 HKV HKV4
    go_wp2_with fail
    go_loopw [4] (fun i wr => ∃ (j : Nat) (vv : Value) (ys : List Six), i = .int .i64 (j : Nat) ∧ j ≤ l.length ∧ Hid (ys.length = j) ∧ Hid (StR w.heap.size k c s st (.slice ka t.keys.length kcc) t.keys t.items f w4 wr vv ys)) (fun i _ => l.length - (intOf i).toNat)
    case atStart => exact ⟨0, _, _, rfl, by omega, Lib.hid rfl, HS0⟩
    case round =>
      clear HS0
      obtain ⟨j, vv, ys, rfl, hj, HYL, HR⟩ := hrel
      have hNw : Wb wr w.heap.size #[.int .i64 la, .int .i64 de, .int .i64 k, .int .i64 c, .int .i64 s, .string st, .slice ao l.length cap, .slice ko t.keys.length kc] := (HR.out.sq.block _ (by omega) (by omega)).trans HN0.out
      obtain ⟨z0, z1, z2, z3, z4, z5, z6, z7⟩ := hNw.eight
      obtain ⟨va, vc, hvv⟩ := HR.out.own.form
      subst hvv
      by_cases hlt : j < l.length
      · obtain ⟨y, hy⟩ : ∃ y, l[j]? = some y := ⟨l[j], List.getElem?_eq_getElem hlt⟩
        obtain ⟨zt, hz⟩ : ∃ z, t.items[j]? = some z := ⟨t.items[j]'(by rw [← HL.out]; exact hlt), List.getElem?_eq_getElem _⟩
        obtain ⟨g, o, rfl, hg, _, hcl⟩ := H.out (by omega)
        have hbel : Below w.heap.size w wr := HR.out.sq.below HBEL.out
        have A8 := (hcl j y hy).on hg hbel
        have hmem := List.mem_of_getElem? hz
        have hc : ∀ wx, Sq w.heap.size wr wx → Calls Try.prog 34 #[y.val] wx (StP f zt wx) := fun wx hx => IH.out y zt wx (NT.on (hx.below hbel) f (HT.out j y zt hy hz)) (HSN.out.item zt hmem) (HCT.out zt hmem)
        obtain ⟨ya, yd, yk, yc, yss, yst, yi, yv⟩ := y
        unfold Eight.val nV at hc
        simp only at hc
        obtain ⟨c0, c1, c2, c3, c4, c5, c6, c7⟩ := A8
        simp only at c0 c1 c2 c3 c4 c5 c6 c7
        have hszr : w.heap.size + 3 ≤ wr.heap.size := by have := HR.out.sq.size; omega
        have HC := Lib.hid hc
        have HZ : Hid (t.items[ys.length]? = some zt) := Lib.hid (by rw [HYL.out]; exact hz)
        have HLY : Hid (ys.length ≤ 1000000000) := Lib.hid (by have := HYL.out; omega)
        obtain ⟨p0, p1, p2, p3, p4, p5⟩ := HR.out.vb.six
        have i1 : (j : Int) < (l.length : Int) := by omega
        clear hcl hy hz hmem hc hNw H
        go_wp2_with fail
        have u0 : ∀ wx, Sq w.heap.size wr wx → wx.cell? ⟨w.heap.size, 6, none⟩ = some (.slice (some ⟨g, o, none⟩) l.length cap) := fun wx hx => (hx.cell 6 (by omega) (by omega)).trans z6
        have d0 : ∀ wx, Sq w.heap.size wr wx → wx.cell? ⟨g, o + j * 8, none⟩ = some (.int .i64 ya) := fun wx hx => (hx.cell _ (by omega) (by omega)).trans c0
        have d1 : ∀ wx, Sq w.heap.size wr wx → wx.cell? ⟨g, o + j * 8 + 1, none⟩ = some (.int .i64 yd) := fun wx hx => (hx.cell _ (by omega) (by omega)).trans c1
        have d2 : ∀ wx, Sq w.heap.size wr wx → wx.cell? ⟨g, o + j * 8 + 2, none⟩ = some (.int .i64 yk) := fun wx hx => (hx.cell _ (by omega) (by omega)).trans c2
        have d3 : ∀ wx, Sq w.heap.size wr wx → wx.cell? ⟨g, o + j * 8 + 3, none⟩ = some (.int .i64 yc) := fun wx hx => (hx.cell _ (by omega) (by omega)).trans c3
        have d4 : ∀ wx, Sq w.heap.size wr wx → wx.cell? ⟨g, o + j * 8 + 4, none⟩ = some (.int .i64 yss) := fun wx hx => (hx.cell _ (by omega) (by omega)).trans c4
        have d5 : ∀ wx, Sq w.heap.size wr wx → wx.cell? ⟨g, o + j * 8 + 5, none⟩ = some (.string yst) := fun wx hx => (hx.cell _ (by omega) (by omega)).trans c5
        have d6 : ∀ wx, Sq w.heap.size wr wx → wx.cell? ⟨g, o + j * 8 + 6, none⟩ = some (yi) := fun wx hx => (hx.cell _ (by omega) (by omega)).trans c6
        have d7 : ∀ wx, Sq w.heap.size wr wx → wx.cell? ⟨g, o + j * 8 + 7, none⟩ = some (yv) := fun wx hx => (hx.cell _ (by omega) (by omega)).trans c7
        refine wp_region_held_drew (S := fun wx => Sq w.heap.size wr wx) (by kernel_rfl) (Sq.refl _ _).drew (fun hHeld => ?_)
        refine take_put (i := 0) (d := 27) (oi := _) (v := ?va0) rfl rfl (by kernel_rfl) (by kernel_rfl) (by kernel_rfl) (fun _ _ _ h => h) (Or.inl ⟨by rfl, ?ya0⟩) hHeld ?ra0
        case ya0 => (intro w hSw; (try dsimp only at hSw); go_simp; try with_reducible rfl)
        simp only [Act.put, List.setIfInBounds_toArray, List.set_cons_zero, List.set_cons_succ]
        refine take_put (i := 2) (d := 29) (oi := _) (v := ?va2) rfl rfl (by kernel_rfl) (by kernel_rfl) (by kernel_rfl) (fun _ _ _ h => h) (Or.inl ⟨by rfl, ?ya2⟩) hHeld ?ra2
        case ya2 => (intro w hSw; (try dsimp only at hSw); go_simp; try with_reducible rfl)
        simp only [Act.put, List.setIfInBounds_toArray, List.set_cons_zero, List.set_cons_succ]
        refine take_put (i := 3) (d := 30) (oi := _) (v := ?va3) rfl rfl (by kernel_rfl) (by kernel_rfl) (by kernel_rfl) (fun _ _ _ h => h) (Or.inl ⟨by rfl, ?ya3⟩) hHeld ?ra3
        case ya3 => (intro w hSw; (try dsimp only at hSw); go_simp; try with_reducible rfl)
        simp only [Act.put, List.setIfInBounds_toArray, List.set_cons_zero, List.set_cons_succ]
        refine take_put (i := 4) (d := 31) (oi := _) (v := ?va4) rfl rfl (by kernel_rfl) (by kernel_rfl) (by kernel_rfl) (fun _ _ _ h => h) (Or.inl ⟨by rfl, ?ya4⟩) hHeld ?ra4
        case ya4 => (intro w hSw; (try dsimp only at hSw); go_simp; try with_reducible rfl)
        simp only [Act.put, List.setIfInBounds_toArray, List.set_cons_zero, List.set_cons_succ]
        refine take_put (i := 5) (d := 32) (oi := _) (v := ?va5) rfl rfl (by kernel_rfl) (by kernel_rfl) (by kernel_rfl) (fun _ _ _ h => h) (Or.inl ⟨by rfl, ?ya5⟩) hHeld ?ra5
        case ya5 => (intro w hSw; (try dsimp only at hSw); go_simp; try with_reducible rfl)
        simp only [Act.put, List.setIfInBounds_toArray, List.set_cons_zero, List.set_cons_succ]
        refine take_put (i := 6) (d := 33) (oi := _) (v := ?va6) rfl rfl (by kernel_rfl) (by kernel_rfl) (by kernel_rfl) (fun _ _ _ h => h) (Or.inl ⟨by rfl, ?ya6⟩) hHeld ?ra6
        case ya6 => (intro w hSw; (try dsimp only at hSw); go_simp; try with_reducible rfl)
        simp only [Act.put, List.setIfInBounds_toArray, List.set_cons_zero, List.set_cons_succ]
        refine wpAnyH_ready (rs := [1, 7]) (by kernel_rfl) (by simp) (AllReadyH.cons (o := _) rfl (fun K hK => ?_) (AllReadyH.cons (o := _) rfl (fun K hK => ?_) AllReadyH.nil))
        · go_simp
          (try dsimp only)
          refine hK.out _ _ (hHeld) (fun hHeld => ?_)
          clear hK K
          refine wpAnyH_ready (rs := [7]) (by kernel_rfl) (by simp) (AllReadyH.cons (o := _) rfl (fun K hK => ?_) AllReadyH.nil)
          go_simp
          refine (HC.out _ (Sq.refl _ _).drew).mono ?_
          rintro e w7 ⟨yy, rfl, bk, hvt⟩
          obtain ⟨ya2, yn2, yo2, yb2, ym2, yp2, hq1, hq2⟩ := hvt.form
          obtain ⟨yk2, yc2, ys2, yt2, yi2, yv2⟩ := yy
          simp only at hq1 hq2
          subst hq1 hq2
          unfold Six.val vV
          simp only
          have bk : Below wr.heap.size wr w7 := (Below.refl _ _).drew.trans bk
          have HVT := Lib.hid hvt
          clear hvt
          have hB7 : Below (w.heap.size + 3) wr w7 := bk.mono hszr
          have hV7 : Vb w7 (w.heap.size + 1 + 1) #[.int .i64 k, .int .i64 c, .int .i64 s, .string st, .slice va ys.length vc, .slice ka t.keys.length kcc] := (hB7.block _ (by omega)).trans HR.out.vb
          obtain ⟨s0, s1, s2, s3, s4, s5⟩ := hV7.six
          (try dsimp only)
          refine hK.out _ _ ((Sq.refl _ _).bel hB7) (fun hHeld => ?_)
          clear hK K
          refine wpAnyH_ready (rs := [8]) (by kernel_rfl) (by simp) (AllReadyH.cons (o := _) rfl (fun K hK => ?_) AllReadyH.nil)
          go_simp
          have hV8 := hV7.alloc (Obj.cells #[.int .i64 yk2, .int .i64 yc2, .int .i64 ys2, .string yt2, .slice ya2 yn2 yo2, .slice yb2 ym2 yp2] 62)
          obtain ⟨t0, t1, t2, t3, t4, t5⟩ := hV8.six
          (try dsimp only)
          refine hK.out _ _ (hHeld.bel ((bA1 w7 _).mono (Nat.le_trans hszr bk.size))) (fun hHeld => ?_)
          clear hK K
          refine wpAnyH_ready (rs := [9]) (by kernel_rfl) (by simp) (AllReadyH.cons (o := _) rfl (fun K hK => ?_) AllReadyH.nil)
          refine step_app6 rfl _ _ rfl (w.heap.size + 3) w7.heap.size (.slice va ys.length vc) ys ⟨yk2, yc2, ys2, yt2, .slice ya2 yn2 yo2, .slice yb2 ym2 yp2⟩ rfl rfl (HR.out.own.on (bT bk (bA1 w7 _))) (heap_alloc_new w7 _) HVT.out.one HLY.out (by have := bk.size; simp; omega) ?_
          intro v' w9 ho9 hk9 hb9 hat9
          have HO9 := Lib.hid ho9
          obtain ⟨va9, vc9, hv9⟩ := ho9.form
          rw [List.length_append, List.length_singleton] at hv9
          subst hv9
          have hV9 : Vb w9 (w.heap.size + 1 + 1) #[.int .i64 k, .int .i64 c, .int .i64 s, .string st, .slice va ys.length vc, .slice ka t.keys.length kcc] := (hb9.block _ (by omega)).trans (hV7.alloc _)
          obtain ⟨r0, r1, r2, r3, r4, r5⟩ := hV9.six
          have hf9 := fun i => hV9.free i
          have HNX := Lib.hid (HR.out.next hszr HZ.out bk HVT.out ho9 hk9 hb9 hat9)
          clear ho9 hk9 hat9
          (try dsimp only)
          refine hK.out _ _ (hHeld.bel hb9) (fun hHeld => ?_)
          clear hK K
          refine take_put (i := 10) (d := 37) (oi := _) (v := ?vp10) rfl rfl (by kernel_rfl) (by kernel_rfl) (by kernel_rfl) (fun _ _ _ h => h) (Or.inl ⟨by rfl, ?yp10⟩) hHeld ?rp10
          case yp10 => (intro w hSw; (try dsimp only at hSw); go_simp; try with_reducible rfl)
          simp only [Act.put, List.setIfInBounds_toArray]
          refine wpAnyH_ready (rs := [11]) (by kernel_rfl) (by simp) (AllReadyH.cons (o := _) rfl (fun K hK => ?_) AllReadyH.nil)
          go_simp
          (try dsimp only)
          refine hK.out _ _ (hHeld.set 4 _) (fun hHeld => ?_)
          clear hK K
          refine wpAnyH_done (by kernel_rfl) ?_ _
          clear hHeld
          go_wp2_with fail
          go_roundw
          case rel => exact ⟨j + 1, _, _, by go_num, by omega, Lib.hid (by rw [List.length_append, HYL.out]; rfl), HNX⟩
          case measure => simp [intOf]; omega
        · go_simp
          refine (HC.out _ (Sq.refl _ _).drew).mono ?_
          rintro e w7 ⟨yy, rfl, bk, hvt⟩
          obtain ⟨ya2, yn2, yo2, yb2, ym2, yp2, hq1, hq2⟩ := hvt.form
          obtain ⟨yk2, yc2, ys2, yt2, yi2, yv2⟩ := yy
          simp only at hq1 hq2
          subst hq1 hq2
          unfold Six.val vV
          simp only
          have bk : Below wr.heap.size wr w7 := (Below.refl _ _).drew.trans bk
          have HVT := Lib.hid hvt
          clear hvt
          have hB7 : Below (w.heap.size + 3) wr w7 := bk.mono hszr
          have hV7 : Vb w7 (w.heap.size + 1 + 1) #[.int .i64 k, .int .i64 c, .int .i64 s, .string st, .slice va ys.length vc, .slice ka t.keys.length kcc] := (hB7.block _ (by omega)).trans HR.out.vb
          obtain ⟨s0, s1, s2, s3, s4, s5⟩ := hV7.six
          (try dsimp only)
          refine hK.out _ _ ((Sq.refl _ _).bel hB7) (fun hHeld => ?_)
          clear hK K
          refine wpAnyH_ready (rs := [1, 8]) (by kernel_rfl) (by simp) (AllReadyH.cons (o := _) rfl (fun K hK => ?_) (AllReadyH.cons (o := _) rfl (fun K hK => ?_) AllReadyH.nil))
          · go_simp
            (try dsimp only)
            refine hK.out _ _ (hHeld) (fun hHeld => ?_)
            clear hK K
            refine wpAnyH_ready (rs := [8]) (by kernel_rfl) (by simp) (AllReadyH.cons (o := _) rfl (fun K hK => ?_) AllReadyH.nil)
            go_simp
            have hV8 := hV7.alloc (Obj.cells #[.int .i64 yk2, .int .i64 yc2, .int .i64 ys2, .string yt2, .slice ya2 yn2 yo2, .slice yb2 ym2 yp2] 62)
            obtain ⟨t0, t1, t2, t3, t4, t5⟩ := hV8.six
            (try dsimp only)
            refine hK.out _ _ (hHeld.bel ((bA1 w7 _).mono (Nat.le_trans hszr bk.size))) (fun hHeld => ?_)
            clear hK K
            refine wpAnyH_ready (rs := [9]) (by kernel_rfl) (by simp) (AllReadyH.cons (o := _) rfl (fun K hK => ?_) AllReadyH.nil)
            refine step_app6 rfl _ _ rfl (w.heap.size + 3) w7.heap.size (.slice va ys.length vc) ys ⟨yk2, yc2, ys2, yt2, .slice ya2 yn2 yo2, .slice yb2 ym2 yp2⟩ rfl rfl (HR.out.own.on (bT bk (bA1 w7 _))) (heap_alloc_new w7 _) HVT.out.one HLY.out (by have := bk.size; simp; omega) ?_
            intro v' w9 ho9 hk9 hb9 hat9
            have HO9 := Lib.hid ho9
            obtain ⟨va9, vc9, hv9⟩ := ho9.form
            rw [List.length_append, List.length_singleton] at hv9
            subst hv9
            have hV9 : Vb w9 (w.heap.size + 1 + 1) #[.int .i64 k, .int .i64 c, .int .i64 s, .string st, .slice va ys.length vc, .slice ka t.keys.length kcc] := (hb9.block _ (by omega)).trans (hV7.alloc _)
            obtain ⟨r0, r1, r2, r3, r4, r5⟩ := hV9.six
            have hf9 := fun i => hV9.free i
            have HNX := Lib.hid (HR.out.next hszr HZ.out bk HVT.out ho9 hk9 hb9 hat9)
            clear ho9 hk9 hat9
            (try dsimp only)
            refine hK.out _ _ (hHeld.bel hb9) (fun hHeld => ?_)
            clear hK K
            refine take_put (i := 10) (d := 37) (oi := _) (v := ?vq10) rfl rfl (by kernel_rfl) (by kernel_rfl) (by kernel_rfl) (fun _ _ _ h => h) (Or.inl ⟨by rfl, ?yq10⟩) hHeld ?rq10
            case yq10 => (intro w hSw; (try dsimp only at hSw); go_simp; try with_reducible rfl)
            simp only [Act.put, List.setIfInBounds_toArray]
            refine wpAnyH_ready (rs := [11]) (by kernel_rfl) (by simp) (AllReadyH.cons (o := _) rfl (fun K hK => ?_) AllReadyH.nil)
            go_simp
            (try dsimp only)
            refine hK.out _ _ (hHeld.set 4 _) (fun hHeld => ?_)
            clear hK K
            refine wpAnyH_done (by kernel_rfl) ?_ _
            clear hHeld
            go_wp2_with fail
            go_roundw
            case rel => exact ⟨j + 1, _, _, by go_num, by omega, Lib.hid (by rw [List.length_append, HYL.out]; rfl), HNX⟩
            case measure => simp [intOf]; omega
          · go_simp
            have hV8 := hV7.alloc (Obj.cells #[.int .i64 yk2, .int .i64 yc2, .int .i64 ys2, .string yt2, .slice ya2 yn2 yo2, .slice yb2 ym2 yp2] 62)
            obtain ⟨t0, t1, t2, t3, t4, t5⟩ := hV8.six
            (try dsimp only)
            refine hK.out _ _ (hHeld.bel ((bA1 w7 _).mono (Nat.le_trans hszr bk.size))) (fun hHeld => ?_)
            clear hK K
            refine wpAnyH_ready (rs := [1]) (by kernel_rfl) (by simp) (AllReadyH.cons (o := _) rfl (fun K hK => ?_) AllReadyH.nil)
            go_simp
            (try dsimp only)
            refine hK.out _ _ (hHeld) (fun hHeld => ?_)
            clear hK K
            refine wpAnyH_ready (rs := [9]) (by kernel_rfl) (by simp) (AllReadyH.cons (o := _) rfl (fun K hK => ?_) AllReadyH.nil)
            refine step_app6 rfl _ _ rfl (w.heap.size + 3) w7.heap.size (.slice va ys.length vc) ys ⟨yk2, yc2, ys2, yt2, .slice ya2 yn2 yo2, .slice yb2 ym2 yp2⟩ rfl rfl (HR.out.own.on (bT bk (bA1 w7 _))) (heap_alloc_new w7 _) HVT.out.one HLY.out (by have := bk.size; simp; omega) ?_
            intro v' w9 ho9 hk9 hb9 hat9
            have HO9 := Lib.hid ho9
            obtain ⟨va9, vc9, hv9⟩ := ho9.form
            rw [List.length_append, List.length_singleton] at hv9
            subst hv9
            have hV9 : Vb w9 (w.heap.size + 1 + 1) #[.int .i64 k, .int .i64 c, .int .i64 s, .string st, .slice va ys.length vc, .slice ka t.keys.length kcc] := (hb9.block _ (by omega)).trans (hV7.alloc _)
            obtain ⟨r0, r1, r2, r3, r4, r5⟩ := hV9.six
            have hf9 := fun i => hV9.free i
            have HNX := Lib.hid (HR.out.next hszr HZ.out bk HVT.out ho9 hk9 hb9 hat9)
            clear ho9 hk9 hat9
            (try dsimp only)
            refine hK.out _ _ (hHeld.bel hb9) (fun hHeld => ?_)
            clear hK K
            refine take_put (i := 10) (d := 37) (oi := _) (v := ?vr10) rfl rfl (by kernel_rfl) (by kernel_rfl) (by kernel_rfl) (fun _ _ _ h => h) (Or.inl ⟨by rfl, ?yr10⟩) hHeld ?rr10
            case yr10 => (intro w hSw; (try dsimp only at hSw); go_simp; try with_reducible rfl)
            simp only [Act.put, List.setIfInBounds_toArray]
            refine wpAnyH_ready (rs := [11]) (by kernel_rfl) (by simp) (AllReadyH.cons (o := _) rfl (fun K hK => ?_) AllReadyH.nil)
            go_simp
            (try dsimp only)
            refine hK.out _ _ (hHeld.set 4 _) (fun hHeld => ?_)
            clear hK K
            refine wpAnyH_done (by kernel_rfl) ?_ _
            clear hHeld
            go_wp2_with fail
            go_roundw
            case rel => exact ⟨j + 1, _, _, by go_num, by omega, Lib.hid (by rw [List.length_append, HYL.out]; rfl), HNX⟩
            case measure => simp [intOf]; omega
      · have HYE : Hid (ys.length = t.items.length) := Lib.hid (by have := HYL.out; have := HL.out; omega)
        obtain ⟨p0, p1, p2, p3, p4, p5⟩ := HR.out.vb.six
        have hRw : Vb wr (w.heap.size + 1) #[.int .i64 0, .int .i64 0, .int .i64 0, .string ⟨#[]⟩, .slice none 0 0, .slice none 0 0] := (HR.out.sq.block _ (by omega) (by omega)).trans HR0.out
        obtain ⟨y0, y1, y2, y3, y4, y5⟩ := hRw.six
        have hrf := fun i => hRw.free i
        have HBW := Lib.hid (HR.out.sq.below HBEL.out)
        have HRW := Lib.hid hRw
        have hszr : w.heap.size + 3 ≤ wr.heap.size := by have := HR.out.sq.size; omega
        clear hNw hRw
        go_wp2_with fail
        clear z0 z1 z2 z3 z4 z5 z6 z7
        have HV := HRW.out.put (.int .i64 k) (.int .i64 c) (.int .i64 s) (.string st) (.slice va ys.length vc) (.slice ka t.keys.length kcc)
        have HB' := b6 HBW.out (show w.heap.size ≤ w.heap.size + 1 by omega) (.int .i64 k) (.int .i64 c) (.int .i64 s) (.string st) (.slice va ys.length vc) (.slice ka t.keys.length kcc)
        have HKP : ∀ b, w.heap.size + 3 ≤ b → ((((((wr.setCell ⟨w.heap.size + 1, 0, none⟩ (.int .i64 k)).setCell ⟨w.heap.size + 1, 1, none⟩ (.int .i64 c)).setCell ⟨w.heap.size + 1, 2, none⟩ (.int .i64 s)).setCell ⟨w.heap.size + 1, 3, none⟩ (.string st)).setCell ⟨w.heap.size + 1, 4, none⟩ (.slice va ys.length vc)).setCell ⟨w.heap.size + 1, 5, none⟩ (.slice ka t.keys.length kcc)).heap[b]? = wr.heap[b]? := fun b hb => by
          have hne : ∀ i, b ≠ (⟨w.heap.size + 1, i, none⟩ : Addr).block := fun i => by show b ≠ w.heap.size + 1; omega
          rw [RowKit.Below.heap_setCell _ _ _ _ (hne _), RowKit.Below.heap_setCell _ _ _ _ (hne _), RowKit.Below.heap_setCell _ _ _ _ (hne _), RowKit.Below.heap_setCell _ _ _ _ (hne _), RowKit.Below.heap_setCell _ _ _ _ (hne _), RowKit.Below.heap_setCell _ _ _ _ (hne _)]
        have hsz6 : ((((((wr.setCell ⟨w.heap.size + 1, 0, none⟩ (.int .i64 k)).setCell ⟨w.heap.size + 1, 1, none⟩ (.int .i64 c)).setCell ⟨w.heap.size + 1, 2, none⟩ (.int .i64 s)).setCell ⟨w.heap.size + 1, 3, none⟩ (.string st)).setCell ⟨w.heap.size + 1, 4, none⟩ (.slice va ys.length vc)).setCell ⟨w.heap.size + 1, 5, none⟩ (.slice ka t.keys.length kcc)).heap.size = wr.heap.size := by simp [World.setCell]
        have HH := HR.out
        have hone : ∀ y ∈ ys, one6 y := fun y hy => by
          obtain ⟨q, hq⟩ := List.getElem?_of_mem hy
          obtain ⟨z, hz⟩ : ∃ z, t.items[q]? = some z := ⟨_, List.getElem?_eq_getElem (by have := (List.getElem?_eq_some_iff.1 hq).1; have := HYE.out; omega)⟩
          exact (HH.it q y z hq hz).one
        have hvs : Vs wr (.slice va ys.length vc) ys := HH.own.vs hone
        have hfin : ∀ (wz : World), (∀ b, w.heap.size + 3 ≤ b → wz.heap[b]? = wr.heap[b]?) → wz.heap.size = wr.heap.size → VTb (fun b => w.heap.size ≤ b) wz (f + 1) ⟨k, c, s, st, .slice va ys.length vc, .slice ka t.keys.length kcc⟩ t.strip := fun wz hk hs => by
          obtain ⟨e1, e2, e3, e4, e5⟩ := HE.out
          refine ⟨by rw [strip_k]; exact e1, by rw [strip_c]; exact e2, by rw [strip_s]; exact e3, by rw [strip_st]; exact e4, ?_, ?_, HH.ki.weak fun b hb => by omega, HH.own.inP.weak fun b hb => by omega, ys, Vs.keep hvs HH.own.inP (fun b hb _ => hk b hb) (Nat.le_of_eq hs.symm), ?_, fun q y z hy hz => ?_⟩
          · rw [strip_keys]
            exact Ks.keep HH.kk HH.ki (fun b hb _ => hk b hb.1) (Nat.le_of_eq hs.symm)
          · rw [strip_keys]
            exact e5
          · rw [strip_items, List.length_map]
            exact HYE.out
          · rw [strip_items, List.getElem?_map] at hz
            obtain ⟨z', hz', rfl⟩ := Option.map_eq_some_iff.1 hz
            exact VTb.weak (fun b hb => by omega) f (VTb.keep (fun b hb _ => hk b hb.1) (Nat.le_of_eq hs.symm) f (HH.it q y z' hy hz'))
        have HF := Lib.hid (hfin _ HKP hsz6)
        obtain ⟨v0, v1, v2, v3, v4, v5⟩ := HV.six
        have HBB := Lib.hid HB'
        clear HV HB' HKP hsz6 hfin hvs hone HH p0 p1 p2 p3 p4 p5 y0 y1 y2 y3 y4 y5 hrf
        simp [bodyPost, results, Try.results34, go_sem, v0, v1, v2, v3, v4, v5]
        exact ⟨⟨k, c, s, st, .slice va ys.length vc, .slice ka t.keys.length kcc⟩, rfl, HBB.out, HF.out⟩
end Nd
end Go.Proofs.Ytelladgeehlkpaa
