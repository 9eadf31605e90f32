/- jval.Put of values read as data that don't stand in one block: nor does what it answers. -/
import Derived.Test.YtnlnogchbmpmaaaJvPuts
import Derived.Test.YtnlnogchbmpmaaaJvIsM
namespace Go.Proofs.Ytnlnogchbmpmaaa
open Go.RowKit
namespace Jv
open _root_.Go.Proofs.Ytnlnogchbmpmaaa.Nm
/-- a slice that isn't empty stands elsewhere -/
def AtNot (k : Nat) (v : Value) : Prop := ∃ ao n c, v = .slice ao n c ∧ (0 < n → ∀ a, ao = some a → a.block ≠ k)
/-- a value in memory reads as data, and block k plays no part -/
def VTx (k : Nat) (w : World) : Nat → Six → JV → Prop
  | 0, _, _ => False
  | n + 1, x, t => x.k = t.k ∧ x.c = t.c ∧ x.s = t.s ∧ x.st = t.st ∧ Ks w x.kv t.keys ∧ Bd x.k x.c x.s x.st t.keys ∧ AtNot k x.kv ∧ AtNot k x.iv ∧
      ∃ l : List Six, Vs w x.iv l ∧ l.length = t.items.length ∧ ∀ (j : Nat) (y : Six) (z : JV), l[j]? = some y → t.items[j]? = some z → VTx k w n y z
theorem VTx.vt {k : Nat} {w : World} : ∀ (n : Nat) {x : Six} {t : JV}, VTx k w n x t → VT w n x t
  | 0, _, _, h => h.elim
  | n + 1, _, _, ⟨h1, h2, h3, h4, h5, hB, _, _, l, h6, h7, h8⟩ => ⟨h1, h2, h3, h4, h5, hB, l, h6, h7, fun j y z hy hz => VTx.vt n (h8 j y z hy hz)⟩
theorem VTx.on {k : Nat} {a b : World} (hb : Below a.heap.size a b) : ∀ (n : Nat) {x : Six} {t : JV}, VTx k a n x t → VTx k b n x t
  | 0, _, _, h => h.elim
  | n + 1, _, _, ⟨h1, h2, h3, h4, h5, hB, q1, q2, l, h6, h7, h8⟩ => ⟨h1, h2, h3, h4, h5.on hb, hB, q1, q2, l, h6.on hb, h7, fun j y z hy hz => VTx.on hb n (h8 j y z hy hz)⟩
theorem VTx.mono {k : Nat} {w : World} : ∀ (n : Nat) {m : Nat} {x : Six} {t : JV}, n ≤ m → VTx k w n x t → VTx k w m x t
  | 0, _, _, _, _, h => h.elim
  | n + 1, 0, _, _, hm, _ => absurd hm (by omega)
  | n + 1, m + 1, _, _, hm, ⟨h1, h2, h3, h4, h5, hB, q1, q2, l, h6, h7, h8⟩ => ⟨h1, h2, h3, h4, h5, hB, q1, q2, l, h6, h7, fun j y z hy hz => VTx.mono n (by omega) (h8 j y z hy hz)⟩
theorem Ks.not {w : World} {v : Value} {l : List ByteArray} {k : Nat} (h : Ks w v l) (hk : w.heap.size ≤ k) : AtNot k v := by
  obtain ⟨ao, cap, rfl, _, _, _, h⟩ := h
  refine ⟨ao, _, cap, rfl, fun h0 a ha => ?_⟩
  obtain ⟨g, o, h1, h2, _⟩ := h h0
  rw [h1] at ha
  obtain rfl := Option.some.inj ha
  show g ≠ k
  omega
theorem Vs.not {w : World} {v : Value} {l : List Six} {k : Nat} (h : Vs w v l) (hk : w.heap.size ≤ k) : AtNot k v := by
  obtain ⟨ao, cap, rfl, _, _, _, h⟩ := h
  refine ⟨ao, _, cap, rfl, fun h0 a ha => ?_⟩
  obtain ⟨g, o, h1, h2, _⟩ := h h0
  rw [h1] at ha
  obtain rfl := Option.some.inj ha
  show g ≠ k
  omega
theorem VT.x {k : Nat} {w : World} (hk : w.heap.size ≤ k) : ∀ (n : Nat) {x : Six} {t : JV}, VT w n x t → VTx k w n x t
  | 0, _, _, h => h.elim
  | n + 1, _, _, ⟨h1, h2, h3, h4, h5, hB, l, h6, h7, h8⟩ => ⟨h1, h2, h3, h4, h5, hB, h5.not hk, h6.not hk, l, h6, h7, fun j y z hy hz => VT.x hk n (h8 j y z hy hz)⟩
theorem AtNew.not {B k : Nat} {v : Value} (h : AtNew B v) (hk : k < B) : AtNot k v := by
  obtain ⟨ao, n, c, h1, h2⟩ := h
  exact ⟨ao, n, c, h1, fun _ a ha => by have := h2 a ha; omega⟩
theorem Vs.far {a b : World} {v : Value} {l : List Six} {k : Nat} (h : Vs a v l) (hn : AtNot k v) (hb : ∀ j, j ≠ k → b.heap[j]? = a.heap[j]?) (hs : a.heap.size ≤ b.heap.size) : Vs b v l := by
  obtain ⟨ao, cap, h1, h2, h3, h4, h⟩ := h
  obtain ⟨ao', n', c', h6, h7⟩ := hn
  refine ⟨ao, cap, h1, h2, h3, h4, fun h0 => ?_⟩
  obtain ⟨g, o, h5, hk, h⟩ := h h0
  rw [h1] at h6
  injection h6 with h6 h8
  have hne : g ≠ k := h7 (by omega) ⟨g, o, none⟩ (h6 ▸ h5)
  exact ⟨g, o, h5, by omega, fun j d hj => (h j d hj).blk (hb g hne)⟩
theorem Ks.far {a b : World} {v : Value} {l : List ByteArray} {k : Nat} (h : Ks a v l) (hn : AtNot k v) (hb : ∀ j, j ≠ k → b.heap[j]? = a.heap[j]?) (hs : a.heap.size ≤ b.heap.size) : Ks b v l := by
  obtain ⟨ao, cap, h1, h2, h3, h4, h⟩ := h
  obtain ⟨ao', n', c', h6, h7⟩ := hn
  refine ⟨ao, cap, h1, h2, h3, h4, fun h0 => ?_⟩
  obtain ⟨g, o, h5, hk, h⟩ := h h0
  rw [h1] at h6
  injection h6 with h6 h8
  have hne : g ≠ k := h7 (by omega) ⟨g, o, none⟩ (h6 ▸ h5)
  exact ⟨g, o, h5, by omega, fun j d hj => (World.cell?_of_block (a := ⟨g, o + j, none⟩) (hb g hne)).trans (h j d hj)⟩
theorem VTx.far {k : Nat} {a b : World} (hb : ∀ j, j ≠ k → b.heap[j]? = a.heap[j]?) (hs : a.heap.size ≤ b.heap.size) : ∀ (n : Nat) {x : Six} {t : JV}, VTx k a n x t → VTx k b n x t
  | 0, _, _, h => h.elim
  | n + 1, _, _, ⟨h1, h2, h3, h4, h5, hB, q1, q2, l, h6, h7, h8⟩ => ⟨h1, h2, h3, h4, h5.far q1 hb hs, hB, q1, q2, l, h6.far q2 hb hs, h7, fun j y z hy hz => VTx.far hb hs n (h8 j y z hy hz)⟩
theorem put_anyX (q n m : Nat) (x v : Six) (tx tv : JV) (key : ByteArray) (w : World) (hx : VTx q w n x tx) (hv : VTx q w m v tv) (hn : tx.items.length ≤ 1000000000) (hks : key.size ≤ maxLen) (hq : q < w.heap.size) :
    Calls Try.prog 18 #[x.val, .string key, v.val] w fun e w' => ∃ y, e = .returned y.val ∧ VTx q w' (n + m) y (putT tx key tv) ∧ Below w.heap.size w w' := by
  cases n with
  | zero => exact hx.elim
  | succ n =>
  have hx' := hx
  have hv1 := VTx.vt m hv
  obtain ⟨e1, e2, e3, e4, e5, hB, qk, qi, l, hl, hll, hlt⟩ := hx
  have hone : ∀ y ∈ l, y.one := fun y hy => by
    obtain ⟨j, hj⟩ := List.getElem?_of_mem hy
    have hjl := (List.getElem?_eq_some_iff.1 hj).1
    exact (VTx.vt n (hlt j y _ hj (List.getElem?_eq_getElem (by omega)))).one
  by_cases ho : tx.k = 6 ∧ tx.keys.length = tx.items.length
  · have ho' : x.k = 6 ∧ tx.keys.length = l.length := ⟨by rw [e1]; exact ho.1, by rw [hll]; exact ho.2⟩
    have hpt : putT tx key tv = .mk tx.k tx.c tx.s tx.st (putI tx.keys tx.items key tv) (putK tx.keys key) := by unfold putT; rw [if_pos ho]
    have hBd : Bd x.k x.c x.s x.st (putK tx.keys key) := by
      obtain ⟨b1, b2, b3, b4, b5⟩ := hB
      exact ⟨b1, b2, b3, b4, fun y hy => by
        rcases putK_mem hy with rfl | hy
        · exact hks
        · exact b5 y hy⟩
    rw [hpt, show n + 1 + m = (n + m) + 1 by omega]
    rcases idx_cases tx.keys key with ⟨h1, h2⟩ | ⟨i, h1, h2, h3, h4⟩
    · refine (put_new x v tx.keys l key (plc tx.keys key) w e5 hl hone hv1.one (by omega) ho' h1 rfl).mono ?_
      rintro e w' ⟨iv', kv', rfl, hi', hk', b, n1, n2⟩
      have ek : putK tx.keys key = tx.keys.take (plc tx.keys key) ++ ([key] ++ tx.keys.drop (plc tx.keys key)) := by unfold putK; rw [if_neg (by omega)]
      have ei : putI tx.keys tx.items key tv = tx.items.take (plc tx.keys key) ++ ([tv] ++ tx.items.drop (plc tx.keys key)) := by unfold putI; rw [if_neg (by omega)]
      refine ⟨_, rfl, ⟨e1, e2, e3, e4, ?_, hBd, n2.not hq, n1.not hq, _, hi', ?_, ?_⟩, b⟩
      · rw [show (JV.mk tx.k tx.c tx.s tx.st (putI tx.keys tx.items key tv) (putK tx.keys key)).keys = putK tx.keys key from rfl, ek]
        exact hk'
      · show _ = (putI tx.keys tx.items key tv).length
        rw [ei]
        simp [hll]
      · show ∀ (j : Nat) (y : Six) (z : JV), _ → (putI tx.keys tx.items key tv)[j]? = some z → _
        rw [ei]
        refine pw_ins hll (fun j y z hy hz => ?_) _ _ ?_
        · exact VTx.mono n (by omega) (VTx.on b n (hlt j y z hy hz))
        · exact VTx.mono m (by omega) (VTx.on b m hv)
    · refine (put_has x v tx.keys l key i w e5 hl hone hv1.one (by omega) ho' h1 (by omega)).mono ?_
      rintro e w' ⟨iv', rfl, hi', b, n1⟩
      have ek : putK tx.keys key = tx.keys := by unfold putK; rw [if_pos (by omega)]
      have ei : putI tx.keys tx.items key tv = tx.items.take i ++ ([tv] ++ tx.items.drop (i + 1)) := by unfold putI; rw [if_pos (by omega), h1]; rfl
      refine ⟨_, rfl, ⟨e1, e2, e3, e4, ?_, hBd, qk, n1.not hq, _, hi', ?_, ?_⟩, b⟩
      · rw [show (JV.mk tx.k tx.c tx.s tx.st (putI tx.keys tx.items key tv) (putK tx.keys key)).keys = putK tx.keys key from rfl, ek]
        exact e5.on b
      · show _ = (putI tx.keys tx.items key tv).length
        rw [ei]
        simp [hll]
      · show ∀ (j : Nat) (y : Six) (z : JV), _ → (putI tx.keys tx.items key tv)[j]? = some z → _
        rw [ei]
        refine pw_ins hll (fun j y z hy hz => ?_) _ _ ?_
        · exact VTx.mono n (by omega) (VTx.on b n (hlt j y z hy hz))
        · exact VTx.mono m (by omega) (VTx.on b m hv)
  · have hpt : putT tx key tv = tx := by unfold putT; rw [if_neg ho]
    rw [hpt]
    refine (put_no x v tx.keys l key w e5 hl (by rw [e1, hll]; exact ho)).mono ?_
    rintro e w' ⟨rfl, b⟩
    exact ⟨x, rfl, VTx.on b _ (VTx.mono (n + 1) (by omega) hx'), b⟩
/-- Put, cell by cell -/
theorem put_cells (x v : Six) (tx tv : JV) (key : ByteArray) (w : World) (hx : ∃ n, VT w n x tx) (hv : ∃ n, VT w n v tv) (hn : tx.items.length ≤ 1000000000) (hks : key.size ≤ maxLen) :
    Calls Try.prog 18 #[.agg #[.int .i64 x.k, .int .i64 x.c, .int .i64 x.s, .string x.st, x.iv, x.kv], .string key, .agg #[.int .i64 v.k, .int .i64 v.c, .int .i64 v.s, .string v.st, v.iv, v.kv]] w fun e w' => ∃ uk uc us ust ua un uo va vn vo, e = .returned (.agg #[.int .i64 uk, .int .i64 uc, .int .i64 us, .string ust, .slice ua un uo, .slice va vn vo]) ∧ (∃ q, VT w' q ⟨uk, uc, us, ust, .slice ua un uo, .slice va vn vo⟩ (putT tx key tv)) ∧ Below w.heap.size w w' := by
  obtain ⟨n, hx⟩ := hx
  obtain ⟨m, hv⟩ := hv
  have h1 := put_anyT n m x v tx tv key w hx hv hn hks
  unfold Six.val vV at h1
  refine h1.mono ?_
  rintro e w' ⟨u, rfl, hu, hb⟩
  obtain ⟨⟨ua, un, uo, g1⟩, va, vn, vo, g2⟩ := hu.one
  obtain ⟨uk, uc, us, ust, ui, uv⟩ := u
  simp only at g1 g2
  subst g1 g2
  exact ⟨_, _, _, _, _, _, _, _, _, _, rfl, ⟨_, hu⟩, hb⟩
/-- Put, cell by cell, of values that don't stand in a block -/
theorem put_cellsX (q : Nat) (x v : Six) (tx tv : JV) (key : ByteArray) (w : World) (hx : ∃ n, VTx q w n x tx) (hv : ∃ n, VTx q w n v tv) (hn : tx.items.length ≤ 1000000000) (hks : key.size ≤ maxLen) (hq : q < w.heap.size) :
    Calls Try.prog 18 #[.agg #[.int .i64 x.k, .int .i64 x.c, .int .i64 x.s, .string x.st, x.iv, x.kv], .string key, .agg #[.int .i64 v.k, .int .i64 v.c, .int .i64 v.s, .string v.st, v.iv, v.kv]] w fun e w' => ∃ uk uc us ust ua un uo va vn vo, e = .returned (.agg #[.int .i64 uk, .int .i64 uc, .int .i64 us, .string ust, .slice ua un uo, .slice va vn vo]) ∧ (∃ m, VTx q w' m ⟨uk, uc, us, ust, .slice ua un uo, .slice va vn vo⟩ (putT tx key tv)) ∧ Below w.heap.size w w' := by
  obtain ⟨n, hx⟩ := hx
  obtain ⟨m, hv⟩ := hv
  have h1 := put_anyX q n m x v tx tv key w hx hv hn hks hq
  unfold Six.val vV at h1
  refine h1.mono ?_
  rintro e w' ⟨u, rfl, hu, hb⟩
  obtain ⟨⟨ua, un, uo, g1⟩, va, vn, vo, g2⟩ := (VTx.vt _ hu).one
  obtain ⟨uk, uc, us, ust, ui, uv⟩ := u
  simp only at g1 g2
  subst g1 g2
  exact ⟨_, _, _, _, _, _, _, _, _, _, rfl, ⟨_, hu⟩, hb⟩
/-- the boxes of two values and of two texts -/
structure Tt (wr : World) (k : Nat) (v0 v1 : Six) (a b : ByteArray) : Prop where
  vv : wr.heap[k + 1]? = some (.cells #[.int .i64 v0.k, .int .i64 v0.c, .int .i64 v0.s, .string v0.st, v0.iv, v0.kv, .int .i64 v1.k, .int .i64 v1.c, .int .i64 v1.s, .string v1.st, v1.iv, v1.kv] 34 (0, 0))
  kk : wr.heap[k + 2]? = some (.cells #[.string a, .string b] 35 (0, 0))
theorem Tt.on {w w' : World} {k : Nat} {v0 v1 : Six} {a b : ByteArray} (h : Tt w k v0 v1 a b) (hb : Below w.heap.size w w') : Tt w' k v0 v1 a b :=
  ⟨(hb.block _ (Array.getElem?_eq_some_iff.1 h.vv).1).trans h.vv, (hb.block _ (Array.getElem?_eq_some_iff.1 h.kk).1).trans h.kk⟩
theorem Tt.cells {w : World} {k : Nat} {v0 v1 : Six} {a b : ByteArray} (h : Tt w k v0 v1 a b) :
    (w.cell? ⟨k + 1, 0, none⟩ = some (.int .i64 v0.k) ∧ w.cell? ⟨k + 1, 1, none⟩ = some (.int .i64 v0.c) ∧ w.cell? ⟨k + 1, 2, none⟩ = some (.int .i64 v0.s) ∧ w.cell? ⟨k + 1, 3, none⟩ = some (.string v0.st) ∧ w.cell? ⟨k + 1, 4, none⟩ = some v0.iv ∧ w.cell? ⟨k + 1, 5, none⟩ = some v0.kv) ∧
    (w.cell? ⟨k + 1, 6, none⟩ = some (.int .i64 v1.k) ∧ w.cell? ⟨k + 1, 7, none⟩ = some (.int .i64 v1.c) ∧ w.cell? ⟨k + 1, 8, none⟩ = some (.int .i64 v1.s) ∧ w.cell? ⟨k + 1, 9, none⟩ = some (.string v1.st) ∧ w.cell? ⟨k + 1, 10, none⟩ = some v1.iv ∧ w.cell? ⟨k + 1, 11, none⟩ = some v1.kv) ∧
    w.cell? ⟨k + 2, 0, none⟩ = some (.string a) ∧ w.cell? ⟨k + 2, 1, none⟩ = some (.string b) :=
  ⟨⟨cell_of_row w _ 0 _ _ _ h.vv, cell_of_row w _ 1 _ _ _ h.vv, cell_of_row w _ 2 _ _ _ h.vv, cell_of_row w _ 3 _ _ _ h.vv, cell_of_row w _ 4 _ _ _ h.vv, cell_of_row w _ 5 _ _ _ h.vv⟩,
    ⟨cell_of_row w _ 6 _ _ _ h.vv, cell_of_row w _ 7 _ _ _ h.vv, cell_of_row w _ 8 _ _ _ h.vv, cell_of_row w _ 9 _ _ _ h.vv, cell_of_row w _ 10 _ _ _ h.vv, cell_of_row w _ 11 _ _ _ h.vv⟩, cell_of_row w _ 0 _ _ _ h.kk, cell_of_row w _ 1 _ _ _ h.kk⟩
theorem putT_len (t : JV) (a : ByteArray) (u : JV) : (putT t a u).items.length ≤ t.items.length + 1 := by
  unfold putT
  split
  · rename_i h
    show (putI t.keys t.items a u).length ≤ _
    rw [← putKI_len (key := a) (v := u) h.2, putK_len]
    split <;> omega
  · omega
theorem putT_mk {k c s : Int} {st : ByteArray} {its : List JV} {ks : List ByteArray} (h6 : k = 6) (hl : ks.length = its.length) (b : ByteArray) (u : JV) : putT (.mk k c s st its ks) b u = .mk k c s st (putI ks its b u) (putK ks b) := by
  show (if k = 6 ∧ ks.length = its.length then JV.mk k c s st (putI ks its b u) (putK ks b) else _) = _
  exact if_pos ⟨h6, hl⟩
theorem putT_turn {t u0 u1 : JV} {a b : ByteArray} {n : Nat} (h : IsP n t) (hne : a ≠ b) : putT (putT t a u0) b u1 = putT (putT t b u1) a u0 := by
  have hl := h.len
  have hu := h.up
  obtain ⟨k, c, s, st, its, ks⟩ := t
  by_cases h6 : k = 6
  · have hl := hl h6
    simp only [JV.keys, JV.items] at hl hu
    obtain ⟨e1, e2⟩ := puts_turn (v0 := u0) (v1 := u1) hl hu hne
    rw [putT_mk h6 hl, putT_mk h6 hl, putT_mk h6 (putKI_len hl), putT_mk h6 (putKI_len hl), e1, e2]
  · have h0 : ∀ (a : ByteArray) (u : JV), putT (.mk k c s st its ks) a u = .mk k c s st its ks := fun a u => by unfold putT; rw [if_neg (fun h => h6 h.1)]
    simp only [h0]
end Jv
end Go.Proofs.Ytnlnogchbmpmaaa
