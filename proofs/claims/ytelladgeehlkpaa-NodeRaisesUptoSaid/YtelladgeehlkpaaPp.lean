/- A map keyed by where lists stand: what is asked of the tape plays no part in how it goes on. -/
import Derived.Test.YtelladgeehlkpaaPc
import Derived.DeepKeys
import Derived.MapKept
import Derived.Maps.OwnSet
import Derived.Test.YtelladgeehlkpaaPj
import Derived.Deep.QuietTactic
import Derived.BigQuiet
namespace Go.Proofs.Ytelladgeehlkpaa
open Go.RowKit
namespace Nd
open _root_.Go.Proofs.Ytelladgeehlkpaa.Nm _root_.Go.Proofs.Ytelladgeehlkpaa.Jv
/-- a place whose address may be compared -/
def Pt (w : World) (k o : Nat) : Prop := ∃ cs t fr, w.heap[k]? = some (.cells cs t fr) ∧ w.frozen? ⟨k, o, none⟩ = false
/-- nothing has turned but how often the tape was asked -/
def Dr (w w' : World) : Prop := ∃ n, w' = w.drewN n
theorem Dr.refl (w : World) : Dr w w := ⟨0, rfl⟩
theorem drewN_add (w : World) (a b : Nat) : (w.drewN a).drewN b = w.drewN (a + b) := by
  simp [World.drewN, Nat.add_assoc]
theorem Dr.trans {a b c : World} (h : Dr a b) (h' : Dr b c) : Dr a c := by
  obtain ⟨n, rfl⟩ := h
  obtain ⟨m, rfl⟩ := h'
  exact ⟨n + m, drewN_add a n m⟩
theorem Dr.drew (w : World) : Dr w w.drew := ⟨1, rfl⟩
theorem Dr.heap {a b : World} (h : Dr a b) : b.heap = a.heap := by obtain ⟨n, rfl⟩ := h; rfl
theorem Dr.frozen {a b : World} (h : Dr a b) (p : Addr) : b.frozen? p = a.frozen? p := by obtain ⟨n, rfl⟩ := h; rfl
theorem Pt.dr {a b : World} {k o : Nat} (h : Pt a k o) (hd : Dr a b) : Pt b k o := by
  obtain ⟨cs, t, fr, h1, h2⟩ := h
  exact ⟨cs, t, fr, by rw [hd.heap]; exact h1, by rw [hd.frozen]; exact h2⟩
/-- what is run in any such world ends in one -/
def Tame {α : Type} (w : World) (s : Sem α) : Prop := ∀ w1, Dr w w1 → ∃ r w2, s.run Try.prog w1 = .ok r w2 ∧ Dr w w2
theorem Tame.pure {α : Type} (w : World) (x : α) : Tame w (pure x : Sem α) := fun w1 h => ⟨x, w1, by simp, h⟩
theorem Tame.bind {α β : Type} {w : World} {s : Sem α} {f : α → Sem β} (h : Tame w s) (hf : ∀ x, Tame w (f x)) : Tame w (s >>= f) := fun w1 h1 => by
  obtain ⟨r, w2, h2, h3⟩ := h w1 h1
  obtain ⟨r', w3, h4, h5⟩ := hf r w2 h3
  exact ⟨r', w3, by simp [h2, Result.andThen, h4], h5⟩
theorem choose_tame (w : World) (q : Question) : Tame w (choose q) := by
  intro w1 hd
  by_cases h : q.forced = true
  · exact ⟨0, w1, by simp [h], hd⟩
  · exact ⟨_, w1.drew, by simp [h]; rfl, hd.trans (Dr.drew _)⟩
theorem same_tame (w : World) (k o k' o' : Nat) (h : Pt w k o) (h' : Pt w k' o') : Tame w (sameAddr ⟨k, o, none⟩ ⟨k', o', none⟩) := by
  intro w1 hd
  obtain ⟨cs, t, fr, h1, h2⟩ := h.dr hd
  obtain ⟨cs', t', fr', h1', h2'⟩ := h'.dr hd
  by_cases hk : k = k'
  · subst hk
    exact ⟨_, w1, by simp [sameAddr]; rfl, hd⟩
  · have hne : (k == k') = false := by simpa using hk
    have s1 : w1.shape? k = some (t, cs.size) := by simp [World.shape?, h1]
    have s2 : w1.shape? k' = some (t', cs'.size) := by simp [World.shape?, h1']
    obtain ⟨r, w2, e, hd2⟩ := choose_tame w (.extern "sameAddr.stringBytes" 2) w1 hd
    cases f1 : w1.frozen? ⟨k, cs.size, none⟩ <;> cases f2 : w1.frozen? ⟨k', cs'.size, none⟩ <;>
      simp [-run_choose_drew, -run_choose, -Bool.exists_bool, sameAddr, mayBeOne, stringish, noView, viewAt, h2, h2', s1, s2, hne, f1, f2, Result.andThen, e]
    · exact ⟨_, _, ⟨rfl, rfl⟩, hd⟩
    · cases hq : cs'.size <;> simp [-Bool.exists_bool] <;> first | exact ⟨_, _, ⟨rfl, rfl⟩, hd⟩ | exact ⟨_, _, ⟨rfl, rfl⟩, hd2⟩
    · cases hq : cs.size <;> simp [-Bool.exists_bool] <;> first | exact ⟨_, _, ⟨rfl, rfl⟩, hd⟩ | exact ⟨_, _, ⟨rfl, rfl⟩, hd2⟩
    · exact ⟨_, _, ⟨rfl, rfl⟩, hd2⟩
theorem cellsSp : Try.prog.cellsOf 110 = 2 := by kernel_rfl
set_option maxRecDepth 100000 in
theorem eq_ptr (d : Nat) (a b : Addr) (w : World) : (Op.equalIn (d + 1) 99 (.pointer (some a)) (.pointer (some b))).run Try.prog w = (sameAddr a b).run Try.prog w := by
  simp [Op.equalIn, go_sem]
set_option maxRecDepth 100000 in
theorem eq_key (k o k' o' kk oo kk' oo' : Nat) (m n m' n' : Int) (w0 : World) (h1 : Pt w0 k o) (h2 : Pt w0 k' o') (h3 : Pt w0 kk oo) (h4 : Pt w0 kk' oo') : Tame w0 (Op.equalIn 10000 118 (.agg #[.pointer (some ⟨k, o, none⟩), .int .i64 m, .pointer (some ⟨k', o', none⟩), .int .i64 n]) (.agg #[.pointer (some ⟨kk, oo, none⟩), .int .i64 m', .pointer (some ⟨kk', oo', none⟩), .int .i64 n'])) := by
  intro w hd
  obtain ⟨r, w1, e1, d1⟩ := same_tame w0 k o kk oo h1 h3 w hd
  obtain ⟨r', w2, e2, d2⟩ := same_tame w0 k' o' kk' oo' h2 h4 w1 d1
  have hp := eq_ptr 9997 ⟨k, o, none⟩ ⟨kk, oo, none⟩ w
  have hp' := eq_ptr 9997 ⟨k', o', none⟩ ⟨kk', oo', none⟩ w1
  rw [e1] at hp
  rw [e2] at hp'
  rw [show (10000 : Nat) = 9999 + 1 from rfl, run_equalIn_array w 9999 _ _ Try.underlying118 Try.type110]
  simp [-Bool.exists_bool, go_sem, Op.eqItems, cellsSp, hp]
  cases r
  · exact ⟨_, _, rfl, d1⟩
  · by_cases hm : m = m'
    · simp only [hm, hp', if_true]
      cases r'
      · exact ⟨_, _, rfl, d2⟩
      · by_cases hn : n = n'
        · simp [hn, -Bool.exists_bool, Result.andThen]
          exact ⟨_, _, ⟨rfl, rfl⟩, d2⟩
        · simp [hn, -Bool.exists_bool, Result.andThen]
          exact ⟨_, _, ⟨rfl, rfl⟩, d2⟩
    · simp only [hm, if_false]
      exact ⟨_, _, rfl, d1⟩
/-- a key of two places -/
def KeyOk (w : World) (v : Value) : Prop := ∃ (k o k' o' : Nat) (m n : Int), v = .agg #[.pointer (some ⟨k, o, none⟩), .int .i64 m, .pointer (some ⟨k', o', none⟩), .int .i64 n] ∧ Pt w k o ∧ Pt w k' o'
theorem KeyOk.dr {a b : World} {v : Value} (h : KeyOk a v) (hd : Dr a b) : KeyOk b v := by
  obtain ⟨k, o, k', o', m, n, h1, h2, h3⟩ := h
  exact ⟨k, o, k', o', m, n, h1, h2.dr hd, h3.dr hd⟩
/-- a map that has such keys -/
def EntOk (w : World) (e : MapEntry) : Prop := KeyOk w e.key ∧ e.val = .agg #[]
def MapP (p : Value → Prop) (w : World) (b : Nat) : Prop := ∃ es clock, w.heap[b]? = some (.map es clock) ∧ ∀ (i : Nat) e, es[i]? = some e → p e.key ∧ e.val = .agg #[]
theorem ent_mem {p : Value → Prop} {w : World} {es : Array MapEntry} (hp : ∀ v, p v → KeyOk w v) (h : ∀ (i : Nat) e, es[i]? = some e → p e.key ∧ e.val = .agg #[]) : ∀ e ∈ es.toList, EntOk w e := fun e he => by
  obtain ⟨i, hi⟩ := List.getElem?_of_mem he
  have := h i e (by simpa using hi)
  exact ⟨hp _ this.1, this.2⟩
theorem key_eq {w : World} {v u : Value} (h : KeyOk w v) (h' : KeyOk w u) : Tame w (Op.equal 118 v u) := by
  obtain ⟨k, o, k', o', m, n, rfl, h1, h2⟩ := h
  obtain ⟨kk, oo, kk', oo', m', n', rfl, h3, h4⟩ := h'
  exact eq_key k o k' o' kk oo kk' oo' m n m' n' w h1 h2 h3 h4
theorem find_tame (w : World) (v : Value) (h : KeyOk w v) : ∀ (es : List MapEntry) (i : Nat), (∀ e ∈ es, EntOk w e) → ∀ w1, Dr w w1 → ∃ r w2, (Instr.findAsking 118 v es i).run Try.prog w1 = .ok r w2 ∧ Dr w w2 ∧ ∀ p q, r = some (p, q) → q = .agg #[]
  | [], i, _, w1, hd => ⟨none, w1, by simp [Instr.findAsking], hd, fun p q h => by cases h⟩
  | e :: es, i, he, w1, hd => by
    have h1 := he e (by simp)
    obtain ⟨r, w2, e2, d2⟩ := key_eq h h1.1 w1 hd
    obtain ⟨r', w3, e3, d3, h3⟩ := find_tame w v h es (i + 1) (fun x hx => he x (by simp [hx])) w2 d2
    cases r
    · exact ⟨r', w3, by simp [Instr.findAsking, e2, Result.andThen, e3], d3, h3⟩
    · exact ⟨some (i, e.val), w2, by simp [Instr.findAsking, e2, Result.andThen], d2, fun p q h => by cases h; exact h1.2⟩
set_option maxRecDepth 100000 in
theorem check_key (b : Bool) {w0 : World} {v : Value} (h : KeyOk w0 v) (w : World) : (Instr.checkKey b 10000 118 v).run Try.prog w = .ok () w := by
  obtain ⟨k, o, k', o', m, n, rfl, _, _⟩ := h
  kernel_rfl
set_option maxRecDepth 100000 in
theorem findKey_tame (w : World) (v : Value) (h : KeyOk w v) (es : List MapEntry) (he : ∀ e ∈ es, EntOk w e) : ∃ r w2, (Instr.findKey 118 v es).run Try.prog w = .ok r w2 ∧ Dr w w2 ∧ ∀ p q, r = some (p, q) → q = .agg #[] := by
  cases es with
  | nil => exact ⟨none, w, by simp [Instr.findKey, Instr.findNow, go_sem], Dr.refl w, fun p q h => by cases h⟩
  | cons e es =>
    obtain ⟨r, w2, h1, h2, h3⟩ := find_tame w v h (e :: es) 0 he w (Dr.refl w)
    refine ⟨r, w2, ?_, h2, h3⟩
    have hs : Instr.sameNow (TypeDesc.array 2 110) v e.key = none := by
      obtain ⟨k, o, k', o', m, n, rfl, _, _⟩ := h
      rfl
    simp [Instr.findKey, Instr.findNow, go_sem, hs, h1]
set_option maxRecDepth 100000 in
theorem lookup_ok (p : Value → Prop) (w : World) (b : Nat) (v : Value) (hp : ∀ v, p v → KeyOk w v) (h : p v) (hm : MapP p w b) :
    ∃ r w2, (Instr.lookup 114 (.map (some b)) v true).run Try.prog w = .ok (.tuple #[.agg #[], .bool r]) w2 ∧ Dr w w2 := by
  obtain ⟨es, clock, h1, h2⟩ := hm
  have h := hp v h
  obtain ⟨r, w2, e2, d2, h3⟩ := findKey_tame w v h es.toList (ent_mem hp h2)
  cases r with
  | none => exact ⟨false, w2, by simp [Instr.lookup, go_sem, MapKept.run_getObj_map h1, check_key _ h, e2, Result.andThen], d2⟩
  | some r =>
    obtain ⟨p, q⟩ := r
    obtain rfl := h3 p q rfl
    exact ⟨true, w2, by simp [Instr.lookup, go_sem, MapKept.run_getObj_map h1, check_key _ h, e2, Result.andThen], d2⟩
/-- nothing but the map in block b has turned -/
structure Turn (b : Nat) (w w' : World) : Prop where
  os : w'.os = w.os
  tape : w'.tape = w.tape
  output : w'.output = w.output
  size : w'.heap.size = w.heap.size
  block : ∀ k, k ≠ b → w'.heap[k]? = w.heap[k]?
theorem Turn.below {b B : Nat} {w0 w w' : World} (h : Turn b w w') (hb : Below B w0 w) (hB : B ≤ b) : Below B w0 w' :=
  hb.trans ⟨h.os, h.tape, h.output, Nat.le_of_eq h.size.symm, fun k hk => h.block k (by omega)⟩
theorem set_turn {p : Value → Prop} {b : Nat} {w w2 : World} {es : Array MapEntry} {c : Nat} (hd : Dr w w2) (es' : Array MapEntry) (c' : Nat) (hb : w.heap[b]? = some (.map es c)) (he : ∀ (i : Nat) e, es'[i]? = some e → p e.key ∧ e.val = .agg #[]) :
    Turn b w { w2 with heap := w2.heap.setIfInBounds b (.map es' c') } ∧ MapP p { w2 with heap := w2.heap.setIfInBounds b (.map es' c') } b := by
  have hlt : b < w.heap.size := (Array.getElem?_eq_some_iff.1 hb).1
  have ht : Turn b w { w2 with heap := w2.heap.setIfInBounds b (.map es' c') } := by
    obtain ⟨n, rfl⟩ := hd
    exact ⟨rfl, rfl, rfl, by simp, fun k hk => by
      have : (w.drewN n).heap = w.heap := rfl
      simp [Array.getElem?_setIfInBounds]
      intro e; exact absurd e.symm hk⟩
  refine ⟨ht, es', c', ?_, he⟩
  have : w2.heap = w.heap := hd.heap
  simp [this, hlt]
set_option maxRecDepth 100000 in
theorem update_ok (p : Value → Prop) (w : World) (b : Nat) (v : Value) (hp : ∀ v, p v → KeyOk w v) (h0 : p v) (hm : MapP p w b) :
    ∃ w2, (Instr.mapUpdate 114 (.map (some b)) v (.agg #[])).run Try.prog w = .ok () w2 ∧ Turn b w w2 ∧ MapP p w2 b := by
  obtain ⟨es, clock, h1, h2⟩ := hm
  have h := hp v h0
  obtain ⟨r, w2, e2, d2, h3⟩ := findKey_tame w v h es.toList (ent_mem hp h2)
  have h1' : w2.heap[b]? = some (.map es clock) := by rw [d2.heap]; exact h1
  cases r with
  | none =>
    obtain ⟨t1, t2⟩ := set_turn (p := p) (w2 := w2) d2 (es.push { key := v, val := .agg #[], born := clock }) (clock + 1) h1 (fun i e hi => by
      rw [Array.getElem?_push] at hi
      split at hi
      · cases hi; exact ⟨h0, rfl⟩
      · exact h2 i e hi)
    exact ⟨_, by simp [Instr.mapUpdate, go_sem, MapKept.run_getObj_map h1, check_key _ h, e2, Result.andThen, MapKept.run_setObj_map _ h1'], t1, t2⟩
  | some r =>
    obtain ⟨q, u0⟩ := r
    have hold : p (((es[q]?).map (·.key)).getD v) := by
      cases hp : es[q]? with
      | none => exact h0
      | some e => exact (h2 q e hp).1
    obtain ⟨u, w3, e3, d3, hu⟩ : ∃ u w3, (Instr.keyThatStays (((es[q]?).map (·.key)).getD v) v).run Try.prog w2 = .ok u w3 ∧ Dr w w3 ∧ p u := by
      unfold Instr.keyThatStays
      split
      · exact ⟨v, w2, by simp, d2, h0⟩
      · obtain ⟨c, w3, e3, d3⟩ := choose_tame w (.extern "map.whichKeyStays" 2) w2 d2
        by_cases hc : c = 0
        · exact ⟨v, w3, by simp [-run_choose_drew, -run_choose, e3, Result.andThen, hc], d3, h0⟩
        · exact ⟨_, w3, by simp [-run_choose_drew, -run_choose, e3, Result.andThen, hc], d3, hold⟩
    have h1'' : w3.heap[b]? = some (.map es clock) := by rw [d3.heap]; exact h1
    obtain ⟨t1, t2⟩ := set_turn (p := p) (w2 := w3) d3 (es.modify q fun e => { e with key := u, val := .agg #[] }) clock h1 (fun i e hi => by
      rw [Array.getElem?_modify] at hi
      split at hi
      · cases hq : es[i]? with
        | none => rw [hq] at hi; cases hi
        | some e' => rw [hq] at hi; cases hi; exact ⟨hu, rfl⟩
      · exact h2 i e hi)
    exact ⟨_, by simp [Instr.mapUpdate, go_sem, MapKept.run_getObj_map h1, check_key _ h, e2, Result.andThen, e3, MapKept.run_setObj_map _ h1''], t1, t2⟩
section
variable {ops : Array Oper} {rest : List Oper} {o : Oper} {a : Act} {w : World} {Q : Exit → Act → World → Prop}
theorem wpList_look (hg : o.guard = none) (m x : Operand) (hop : o.op = Op.lookup 114 m x true) (p : Value → Prop) (b : Nat) (key : Value)
    (hm : a.eval m = .map (some b)) (hx : a.eval x = key) (hp : ∀ v, p v → KeyOk w v) (hk : p key) (hM : MapP p w b)
    (hK : ∀ r w2, Dr w w2 → wpList Try.prog ops Q rest (a.put o.dst (.tuple #[.agg #[], .bool r])) w2) : wpList Try.prog ops Q (o :: rest) a w := by
  refine wpList_plain hg fun K' hK' => ?_
  obtain ⟨r, w2, hrun, hd⟩ := lookup_ok p w b key hp hk hM
  unfold Oper.wp
  simp [execOp, hop, hm, hx, hrun, Result.andThen]
  exact hK' _ _ (hK r w2 hd)
theorem wpList_upd (hg : o.guard = none) (m x v : Operand) (hop : o.op = Op.mapUpdate 114 m x v) (p : Value → Prop) (b : Nat) (key : Value)
    (hm : a.eval m = .map (some b)) (hx : a.eval x = key) (hv : a.eval v = .agg #[]) (hp : ∀ v, p v → KeyOk w v) (hk : p key) (hM : MapP p w b)
    (hK : ∀ w2, Turn b w w2 → MapP p w2 b → wpList Try.prog ops Q rest (a.put o.dst undef) w2) : wpList Try.prog ops Q (o :: rest) a w := by
  refine wpList_plain hg fun K' hK' => ?_
  obtain ⟨w2, hrun, ht, hm2⟩ := update_ok p w b key hp hk hM
  unfold Oper.wp
  simp [execOp, hop, hm, hx, hv, hrun, Result.andThen]
  exact hK' _ _ (hK w2 ht hm2)
end
end Nd
end Go.Proofs.Ytelladgeehlkpaa
namespace Go.Proofs.Ytelladgeehlkpaa
open Go.RowKit
namespace Nd
open _root_.Go.Proofs.Ytelladgeehlkpaa.Nm _root_.Go.Proofs.Ytelladgeehlkpaa.Jv
set_option maxRecDepth 100000 in
set_option maxHeartbeats 2000000 in
theorem equal_same (va vb : Value) (l : List ByteArray) (w : World) (ha : Ks w va l) (hb : Ks w vb l) :
    Calls Try.prog 58 #[va, vb] w fun e w' => e = .returned (.bool true) ∧ Dr w w' := by
  have hmk : l.length ≤ maxLen := by obtain ⟨_, _, q1, q2, q3, _⟩ := ha; omega
  unfold maxLen at hmk
  obtain ⟨ao, cap, rfl, hc, h⟩ := ha.form
  obtain ⟨ao', cap', rfl, hc', h'⟩ := hb.form
  have H := Lib.hid h
  have H' := Lib.hid h'
  clear h h' ha hb
  go_enter Try.func58, Try.ntmps58
  go_wp2_with fail
  go_loopw [13] (fun i wr => ∃ j : Nat, i = .int .i64 (j : Nat) ∧ j ≤ l.length ∧ Hid (Dr w wr)) (fun i _ => l.length - (intOf i).toNat)
  case atStart => exact ⟨0, rfl, by omega, Lib.hid (Dr.refl w)⟩
  case round =>
    obtain ⟨j, rfl, hj, HD⟩ := hrel
    by_cases hlt : j < l.length
    · obtain ⟨s1, hs1⟩ : ∃ y, l[j]? = some y := ⟨_, List.getElem?_eq_getElem hlt⟩
      obtain ⟨g1, o1, rfl, hg1, hk1⟩ := H.out (by omega)
      obtain ⟨g2, o2, rfl, hg2, hk2⟩ := H'.out (by omega)
      have hcell : ∀ p, wr.cell? p = w.cell? p := fun p => by obtain ⟨n, rfl⟩ := HD.out; rfl
      have c1 := (hcell ⟨g1, o1 + j, none⟩).trans (hk1 j s1 hs1)
      have c2 := (hcell ⟨g2, o2 + j, none⟩).trans (hk2 j s1 hs1)
      have i1 : (j : Int) < (l.length : Int) := by omega
      have he2 := str_same s1
      clear hk1 hk2 hs1 H H' hcell
      go_wp2_with fail
      go_quiet (fail)
      go_wp2_with fail
      go_roundw
      case rel => exact ⟨j + 1, by go_num, by omega, Lib.hid (HD.out.trans ⟨_, rfl⟩)⟩
      case measure => simp [intOf]; omega
    · go_wp2_with fail
      go_ret
      exact ⟨rfl, HD.out⟩
set_option maxRecDepth 100000 in
set_option maxHeartbeats 4000000 in
theorem agree_same (k p k' p' : Nat) (x y : Eight) (ks : List ByteArray) (w : World) (hx : At8 w k p x) (hy : At8 w k' p' y) (h1 : x.la = y.la) (h2 : x.de = y.de) (h3 : x.k = y.k) (h4 : x.c = y.c) (h5 : x.s = y.s) (h6 : x.st = y.st) (hk : Ks w x.kv ks) (hk' : Ks w y.kv ks) :
    Calls Try.prog 36 #[.pointer (some ⟨k, p, none⟩), .pointer (some ⟨k', p', none⟩)] w fun e w' => e = .returned (.bool true) ∧ Dr w w' := by
  obtain ⟨la, de, kk, c, s, st, iv, kv⟩ := x
  obtain ⟨la', de', kk', cc', s', st', iv', kv'⟩ := y
  simp only at h1 h2 h3 h4 h5 h6 hk hk'
  subst h1 h2 h3 h4 h5 h6
  have HE : Hid (∀ n, Calls Try.prog 58 #[kv, kv'] (w.drewN n) fun e w' => e = .returned (.bool true) ∧ ∃ m, w' = (w.drewN n).drewN m) := Lib.hid (fun n => equal_same kv kv' ks (w.drewN n) (hk.on (bN (Below.refl _ _) n)) (hk'.on (bN (Below.refl _ _) n)))
  have he := str_same st
  have hne := run_eqN c s c s
  obtain ⟨c0, c1, c2, c3, c4, c5, c6, c7⟩ := hx
  obtain ⟨a0, a1, a2, a3, a4, a5, a6, a7⟩ := hy
  simp only at c0 c1 c2 c3 c4 c5 c6 c7 a0 a1 a2 a3 a4 a5 a6 a7
  clear hk hk'
  go_enter Try.func36, Try.ntmps36
  go_wp2_with fail
  go_quiet ((go_at_call 58; exact Calls.quiet_of (HE.out _)))
  go_wp2_with fail
  go_ret
  exact ⟨rfl, ⟨_, rfl⟩⟩
set_option maxRecDepth 100000 in
theorem items_of (k p : Nat) (x : Eight) (ao : Option Addr) (n cap : Nat) (w : World) (hx : At8 w k p x) (hi : x.iv = .slice ao n cap) :
    Calls Try.prog 29 #[.pointer (some ⟨k, p, none⟩)] w fun e w' => e = .returned (.slice ao n cap) ∧ w = w' := by
  obtain ⟨la, de, kk, c, s, st, iv, kv⟩ := x
  simp only at hi
  subst hi
  obtain ⟨c0, c1, c2, c3, c4, c5, c6, c7⟩ := hx
  simp only at c0 c1 c2 c3 c4 c5 c6 c7
  go_enter Try.func29, Try.ntmps29
  go_wp2_with fail
  go_ret
  exact ⟨rfl, rfl⟩
set_option maxRecDepth 100000 in
theorem spot_of (k o n cap : Nat) (h0 : 0 < n) (_hm : n ≤ maxLen) (w : World) :
    Calls Try.prog 55 #[.slice (some ⟨k, o, none⟩) n cap] w fun e w' => e = .returned (.agg #[.pointer (some ⟨k, o, none⟩), .int .i64 (n : Nat)]) ∧ Below w.heap.size w w' := by
  unfold maxLen at _hm
  have hz : ((n : Int) == 0) = false := by rw [beq_eq_false_iff_ne]; omega
  go_enter Try.func55, Try.ntmps55
  go_wp2_with fail
  simp [bodyPost, results, Try.results55, go_sem]
  exact bA1 _ _
end Nd
end Go.Proofs.Ytelladgeehlkpaa
