/- within.Same of two rows of nodes alike: true, whatever the tape says of addresses. -/
import Derived.Test.YtelladgeehlkpaaPp
import Derived.Test.YtelladgeehlkpaaPi
import Derived.Deep.RegionHeld3
import Derived.Deep.DeepCutAuto
import Derived.Maps.AppendAt
import Derived.Test.YtelladgeehlkpaaPj
namespace Go.Proofs.Ytelladgeehlkpaa
open Go.RowKit
namespace Nd
open _root_.Go.Proofs.Ytelladgeehlkpaa.Nm _root_.Go.Proofs.Ytelladgeehlkpaa.Jv
/-- the least number that has a property -/
noncomputable def lst (p : Nat → Prop) : Nat := @Classical.epsilon Nat ⟨0⟩ fun m => p m ∧ ∀ k, p k → m ≤ k
theorem least_ex {p : Nat → Prop} : ∀ (n m : Nat), m ≤ n → p m → ∃ m, p m ∧ ∀ k, p k → m ≤ k
  | 0, m, hm, h => ⟨m, h, fun k _ => by omega⟩
  | n + 1, m, hm, h => by
    by_cases hk : ∃ k, k < m ∧ p k
    · obtain ⟨k, h1, h2⟩ := hk
      exact least_ex n k (by omega) h2
    · exact ⟨m, h, fun k hp => Nat.le_of_not_lt fun h' => hk ⟨k, h', hp⟩⟩
theorem lst_spec {p : Nat → Prop} (h : ∃ m, p m) : p (lst p) ∧ ∀ k, p k → lst p ≤ k := by
  obtain ⟨m, hm⟩ := h
  exact Classical.epsilon_spec (least_ex m m (Nat.le_refl _) hm)
theorem lst_lt {p q : Nat → Prop} {m k : Nat} (hm : m = lst p) (hq : q k) (hk : k < m) : lst q < lst p := by
  have := (lst_spec ⟨k, hq⟩).2 k hq
  omega
/-- a list of nodes in memory reads as a list of data -/
def NTs (w : World) (f : Nat) (l : List Eight) (ts : List NV) : Prop := l.length = ts.length ∧ ∀ (j : Nat) (y : Eight) (z : NV), l[j]? = some y → ts[j]? = some z → NT w f y z
theorem NTs.on {a b : World} {f : Nat} {l : List Eight} {ts : List NV} (h : NTs a f l ts) (hb : Below a.heap.size a b) : NTs b f l ts := ⟨h.1, fun j y z hy hz => NT.on hb f (h.2 j y z hy hz)⟩
/-- a slice of nodes reads as data -/
def Nl (w : World) (v : Value) (ts : List NV) : Prop := ∃ l f, Ns w v l ∧ NTs w f l ts
theorem Nl.on {a b : World} {v : Value} {ts : List NV} (h : Nl a v ts) (hb : Below a.heap.size a b) : Nl b v ts := by
  obtain ⟨l, f, h1, h2⟩ := h
  exact ⟨l, f, h1.on hb, h2.on hb⟩
/-- two slices, and what both read as -/
abbrev Pr2 := (Value × Value) × List NV
def PrOk (w : World) (q : Pr2) : Prop := Nl w q.1.1 q.2 ∧ Nl w q.1.2 q.2
theorem PrOk.on {a b : World} {q : Pr2} (h : PrOk a q) (hb : Below a.heap.size a b) : PrOk b q := ⟨h.1.on hb, h.2.on hb⟩
def prC (q : Pr2) : List Value := [q.1.1, q.1.2]
/-- a row of pairs of the call's own -/
structure RowP (B : Nat) (w0 w : World) (v : Value) (ps : List Pr2) : Prop where
  own : w.ownsRow B 116 2 v ps.length (ps.flatMap prC)
  ok : ∀ q ∈ ps, PrOk w0 q
/-- how much is left to do -/
def wgt : List Pr2 → Nat
  | [] => 0
  | q :: ps => 1 + cntL q.2 + wgt ps
theorem wgt_snoc (ps : List Pr2) (q : Pr2) : wgt (ps ++ [q]) = wgt ps + (1 + cntL q.2) := by
  induction ps with
  | nil => simp [wgt]
  | cons p ps ih => simp [wgt, ih]; omega
theorem cells_of_cell {w : World} {k o : Nat} {v : Value} (h : w.cell? ⟨k, o, none⟩ = some v) : ∃ cs t fr, w.heap[k]? = some (.cells cs t fr) := by
  unfold World.cell? at h
  cases hk : w.heap[k]? with
  | none => simp [hk] at h
  | some ob =>
    cases ob <;> simp [hk] at h
    exact ⟨_, _, _, rfl⟩
theorem Pt.on {a b : World} {k o : Nat} (h : Pt a k o) (hk : k < a.heap.size) (hb : Below a.heap.size a b) : Pt b k o := by
  obtain ⟨cs, t, fr, h1, h2⟩ := h
  exact ⟨cs, t, fr, (hb.block k hk).trans h1, (hb.frozen (p := ⟨k, o, none⟩) hk).trans h2⟩
/-- a key of two places that stood there at the call -/
def KeyB (w0 : World) (v : Value) : Prop := ∃ (k o k' o' : Nat) (m n : Int), v = .agg #[.pointer (some ⟨k, o, none⟩), .int .i64 m, .pointer (some ⟨k', o', none⟩), .int .i64 n] ∧ k < w0.heap.size ∧ k' < w0.heap.size ∧ Pt w0 k o ∧ Pt w0 k' o'
theorem KeyB.ok {w0 w : World} (hb : Below w0.heap.size w0 w) : ∀ v, KeyB w0 v → KeyOk w v := by
  rintro v ⟨k, o, k', o', m, n, h1, h2, h3, h4, h5⟩
  exact ⟨k, o, k', o', m, n, h1, h4.on h2 hb, h5.on h3 hb⟩
theorem MapP.on {p : Value → Prop} {a b : World} {m : Nat} (h : MapP p a m) (hb : a.heap[m]? = b.heap[m]?) : MapP p b m := by
  obtain ⟨es, c, h1, h2⟩ := h
  exact ⟨es, c, by rw [← hb]; exact h1, h2⟩
theorem MapP.lt {p : Value → Prop} {a : World} {m : Nat} (h : MapP p a m) : m < a.heap.size := by
  obtain ⟨es, c, h1, h2⟩ := h
  exact (Array.getElem?_eq_some_iff.1 h1).1
theorem RowP.on {B : Nat} {w0 a b : World} {v : Value} {ps : List Pr2} (h : RowP B w0 a v ps) (hb : Below a.heap.size a b) : RowP B w0 b v ps := by
  obtain ⟨⟨h0, h1⟩, h2⟩ := h
  refine ⟨⟨h0, ?_⟩, h2⟩
  rcases h1 with h1 | ⟨g, cap, cur, h1, h2, h3, h4⟩
  · exact Or.inl h1
  · exact Or.inr ⟨g, cap, cur, h1, h2, (hb.block g (Array.getElem?_eq_some_iff.1 h3).1).trans h3, h4⟩
theorem flat_len (ps : List Pr2) : (ps.flatMap prC).length = ps.length * 2 := by
  induction ps with
  | nil => rfl
  | cons p ps ih => simp [prC, ih]; omega
theorem RowP.form {B : Nat} {w0 a : World} {v : Value} {ps : List Pr2} (h : RowP B w0 a v ps) : ∃ ao cap, v = .slice ao ps.length cap ∧ ps.length ≤ cap ∧ cap ≤ maxLen := by
  rcases h.own.2 with ⟨h1, h2⟩ | ⟨g, cap, cur, h1, h2, h3, h4, h5, _⟩
  · exact ⟨none, 0, by rw [h1, h2], by omega, by decide⟩
  · exact ⟨_, cap, h1, h4, h5⟩
/-- the last pair of a row, and the row without it -/
theorem RowP.last {B : Nat} {w0 a : World} {v : Value} {ps : List Pr2} {q : Pr2} (h : RowP B w0 a v (ps ++ [q])) : ∃ g cap, v = .slice (some ⟨g, 0, none⟩) (ps.length + 1) cap ∧ B ≤ g ∧ g < a.heap.size ∧ ps.length + 1 ≤ cap ∧ cap ≤ maxLen ∧
    a.cell? ⟨g, ps.length * 2, none⟩ = some q.1.1 ∧ a.cell? ⟨g, ps.length * 2 + 1, none⟩ = some q.1.2 ∧ RowP B w0 a (.slice (some ⟨g, 0, none⟩) ps.length cap) ps ∧ PrOk w0 q := by
  obtain ⟨⟨h0, h1⟩, h2⟩ := h
  rcases h1 with ⟨h1, h3⟩ | ⟨g, cap, cur, h1, hB, h3, h4, h5, h6, h7⟩
  · simp at h3
  · have hl : ps.length + 1 ≤ cap := by simpa using h4
    refine ⟨g, cap, by simpa using h1, hB, (Array.getElem?_eq_some_iff.1 h3).1, hl, h5, ?_, ?_, ⟨⟨flat_len ps, .inr ⟨g, cap, cur, rfl, hB, h3, by omega, h5, h6, ?_⟩⟩, fun p hp => h2 p (by simp [hp])⟩, h2 q (by simp)⟩
    · have := congrArg (fun l => l[ps.length * 2]?) h7
      simp only [List.length_append, List.length_singleton, List.flatMap_append, List.flatMap_singleton] at this
      rw [List.getElem?_take, if_pos (by omega), List.getElem?_append_right (by rw [flat_len]; omega), flat_len, Nat.sub_self] at this
      rw [cell_of_row a g (ps.length * 2) cur _ _ h3, ← Array.getElem?_toList, this]
      rfl
    · have := congrArg (fun l => l[ps.length * 2 + 1]?) h7
      simp only [List.length_append, List.length_singleton, List.flatMap_append, List.flatMap_singleton] at this
      rw [List.getElem?_take, if_pos (by omega), List.getElem?_append_right (by rw [flat_len]; omega), flat_len, Nat.add_sub_cancel_left] at this
      rw [cell_of_row a g (ps.length * 2 + 1) cur _ _ h3, ← Array.getElem?_toList, this]
      rfl
    · have := congrArg (fun l => l.take (ps.length * 2)) h7
      simp only [List.length_append, List.length_singleton, List.flatMap_append, List.flatMap_singleton] at this
      rw [List.take_take, Nat.min_eq_left (by omega), List.take_append_of_le_length (by rw [flat_len]; omega), List.take_of_length_le (l := ps.flatMap prC) (by rw [flat_len]; omega)] at this
      exact this
/-- the state of the walk: the row, the map, how much is left -/
def SmR (B : Nat) (w0 : World) (mb : Nat) (m : Nat) (v : Value) (w : World) : Prop := ∃ ps, wgt ps = m ∧ m ≤ 100001 ∧ RowP B w0 w v ps ∧ MapP (KeyB w0) w mb ∧ Below B w0 w
theorem SmR.next {B : Nat} {w0 a b : World} {mb : Nat} {v : Value} {ps : List Pr2} (h : RowP B w0 a v ps) (hm : MapP (KeyB w0) a mb) (h0 : Below B w0 a) (hB : B ≤ a.heap.size) (hb : Below a.heap.size a b) (hw : wgt ps ≤ 100001) : SmR B w0 mb (wgt ps) v b :=
  ⟨ps, rfl, hw, h.on hb, hm.on (hb.block mb hm.lt).symm, h0.trans (hb.mono hB)⟩
theorem SmR.lt {B : Nat} {w0 a b : World} {mb : Nat} {u v : Value} {m k : Nat} (hm : m = lst fun m => SmR B w0 mb m u a) (hq : SmR B w0 mb k v b) (hk : k < m) : (lst fun m => SmR B w0 mb m v b) < lst fun m => SmR B w0 mb m u a :=
  lst_lt (p := fun m => SmR B w0 mb m u a) (q := fun m => SmR B w0 mb m v b) hm hq hk
/-- a block of cells of a type -/
def Cb (w : World) (k : Nat) (t : TypeId) (cs : Array Value) : Prop := w.heap[k]? = some (.cells cs t (0, 0))
section
variable {w a b : World} {k : Nat} {t : TypeId} {cs : Array Value}
theorem Cb.lt (h : Cb w k t cs) : k < w.heap.size := (Array.getElem?_eq_some_iff.1 h).1
theorem Cb.new (w : World) (t : TypeId) (cs : Array Value) : Cb (w.alloc (.cells cs t)) w.heap.size t cs := heap_alloc_new w _
theorem Cb.on (h : Cb a k t cs) (hb : Below a.heap.size a b) : Cb b k t cs := (hb.block k h.lt).trans h
theorem Cb.set (h : Cb a k t cs) (i : Nat) (u : Value) : Cb (a.setCell ⟨k, i, none⟩ u) k t (cs.setIfInBounds i u) := by
  unfold Cb at h ⊢
  simp [World.setCell, Array.getElem?_modify, h]
theorem Cb.cell (h : Cb w k t cs) (i : Nat) : w.cell? ⟨k, i, none⟩ = cs[i]? := cell_of_row w k i cs _ _ h
theorem Cb.free (h : Cb w k t cs) (i : Nat) : w.frozen? ⟨k, i, none⟩ = false := by
  unfold Cb at h
  simp [World.frozen?, h]
theorem Cb.four {x0 x1 x2 x3 : Value} (h : Cb w k t #[x0, x1, x2, x3]) : w.cell? ⟨k, 0, none⟩ = some x0 ∧ w.cell? ⟨k, 1, none⟩ = some x1 ∧ w.cell? ⟨k, 2, none⟩ = some x2 ∧ w.cell? ⟨k, 3, none⟩ = some x3 ∧ w.frozen? ⟨k, 0, none⟩ = false ∧ w.frozen? ⟨k, 1, none⟩ = false ∧ w.frozen? ⟨k, 2, none⟩ = false ∧ w.frozen? ⟨k, 3, none⟩ = false :=
  ⟨h.cell 0, h.cell 1, h.cell 2, h.cell 3, h.free 0, h.free 1, h.free 2, h.free 3⟩
end
theorem wgt_len (ps : List Pr2) : ps.length ≤ wgt ps := by
  induction ps with
  | nil => simp [wgt]
  | cons p ps ih => simp [wgt]; omega
theorem cntL_take (l : List NV) (j : Nat) : cntL (l.take j) ≤ cntL l := by
  induction l generalizing j with
  | nil => simp
  | cons x l ih =>
    cases j with
    | zero => simp [cntL]
    | succ j => simp only [List.take_succ_cons, cntL]; have := ih j; omega
theorem Turn.cell {b : Nat} {w w' : World} (h : Turn b w w') {k : Nat} (hk : k ≠ b) (o : Nat) : w'.cell? ⟨k, o, none⟩ = w.cell? ⟨k, o, none⟩ := World.cell?_of_block (h.block k hk)
theorem RowP.turn {B mb : Nat} {w0 a b : World} {v : Value} {ps : List Pr2} (h : RowP B w0 a v ps) (ht : Turn mb a b) {p : Value → Prop} (hm : MapP p a mb) : RowP B w0 b v ps := by
  obtain ⟨⟨h0, h1⟩, h2⟩ := h
  refine ⟨⟨h0, ?_⟩, h2⟩
  rcases h1 with h1 | ⟨g, cap, cur, h1, hB, h3, h4⟩
  · exact Or.inl h1
  · refine Or.inr ⟨g, cap, cur, h1, hB, (ht.block g ?_).trans h3, h4⟩
    rintro rfl
    obtain ⟨es, c, hm, _⟩ := hm
    rw [hm] at h3
    cases h3
theorem infoP : (Try.prog.info? 116).map (fun i => (i.zero, i.size, i.bytes)) = some (some (.agg #[.slice none 0 0, .slice none 0 0]), 2, 48) := by kernel_rfl
/-- a pair is put behind a row of pairs of the call's own -/
theorem wpList_push {ops : Array Oper} {rest : List Oper} {o : Oper} {a : Act} {W w0 : World} {Q : Exit → Act → World → Prop} (hgd : o.guard = none) (s x : Operand)
    (hop : o.op = Op.call { callee := Callee.builtin Builtin.append, args := #[s, x], argTypes := #[117, 117] }) (B pb mb : Nat) (v : Value) (ps : List Pr2) (ad1 ad2 : Option Addr) (i1 c1 i2 c2 : Nat) (tq : List NV)
    (hs : a.eval s = v) (hx : a.eval x = .slice (some ⟨W.heap.size, 0, none⟩) 1 1) (h : RowP B w0 W v ps) (hq : PrOk w0 ((.slice ad1 i1 c1, .slice ad2 i2 c2), tq)) (hn : ps.length < 200000) (hB : B ≤ W.heap.size) (hne : v.ownBlock ≠ some pb) (hpb : pb < W.heap.size) (p : Value → Prop) (hm : MapP p W mb)
    (hK : ∀ v' w', RowP B w0 w' v' (ps ++ [((.slice ad1 i1 c1, .slice ad2 i2 c2), tq)]) → Below B W w' → w'.heap[pb]? = W.heap[pb]? → MapP p w' mb → v'.ownBlock ≠ some pb → wpList Try.prog ops Q rest (a.put o.dst v') w') :
    wpList Try.prog ops Q (o :: rest) a (W.alloc (.cells #[.slice ad1 i1 c1, .slice ad2 i2 c2] 116)) := by
  obtain ⟨i0, hi, hz0, hz1, hz2⟩ := info_parts infoP
  have hmlt := hm.lt
  have hmb : v.ownBlock ≠ some mb := by
    intro e
    rcases h.own.2 with ⟨rfl, _⟩ | ⟨g, cap', cur, rfl, hb, h3, _⟩
    · cases e
    · obtain rfl := Option.some.inj e
      obtain ⟨es, c, hm, _⟩ := hm
      rw [hm] at h3
      cases h3
  have hA : Below W.heap.size W (W.alloc (.cells #[.slice ad1 i1 c1, .slice ad2 i2 c2] 116)) := bA1 _ _
  have hN := Cb.new W 116 #[.slice ad1 i1 c1, .slice ad2 i2 c2]
  refine wpList_append_own_at _ hgd s x 117 hop B 116 i0 _ 2 48 Try.underlying117 hi hz0 hz1 hz2 rfl (by decide) v ps.length _ hs (h.on hA).own ⟨W.heap.size, 0, none⟩ 1 1 [.slice ad1 i1 c1, .slice ad2 i2 c2] hx rfl ?_ ?_ ?_ ?_ ?_ ?_
  · intro j u hj
    match j, hj with
    | 0, hj => cases hj; exact hN.cell 0
    | 1, hj => cases hj; exact hN.cell 1
  · intro u hu
    simp only [List.mem_cons, List.not_mem_nil, or_false] at hu
    rcases hu with rfl | rfl <;> rfl
  · unfold maxLen; omega
  · omega
  · simp; omega
  · intro v' w' h1 h2 _ h4
    have e1 : ∀ k, k < W.heap.size → v.ownBlock ≠ some k → w'.heap[k]? = W.heap[k]? := fun k hk hne => (h2.block k (by simp; omega) (fun e => hne e.symm)).trans (hA.block k hk)
    refine hK v' w' ⟨?_, fun q hq' => ?_⟩ (Below.grown (hA.mono hB) h2 (by simp; omega) fun k hk => ((h.on hA).own.lt k hk).1) (e1 pb hpb hne) (hm.on (e1 mb hmlt hmb).symm) ?_
    · rw [List.length_append, List.flatMap_append]
      exact h1
    · rcases List.mem_append.1 hq' with h5 | h5
      · exact h.ok q h5
      · simp only [List.mem_singleton] at h5
        subst h5
        exact hq
    · rcases h4 with h4 | h4 <;> rw [h4]
      · exact hne
      · intro e
        have := Option.some.inj e
        simp at this
        omega
theorem b4 {w a : World} {k : Nat} (h : Below w.heap.size w a) (hk : w.heap.size ≤ k) (u0 u1 u2 u3 : Value) :
    Below w.heap.size w ((((a.setCell ⟨k, 0, none⟩ u0).setCell ⟨k, 1, none⟩ u1).setCell ⟨k, 2, none⟩ u2).setCell ⟨k, 3, none⟩ u3) :=
  (((h.setCell hk u0).setCell hk u1).setCell hk u2).setCell hk u3
set_option maxRecDepth 100000 in
set_option maxHeartbeats 4000000 in
theorem wsame_any (va vb : Value) (ts : List NV) (w : World) (ha : Nl w va ts) (hb : Nl w vb ts) (hn : cntL ts ≤ 100000) :
    Calls Try.prog 35 #[va, vb, .func (.func 29) #[] #[], .func (.func 36) #[] #[]] w fun e w' => e = .returned (.bool true) ∧ Below w.heap.size w w' := by
  have HQ : Hid (PrOk w ((va, vb), ts)) := Lib.hid ⟨ha, hb⟩
  obtain ⟨l, f, hl, hlt⟩ := ha
  obtain ⟨l', f', hl', hlt'⟩ := hb
  obtain ⟨ao, cap, rfl, hc, h⟩ := hl.form
  obtain ⟨ao', cap', rfl, hc', h'⟩ := hl'.form
  clear hl hl' hlt hlt' h h' hc hc'
  have hmk : ∀ w, (Instr.makeMap 114 none).run Try.prog w = .ok (.map (some w.heap.size)) (w.alloc (.map #[] 0)) := fun w => rfl
  go_enter Try.func35, Try.ntmps35
  go_wp2_with fail
  clear hmk
  have HST : Hid (∃ m, SmR w.heap.size w w.heap.size m (.slice (some ⟨w.heap.size + 1, 0, none⟩) 1 1) ((w.alloc (.map #[] 0)).alloc (.cells #[.slice ao l.length cap, .slice ao' l'.length cap'] 116))) := Lib.hid (by
    refine ⟨_, [((.slice ao l.length cap, .slice ao' l'.length cap'), ts)], rfl, by simp [wgt]; omega, ⟨⟨rfl, .inr ⟨w.heap.size + 1, 1, #[.slice ao l.length cap, .slice ao' l'.length cap'], rfl, by omega, ?_, Nat.le_refl _, by decide, rfl, rfl⟩⟩, fun q hq => ?_⟩, ⟨#[], 0, ?_, fun i e h => by simp at h⟩, (bA1 _ _).alloc (by simp) _⟩
    · have := heap_alloc_new (w.alloc (.map #[] 0)) (.cells #[.slice ao l.length cap, .slice ao' l'.length cap'] 116)
      simpa using this
    · simp only [List.mem_singleton] at hq
      subst hq
      exact HQ.out
    · have h1 := heap_alloc_new w (.map #[] 0)
      exact ((bA1 (w.alloc (.map #[] 0)) _).block _ (by simp)).trans h1)
  clear HQ
  go_loopw [10] (fun rv wr => ∃ m, SmR w.heap.size w w.heap.size m rv wr) (fun rv wr => lst fun m => SmR w.heap.size w w.heap.size m rv wr)
  case atStart => exact HST.out
  case round =>
    clear HST
    obtain ⟨wo, rfl⟩ : ∃ wo : World, wo = wr := ⟨_, rfl⟩
    obtain ⟨m0, hm0⟩ : ∃ m0, m0 = lst fun m => SmR w.heap.size w w.heap.size m u10 wo := ⟨_, rfl⟩
    have hS := (lst_spec hrel).1
    rw [← hm0] at hS
    have HM0 := Lib.hid hm0
    clear hm0 hrel
    obtain ⟨ps, hw, hm0, hrow, hmap, hbel⟩ := hS
    rcases List.eq_nil_or_concat ps with rfl | ⟨ps, q, rfl⟩
    · obtain ⟨ao1, cap1, rfl, _, _⟩ := hrow.form
      clear hrow hmap HM0
      go_wp2_with fail
      go_ret
      exact ⟨rfl, hbel⟩
    rw [List.concat_eq_append] at hrow hw
    obtain ⟨⟨qa, qb⟩, tq⟩ := q
    obtain ⟨g, cap1, rfl, hBg, hgl, hl1, hl2, c0, c1, hrow', hq⟩ := hrow.last
    rw [wgt_snoc] at hw
    simp only at c0 c1 hw
    obtain ⟨⟨l1, f1, n1, t1⟩, l2, f2, n2, t2⟩ := hq
    simp only at n1 t1 n2 t2
    obtain ⟨a1, k1, rfl, hk1, h1⟩ := n1.form
    obtain ⟨a2, k2, rfl, hk2, h2⟩ := n2.form
    have HROW := Lib.hid hrow'
    have HMAP := Lib.hid hmap
    have HBEL := Lib.hid hbel
    have hmlt := hmap.lt
    have HW := Lib.hid hw
    have hmx1 : l1.length ≤ maxLen := by obtain ⟨_, _, q1, q2, q3, _⟩ := n1; omega
    have hmx2 : l2.length ≤ maxLen := by obtain ⟨_, _, q1, q2, q3, _⟩ := n2; omega
    unfold maxLen at hmx1 hmx2 hl2
    have HN1 := Lib.hid n1
    have HN2 := Lib.hid n2
    have HT1 := Lib.hid t1
    have HT2 := Lib.hid t2
    have H1 := Lib.hid h1
    have H2 := Lib.hid h2
    have e12 : l1.length ≤ l2.length := by have := t1.1; have := t2.1; omega
    have e21 : l2.length ≤ l1.length := by have := t1.1; have := t2.1; omega
    have qe1 : ((l1.length : Int) == (l2.length : Int)) = true := by simp; omega
    have qe2 : ((l1.length : Int) != (l2.length : Int)) = false := by simp; omega
    clear hrow hrow' hmap hbel n1 n2 t1 t2 h1 h2 hw
    generalize ps.length = np at *
    by_cases hz : l1.length = 0
    · have qz : ((l1.length : Int) == 0) = true := by rw [hz]; rfl
      have HN := SmR.next HROW.out HMAP.out HBEL.out HBEL.out.size (bA1 wo (Obj.cells #[.slice a1 l1.length k1, .slice a2 l2.length k2] 116)) (by have := HW.out; have := hm0; omega)
      have HM := SmR.lt HM0.out HN (by have := HW.out; omega)
      clear hz
      go_wp2_with fail
      go_roundw
      case rel => exact ⟨_, HN⟩
      case measure => exact HM
    have qz : ((l1.length : Int) == 0) = false := by rw [beq_eq_false_iff_ne]; omega
    obtain ⟨g1, o1, rfl, hg1, hf1, hr1⟩ := H1.out (by omega)
    obtain ⟨g2, o2, rfl, hg2, hf2, hr2⟩ := H2.out (by omega)
    have HKEY : Hid (KeyB w (.agg #[.pointer (some ⟨g1, o1, none⟩), .int .i64 (l1.length : Nat), .pointer (some ⟨g2, o2, none⟩), .int .i64 (l2.length : Nat)])) := Lib.hid (by
      obtain ⟨y1, hy1⟩ : ∃ y, l1[0]? = some y := ⟨_, List.getElem?_eq_getElem (by omega)⟩
      obtain ⟨y2, hy2⟩ : ∃ y, l2[0]? = some y := ⟨_, List.getElem?_eq_getElem (by omega)⟩
      obtain ⟨cs1, t1, fr1, q1⟩ := cells_of_cell (hr1 0 y1 hy1).1
      obtain ⟨cs2, t2, fr2, q2⟩ := cells_of_cell (hr2 0 y2 hy2).1
      exact ⟨g1, o1, g2, o2, _, _, rfl, hg1, hg2, ⟨cs1, t1, fr1, q1, hf1⟩, ⟨cs2, t2, fr2, q2, hf2⟩⟩)
    have HR1 := Lib.hid hr1
    have HR2 := Lib.hid hr2
    clear hr1 hr2 hf1 hf2 H1 H2
    go_upto_region 9 with fail
    clear c0 c1
    obtain ⟨wp, hwp⟩ : ∃ wp, wo.alloc (Obj.cells #[.slice (some ⟨g1, o1, none⟩) l1.length k1, .slice (some ⟨g2, o2, none⟩) l2.length k2] 116) = wp := ⟨_, rfl⟩
    have hPB : Cb wp wo.heap.size 116 #[.slice (some ⟨g1, o1, none⟩) l1.length k1, .slice (some ⟨g2, o2, none⟩) l2.length k2] := by rw [← hwp]; exact Cb.new _ _ _
    have hB1 : Below wo.heap.size wo wp := by rw [← hwp]; exact bA1 _ _
    have hsz : wo.heap.size < wp.heap.size := hPB.lt
    rw [hwp]
    clear hwp
    have P0 : ∀ wx, Below wp.heap.size wp wx → wx.cell? ⟨wo.heap.size, 0, none⟩ = some (.slice (some ⟨g1, o1, none⟩) l1.length k1) := fun wx h => (h.cell (p := ⟨wo.heap.size, 0, none⟩) hsz).trans (hPB.cell 0)
    have P1 : ∀ wx, Below wp.heap.size wp wx → wx.cell? ⟨wo.heap.size, 0 + 1, none⟩ = some (.slice (some ⟨g2, o2, none⟩) l2.length k2) := fun wx h => (h.cell (p := ⟨wo.heap.size, 1, none⟩) hsz).trans (hPB.cell 1)
    have HPB := Lib.hid hPB
    have HB1 := Lib.hid hB1
    clear hPB hB1
    go_cut [12] (fun s wx => ∃ ab, s = .pointer (some ⟨ab, 0, none⟩) ∧ Hid (Cb wx ab 118 #[.pointer (some ⟨g1, o1, none⟩), .int .i64 (l1.length : Nat), .pointer (some ⟨g2, o2, none⟩), .int .i64 (l2.length : Nat)]) ∧ Hid (Below wp.heap.size wp wx) ∧ wp.heap.size ≤ ab)
    case first =>
      refine wp_region_held_drew (S := fun wx => Below wp.heap.size wp wx) (by kernel_rfl) (Below.refl _ _).drew (fun hHeld => ?_)
      refine take_put (i := 0) (d := 49) (oi := _) (v := ?va0) rfl rfl (by kernel_rfl) (by kernel_rfl) (by kernel_rfl) (fun _ _ _ h => h) (Or.inl ⟨by rfl, ?ya0⟩) hHeld ?ra0
      case ya0 => (intro w hSw; (try dsimp only at hSw); go_simp; try with_reducible rfl)
      simp only [Act.put, List.setIfInBounds_toArray, List.set_cons_zero, List.set_cons_succ]
      refine take_put (i := 1) (d := 50) (oi := _) (v := ?va1) rfl rfl (by kernel_rfl) (by kernel_rfl) (by kernel_rfl) (fun _ _ _ h => h) (Or.inl ⟨by rfl, ?ya1⟩) hHeld ?ra1
      case ya1 => (intro w hSw; (try dsimp only at hSw); go_simp; try with_reducible rfl)
      simp only [Act.put, List.setIfInBounds_toArray, List.set_cons_zero, List.set_cons_succ]
      refine take_put (i := 3) (d := 52) (oi := _) (v := ?va3) rfl rfl (by kernel_rfl) (by kernel_rfl) (by kernel_rfl) (fun _ _ _ h => h) (Or.inl ⟨by rfl, ?ya3⟩) hHeld ?ra3
      case ya3 => (intro w hSw; (try dsimp only at hSw); go_simp; try with_reducible rfl)
      simp only [Act.put, List.setIfInBounds_toArray, List.set_cons_zero, List.set_cons_succ]
      refine take_put (i := 4) (d := 53) (oi := _) (v := ?va4) rfl rfl (by kernel_rfl) (by kernel_rfl) (by kernel_rfl) (fun _ _ _ h => h) (Or.inl ⟨by rfl, ?ya4⟩) hHeld ?ra4
      case ya4 => (intro w hSw; (try dsimp only at hSw); go_simp; try with_reducible rfl)
      simp only [Act.put, List.setIfInBounds_toArray, List.set_cons_zero, List.set_cons_succ]
      refine wpAnyH_ready (rs := [2, 7]) (by kernel_rfl) (by simp) (AllReadyH.cons (o := _) rfl (fun K hK => ?_) (AllReadyH.cons (o := _) rfl (fun K hK => ?_) AllReadyH.nil))
      · go_simp
        refine (spot_of g1 o1 l1.length k1 (by omega) (by unfold maxLen; omega) _).mono ?_
        rintro e w6 ⟨rfl, bk1⟩
        (try dsimp only)
        refine hK.out _ _ (bT hHeld bk1) (fun hHeld => ?_)
        clear hK K
        refine wpAnyH_ready (rs := [5, 7]) (by kernel_rfl) (by simp) (AllReadyH.cons (o := _) rfl (fun K hK => ?_) (AllReadyH.cons (o := _) rfl (fun K hK => ?_) AllReadyH.nil))
        · go_simp
          refine (spot_of g2 o2 l2.length k2 (by omega) (by unfold maxLen; omega) _).mono ?_
          rintro e w7 ⟨rfl, bk2⟩
          (try dsimp only)
          refine hK.out _ _ (bT hHeld bk2) (fun hHeld => ?_)
          clear hK K
          refine take_put (i := 6) (d := 55) (oi := _) (v := ?vp6) rfl rfl (by kernel_rfl) (by kernel_rfl) (by kernel_rfl) (fun _ _ _ h => h) (Or.inl ⟨by rfl, ?yp6⟩) hHeld ?rp6
          case yp6 => (intro w hSw; (try dsimp only at hSw); go_simp; try with_reducible rfl)
          simp only [Act.put, List.setIfInBounds_toArray, List.set_cons_zero, List.set_cons_succ]
          refine wpAnyH_ready (rs := [7]) (by kernel_rfl) (by simp) (AllReadyH.cons (o := _) rfl (fun K hK => ?_) AllReadyH.nil)
          go_simp
          have hH7 := hHeld
          (try dsimp only)
          refine hK.out _ _ (bT hHeld (bA1 _ _)) (fun hHeld => ?_)
          clear hK K
          refine wpAnyH_ready (rs := [8]) (by kernel_rfl) (by simp) (AllReadyH.cons (o := _) rfl (fun K hK => ?_) AllReadyH.nil)
          go_simp
          (try dsimp only)
          refine hK.out _ _ (bT hH7 (bA1 _ _)) (fun hHeld => ?_)
          clear hK K
          refine wpAnyH_done (by kernel_rfl) ?_ _
          clear hHeld
          go_wp2_with fail
          go_meet
          exact ⟨_, rfl, Lib.hid (Cb.new _ _ _), Lib.hid (bT hH7 (bA1 _ _)), hH7.size⟩
        · go_simp
          have hC := Cb.new w6 118 #[.pointer none, .int .i64 0, .pointer none, .int .i64 0]
          have hz6 : wp.heap.size ≤ w6.heap.size := hHeld.size
          (try dsimp only)
          refine hK.out _ _ (bT hHeld (bA1 _ _)) (fun hHeld => ?_)
          clear hK K
          refine wpAnyH_ready (rs := [5]) (by kernel_rfl) (by simp) (AllReadyH.cons (o := _) rfl (fun K hK => ?_) AllReadyH.nil)
          go_simp
          refine (spot_of g2 o2 l2.length k2 (by omega) (by unfold maxLen; omega) _).mono ?_
          rintro e w7 ⟨rfl, bk2⟩
          (try dsimp only)
          refine hK.out _ _ (bT hHeld bk2) (fun hHeld => ?_)
          clear hK K
          have hC7 := hC.on bk2
          obtain ⟨s0, s1, s2, s3, t0, t1, t2, t3⟩ := hC7.four
          refine take_put (i := 6) (d := 55) (oi := _) (v := ?vq6) rfl rfl (by kernel_rfl) (by kernel_rfl) (by kernel_rfl) (fun _ _ _ h => h) (Or.inl ⟨by rfl, ?yq6⟩) hHeld ?rq6
          case yq6 => (intro w hSw; (try dsimp only at hSw); go_simp; try with_reducible rfl)
          simp only [Act.put, List.setIfInBounds_toArray, List.set_cons_zero, List.set_cons_succ]
          refine wpAnyH_ready (rs := [8]) (by kernel_rfl) (by simp) (AllReadyH.cons (o := _) rfl (fun K hK => ?_) AllReadyH.nil)
          go_simp
          (try dsimp only)
          refine hK.out _ _ (b4 hHeld hz6 _ _ _ _) (fun hHeld => ?_)
          clear hK K
          refine wpAnyH_done (by kernel_rfl) ?_ _
          go_wp2_with fail; go_meet; exact ⟨_, rfl, Lib.hid ((((hC7.set 0 _).set 1 _).set 2 _).set 3 _), Lib.hid hHeld, hz6⟩
      · go_simp
        have hC : Cb (wp.drew.alloc (.cells #[.pointer none, .int .i64 0, .pointer none, .int .i64 0] 118)) wp.heap.size 118 #[.pointer none, .int .i64 0, .pointer none, .int .i64 0] := Cb.new wp.drew 118 #[.pointer none, .int .i64 0, .pointer none, .int .i64 0]
        have hz6 : wp.heap.size ≤ wp.heap.size := Nat.le_refl _
        (try dsimp only)
        refine hK.out _ _ (bT hHeld (bA1 _ _)) (fun hHeld => ?_)
        clear hK K
        refine wpAnyH_ready (rs := [2]) (by kernel_rfl) (by simp) (AllReadyH.cons (o := _) rfl (fun K hK => ?_) AllReadyH.nil)
        go_simp
        refine (spot_of g1 o1 l1.length k1 (by omega) (by unfold maxLen; omega) _).mono ?_
        rintro e w6 ⟨rfl, bk1⟩
        (try dsimp only)
        refine hK.out _ _ (bT hHeld bk1) (fun hHeld => ?_)
        clear hK K
        refine wpAnyH_ready (rs := [5]) (by kernel_rfl) (by simp) (AllReadyH.cons (o := _) rfl (fun K hK => ?_) AllReadyH.nil)
        go_simp
        refine (spot_of g2 o2 l2.length k2 (by omega) (by unfold maxLen; omega) _).mono ?_
        rintro e w7 ⟨rfl, bk2⟩
        (try dsimp only)
        refine hK.out _ _ (bT hHeld bk2) (fun hHeld => ?_)
        clear hK K
        have hC7 := (hC.on bk1).on bk2
        obtain ⟨s0, s1, s2, s3, t0, t1, t2, t3⟩ := hC7.four
        refine take_put (i := 6) (d := 55) (oi := _) (v := ?vr6) rfl rfl (by kernel_rfl) (by kernel_rfl) (by kernel_rfl) (fun _ _ _ h => h) (Or.inl ⟨by rfl, ?yr6⟩) hHeld ?rr6
        case yr6 => (intro w hSw; (try dsimp only at hSw); go_simp; try with_reducible rfl)
        simp only [Act.put, List.setIfInBounds_toArray, List.set_cons_zero, List.set_cons_succ]
        refine wpAnyH_ready (rs := [8]) (by kernel_rfl) (by simp) (AllReadyH.cons (o := _) rfl (fun K hK => ?_) AllReadyH.nil)
        go_simp
        (try dsimp only)
        refine hK.out _ _ (b4 hHeld hz6 _ _ _ _) (fun hHeld => ?_)
        clear hK K
        refine wpAnyH_done (by kernel_rfl) ?_ _
        go_wp2_with fail; go_meet; exact ⟨_, rfl, Lib.hid ((((hC7.set 0 _).set 1 _).set 2 _).set 3 _), Lib.hid hHeld, hz6⟩
    case rest =>
    obtain ⟨ab, rfl, HA, HB9, hab⟩ := hcut
    have hbel9 : Below w.heap.size w wc := bT HBEL.out (bT HB1.out HB9.out)
    have HMC : Hid (MapP (KeyB w) wc w.heap.size) := Lib.hid (HMAP.out.on ((bT HB1.out HB9.out).block _ hmlt).symm)
    obtain ⟨q0, q1, q2, q3, _, _, _, _⟩ := HA.out.four
    have p0 := P0 wc HB9.out
    have p1 := P1 wc HB9.out
    rw [Nat.zero_add] at p1
    have HBL := Lib.hid hbel9
    clear hbel9 P0 P1
    go_upto_region 11 with (at_lookup; refine wpList_look rfl _ _ rfl (KeyB w) w.heap.size (.agg #[.pointer (some ⟨g1, o1, none⟩), .int .i64 (l1.length : Nat), .pointer (some ⟨g2, o2, none⟩), .int .i64 (l2.length : Nat)]) rfl rfl (KeyB.ok HBL.out) HKEY.out HMC.out ?_; rintro r w3 ⟨n3, rfl⟩)
    obtain ⟨wd, hwd⟩ : ∃ wd, (wc.drewN n3).alloc (Obj.cells #[] 101) = wd := ⟨_, rfl⟩
    have hBD : Below wc.heap.size wc wd := by rw [← hwd]; exact bT (bN (Below.refl _ _) n3) (bA1 _ _)
    rw [hwd]
    clear hwd
    have hBR : Below wo.heap.size wo wd := bT HB1.out (bT HB9.out hBD)
    cases r with
    | true =>
      have HN := SmR.next HROW.out HMAP.out HBEL.out HBEL.out.size hBR (by have := HW.out; have := hm0; omega)
      have HM := SmR.lt HM0.out HN (by have := HW.out; omega)
      go_wp2_with fail
      go_roundw
      case rel => exact ⟨_, HN⟩
      case measure => exact HM
    | false =>
      have HAd := HA.out.on hBD
      obtain ⟨q0, q1, q2, q3, _, _, _, _⟩ := HAd.four
      have HPd : Hid (Cb wd wo.heap.size 116 #[.slice (some ⟨g1, o1, none⟩) l1.length k1, .slice (some ⟨g2, o2, none⟩) l2.length k2]) := Lib.hid (HPB.out.on (bT HB9.out hBD))
      have HMd : Hid (MapP (KeyB w) wd w.heap.size) := Lib.hid (HMAP.out.on (hBR.block _ hmlt).symm)
      have HBd : Hid (Below w.heap.size w wd) := Lib.hid (bT HBEL.out hBR)
      have HRd := Lib.hid (HROW.out.on hBR)
      clear hBD hBR HAd HMC HBL HPB HB1 HB9 HROW HMAP HBEL
      go_upto_region 13 with (at_mapUpdate; refine wpList_upd rfl _ _ _ rfl (KeyB w) w.heap.size (.agg #[.pointer (some ⟨g1, o1, none⟩), .int .i64 (l1.length : Nat), .pointer (some ⟨g2, o2, none⟩), .int .i64 (l2.length : Nat)]) rfl rfl rfl (KeyB.ok HBd.out) HKEY.out HMd.out ?_; intro w4 ht4 hm4)
      have HP4 : Hid (Cb w4 wo.heap.size 116 #[.slice (some ⟨g1, o1, none⟩) l1.length k1, .slice (some ⟨g2, o2, none⟩) l2.length k2]) := Lib.hid ((ht4.block _ (by omega)).trans HPd.out)
      have HB4 : Hid (Below w.heap.size w w4) := Lib.hid (ht4.below HBd.out (Nat.le_refl _))
      have HR4 := Lib.hid (HRd.out.turn ht4 HMd.out)
      have HM4 := Lib.hid hm4
      clear ht4 hm4 HPd HBd HRd HMd q0 q1 q2 q3 p0 p1
      have pA : w4.cell? ⟨wo.heap.size, 0, none⟩ = some (.slice (some ⟨g1, o1, none⟩) l1.length k1) := HP4.out.cell 0
      go_wp2_with fail
      clear pA
      have HGB : Hid ((Value.slice (some ⟨g, 0, none⟩) np cap1).ownBlock ≠ some wo.heap.size) := Lib.hid (fun e => by have := Option.some.inj e; simp at this; omega)
      go_loopw [10, 69] (fun rv iv wl => ∃ (j : Nat) (qs : List Pr2), iv = .int .i64 (j : Nat) ∧ j ≤ l1.length ∧ Hid (RowP w.heap.size w wl rv qs) ∧ Hid (wgt qs ≤ wgt ps + cntL (tq.take j)) ∧ Hid (MapP (KeyB w) wl w.heap.size) ∧ Hid (Below w.heap.size w wl) ∧ Hid (Cb wl wo.heap.size 116 #[.slice (some ⟨g1, o1, none⟩) l1.length k1, .slice (some ⟨g2, o2, none⟩) l2.length k2]) ∧ Hid (rv.ownBlock ≠ some wo.heap.size)) (fun _ iv _ => l1.length - (intOf iv).toNat)
      case atStart => exact ⟨0, ps, rfl, by omega, HR4, Lib.hid (by simp [cntL]), HM4, HB4, HP4, HGB⟩
      case round =>
        obtain ⟨wl, rfl⟩ : ∃ wl : World, wl = wr := ⟨_, rfl⟩
        obtain ⟨j, qs, rfl, hj, HRl, HWl, HMl, HBl, HPl, HGl⟩ := hrel
        clear HR4 HM4 HB4 HP4 HGB
        have p0 : wl.cell? ⟨wo.heap.size, 0, none⟩ = some (.slice (some ⟨g1, o1, none⟩) l1.length k1) := HPl.out.cell 0
        have p1 : wl.cell? ⟨wo.heap.size, 1, none⟩ = some (.slice (some ⟨g2, o2, none⟩) l2.length k2) := HPl.out.cell 1
        by_cases hlt : j < l1.length
        · obtain ⟨y1, hy1⟩ : ∃ y, l1[j]? = some y := ⟨_, List.getElem?_eq_getElem hlt⟩
          obtain ⟨y2, hy2⟩ : ∃ y, l2[j]? = some y := ⟨_, List.getElem?_eq_getElem (by omega)⟩
          obtain ⟨z, hz⟩ : ∃ z, tq[j]? = some z := ⟨_, List.getElem?_eq_getElem (by have := HT1.out.1; omega)⟩
          have nt1 := HT1.out.2 j y1 z hy1 hz
          have nt2 := HT2.out.2 j y2 z hy2 hz
          obtain ⟨f1', hf1⟩ : ∃ f', f1 = f' + 1 := by cases f1 with | zero => exact nt1.elim | succ f => exact ⟨f, rfl⟩
          obtain ⟨f2', hf2⟩ : ∃ f', f2 = f' + 1 := by cases f2 with | zero => exact nt2.elim | succ f => exact ⟨f, rfl⟩
          rw [hf1] at nt1
          rw [hf2] at nt2
          obtain ⟨x1, x2, x3, x4, x5, x6, x7, _, _, m1, M1, M1l, M1t⟩ := nt1
          obtain ⟨v1, v2, v3, v4, v5, v6, v7, _, _, m2, M2, M2l, M2t⟩ := nt2
          have hmm1 : m1.length ≤ maxLen := by obtain ⟨_, _, q1, q2, q3, _⟩ := M1; omega
          have hmm2 : m2.length ≤ maxLen := by obtain ⟨_, _, q1, q2, q3, _⟩ := M2; omega
          unfold maxLen at hmm1 hmm2
          obtain ⟨b1, c1, hi1, hm1, _⟩ := M1.form
          obtain ⟨b2, c2, hi2, hm2, _⟩ := M2.form
          have HPR : Hid (PrOk w ((.slice b1 m1.length c1, .slice b2 m2.length c2), z.items)) := Lib.hid ⟨⟨m1, f1', by rw [← hi1]; exact M1, M1l, M1t⟩, ⟨m2, f2', by rw [← hi2]; exact M2, M2l, M2t⟩⟩
          have A1 := (HR1.out j y1 hy1).on hg1 HBl.out
          have A2 := (HR2.out j y2 hy2).on hg2 HBl.out
          have hgl1 : g1 < wl.heap.size := Nat.lt_of_lt_of_le hg1 HBl.out.size
          have hgl2 : g2 < wl.heap.size := Nat.lt_of_lt_of_le hg2 HBl.out.size
          have HAG : Hid (∀ n, Calls Try.prog 36 #[.pointer (some ⟨g1, o1 + j * 8, none⟩), .pointer (some ⟨g2, o2 + j * 8, none⟩)] (wl.drewN n) fun e w' => e = .returned (.bool true) ∧ Below wl.heap.size wl w') := Lib.hid (fun n => by
            have hbn : Below wl.heap.size wl (wl.drewN n) := bN (Below.refl _ _) n
            refine (agree_same _ _ _ _ y1 y2 z.keys _ (A1.on hgl1 hbn) (A2.on hgl2 hbn) (by rw [x1, v1]) (by rw [x2, v2]) (by rw [x3, v3]) (by rw [x4, v4]) (by rw [x5, v5]) (by rw [x6, v6]) ((x7.on HBl.out).on hbn) ((v7.on HBl.out).on hbn)).mono ?_
            rintro e w' ⟨he, m, hm⟩
            exact ⟨he, by rw [hm, drewN_add]; exact bN (Below.refl _ _) _⟩)
          have HI1 : Hid (∀ wx, Below wl.heap.size wl wx → Calls Try.prog 29 #[.pointer (some ⟨g1, o1 + j * 8, none⟩)] wx fun e w' => e = .returned (.slice b1 m1.length c1) ∧ wx = w') := Lib.hid (fun wx hbx => items_of _ _ y1 b1 m1.length c1 wx (A1.on hgl1 hbx) hi1)
          have HI2 : Hid (∀ wx, Below wl.heap.size wl wx → Calls Try.prog 29 #[.pointer (some ⟨g2, o2 + j * 8, none⟩)] wx fun e w' => e = .returned (.slice b2 m2.length c2) ∧ wx = w') := Lib.hid (fun wx hbx => items_of _ _ y2 b2 m2.length c2 wx (A2.on hgl2 hbx) hi2)
          have hcz : cntL (tq.take (j + 1)) = cntL (tq.take j) + (1 + cntL z.items) := by rw [List.take_add_one, hz, Option.toList_some, cntL_snoc, cnt_is]
          have HCZ := Lib.hid hcz
          have e34 : m1.length ≤ m2.length := by omega
          have e43 : m2.length ≤ m1.length := by omega
          have i1 : (j : Int) < (l1.length : Int) := by omega
          have i2 : (j : Int) < (l2.length : Int) := by omega
          clear hy1 hy2 hz x1 x2 x3 x4 x5 x6 x7 v1 v2 v3 v4 v5 v6 v7 M1 M1l M1t M2 M2l M2t hi1 hi2 A1 A2 hcz hf1 hf2
          go_wp2_with fail
          go_quiet (fail)
          go_upto_region 20 with (first | (go_at_call 36; refine (HAG.out _).mono ?_; rintro e w6 ⟨rfl, hb6⟩) | (go_at_call_of 29 g1; refine (HI1.out _ hb6).mono ?_; rintro e w7 ⟨rfl, rfl⟩) | (go_at_call_of 29 g2; refine (HI2.out _ hb6).mono ?_; rintro e w7 ⟨rfl, rfl⟩))
          have hIN : Cb (w6.alloc (Obj.cells #[.slice b1 m1.length c1, .slice b2 m2.length c2] 116)) w6.heap.size 116 #[.slice b1 m1.length c1, .slice b2 m2.length c2] := Cb.new w6 _ _
          have hBE : Below wl.heap.size wl (w6.alloc (Obj.cells #[.slice b1 m1.length c1, .slice b2 m2.length c2] 116)) := bT hb6 (bA1 _ _)
          obtain ⟨we, hwe⟩ : ∃ we, w6.alloc (Obj.cells #[.slice b1 m1.length c1, .slice b2 m2.length c2] 116) = we := ⟨_, rfl⟩
          rw [hwe] at hIN hBE ⊢
          clear hwe p0 p1 HAG HI1 HI2 i1 i2
          have s0 : we.cell? ⟨w6.heap.size, 0, none⟩ = some (.slice b1 m1.length c1) := hIN.cell 0
          have s1 : we.cell? ⟨w6.heap.size, 1, none⟩ = some (.slice b2 m2.length c2) := hIN.cell 1
          have HRe := Lib.hid (HRl.out.on hBE)
          have HMe : Hid (MapP (KeyB w) we w.heap.size) := Lib.hid (HMl.out.on (hBE.block _ HMl.out.lt).symm)
          have HBe : Hid (Below w.heap.size w we) := Lib.hid (bT HBl.out hBE)
          have HPe := Lib.hid (HPl.out.on hBE)
          clear HRl HMl HBl HPl hIN hBE
          by_cases hmz : m1.length = 0
          · obtain rfl := List.length_eq_zero_iff.1 hmz
            obtain rfl := List.length_eq_zero_iff.1 (show m2.length = 0 by simp at e43; simpa using e43)
            have HW' : Hid (wgt qs ≤ wgt ps + cntL (tq.take (j + 1))) := Lib.hid (by have := HWl.out; have := HCZ.out; omega)
            clear hmz
            go_wp2_with fail
            go_roundw
            case rel => exact ⟨j + 1, qs, by go_num, by omega, HRe, HW', HMe, HBe, HPe, HGl⟩
            case measure => simp [intOf]; omega
          · have d1 : decide (0 < (m1.length : Int)) = true := by rw [decide_eq_true_eq]; omega
            have HLN : Hid (qs.length < 200000) := Lib.hid (by have := wgt_len qs; have := HWl.out; have := cntL_take tq j; have := HW.out; omega)
            have hbw := HBe.out.size
            have hpw := HPe.out.lt
            go_wp2_with (at_builtin; refine wpList_push rfl _ _ rfl w.heap.size wo.heap.size w.heap.size u10 qs b1 b2 m1.length c1 m2.length c2 z.items rfl rfl HRe.out HPR.out HLN.out hbw HGl.out hpw (KeyB w) HMe.out ?_; intro v8 w8 hr8 hb8 hp8 hm8 hg8; have HR8 := Lib.hid hr8; have HB8 := Lib.hid hb8; have HP8 := Lib.hid hp8; have HM8 := Lib.hid hm8; have HG8 := Lib.hid hg8; clear hr8 hb8 hp8 hm8 hg8)
            have HW' : Hid (wgt (qs ++ [((.slice b1 m1.length c1, .slice b2 m2.length c2), z.items)]) ≤ wgt ps + cntL (tq.take (j + 1))) := Lib.hid (by have := HWl.out; have := HCZ.out; rw [wgt_snoc]; simp only; omega)
            go_roundw
            case rel => exact ⟨j + 1, _, by go_num, by omega, HR8, HW', HM8, Lib.hid (HBe.out.trans HB8.out), Lib.hid (HP8.out.trans HPe.out), HG8⟩
            case measure => simp [intOf]; omega
        · have hjl : Hid (tq.take j = tq) := Lib.hid (List.take_of_length_le (by have := HT1.out.1; omega))
          have HN : SmR w.heap.size w w.heap.size (wgt qs) u10 wl := ⟨qs, rfl, by have := HWl.out; have := cntL_take tq j; have := HW.out; omega, HRl.out, HMl.out, HBl.out⟩
          have HM := SmR.lt HM0.out HN (by have := HWl.out; rw [hjl.out] at this; have := HW.out; omega)
          go_wp2_with fail
          go_roundw
          case rel => exact ⟨_, HN⟩
          case measure => exact HM
end Nd
end Go.Proofs.Ytelladgeehlkpaa
