/- The document's sorting of at most 12 values, and the place of one among them. -/
import Derived.Test.YtkmfoclhhnhkdaaOdStb
import Derived.Deep.RegionLaw
import Derived.Laws.OwnMore
namespace Go.Proofs.Ytkmfoclhhnhkdaa
open Go.RowKit
namespace Od
open _root_.Go.Proofs.Ytkmfoclhhnhkdaa.Nm _root_.Go.Proofs.Ytkmfoclhhnhkdaa.Jv
/-- a row of values of the call's own -/
def Own6 (B : Nat) (w : World) (v : Value) (l : List Six) : Prop := w.ownsRow B 27 6 v l.length (l.flatMap Six.cells)
theorem Own6.nil (w : World) (B : Nat) : Own6 B w (.slice none 0 0) [] := World.ownsRow_nil w B 27 6
theorem Own6.mono {A B : Nat} {w : World} {v : Value} {l : List Six} (h : Own6 B w v l) (hA : A ≤ B) : Own6 A w v l := by
  obtain ⟨h0, h1⟩ := h
  refine ⟨h0, ?_⟩
  rcases h1 with h1 | ⟨g, cap, cur, h1, h2, h3⟩
  · exact Or.inl h1
  · exact Or.inr ⟨g, cap, cur, h1, Nat.le_trans hA h2, h3⟩
theorem Own6.on {B : Nat} {w w' : World} {v : Value} {l : List Six} (h : Own6 B w v l) (hb : Below w.heap.size w w') : Own6 B w' v l := by
  obtain ⟨h0, h1⟩ := h
  refine ⟨h0, ?_⟩
  rcases h1 with h1 | ⟨g, cap, cur, h1, h2, h3, h4⟩
  · exact Or.inl h1
  · exact Or.inr ⟨g, cap, cur, h1, h2, (hb.block g (Array.getElem?_eq_some_iff.1 h3).1).trans h3, h4⟩
theorem one_flat {l : List Six} (h : ∀ y ∈ l, y.one) : ∀ u ∈ l.flatMap Six.cells, u.oneCell' = true := by
  intro u hu
  obtain ⟨y, hy, hu⟩ := List.mem_flatMap.1 hu
  exact Six.one_cells (h y hy) u hu
theorem Own6.cs {B : Nat} {w : World} {v : Value} {l : List Six} (h : Own6 B w v l) (h1 : ∀ y ∈ l, y.one) : Cs 6 w v l.length (l.flatMap Six.cells) := own_cs h (one_flat h1)
theorem Own6.vs {B : Nat} {w : World} {v : Value} {l : List Six} (h : Own6 B w v l) (h1 : ∀ y ∈ l, y.one) : Vs w v l := (h.cs h1).vs rfl
theorem app6 {B : Nat} {w : World} {v src : Value} {l l2 : List Six} (ty : TypeId) (h : Own6 B w v l) (hs : Cs 6 w src l2.length (l2.flatMap Six.cells)) (hn : l.length + l2.length ≤ 1000) (hB : B ≤ w.heap.size) :
    ∃ v' w', (Builtin.append_ #[24, 24] ty #[v, src]).run Try.prog w = .ok v' w' ∧ Own6 B w' v' (l ++ l2) ∧ Below B w w' := by
  obtain ⟨i0, hi, hz0, hz1, hz2⟩ := info_parts infoV
  have hl2 := hs.1
  obtain ⟨_, h1, ao, cap, rfl, hc, hm, hno, hat⟩ := hs
  cases ao with
  | none =>
    obtain ⟨k1, rfl⟩ := hno rfl
    obtain rfl : l2 = [] := List.length_eq_zero_iff.1 k1
    refine ⟨v, w, run_append_owned_none (P := Try.prog) w B 24 ty 27 i0 6 Try.underlying24 hi v l.length _ h, ?_, Below.refl _ _⟩
    rw [List.append_nil]
    exact h
  | some ad =>
    obtain ⟨v', w', hr, g1, g2, _⟩ := run_append_own (P := Try.prog) w B 24 ty 27 i0 _ 6 88 Try.underlying24 hi hz0 hz1 hz2 rfl (by decide) v l.length _ h ad l2.length cap (l2.flatMap Six.cells) hl2 (hat ad rfl).1 h1 (by unfold maxLen; omega) (by omega) hB
    refine ⟨v', w', hr, ?_, g2.os, g2.tape, g2.output, g2.size, fun k hk => g2.block k (by omega) (fun e => ?_)⟩
    · unfold Own6
      rw [List.length_append, List.flatMap_append]
      exact g1
    · rcases h.2 with ⟨rfl, _⟩ | ⟨g, cap', cur, rfl, hb, _⟩
      · cases e
      · obtain rfl := Option.some.inj e
        exact absurd hk (Nat.not_lt.2 hb)
theorem step_app6 {ops : Array Oper} {o : Oper} {a : Act} {w : World} {K : Act → World → Prop} {Q : Exit → Act → World → Prop} {E : Prop} (hg : o.guard = none) (s x : Operand)
    (hop : o.op = Op.call { callee := Callee.builtin Builtin.append, args := #[s, x], argTypes := #[24, 24] }) (B : Nat) (v src : Value) (l l2 : List Six) (hs : a.eval s = v) (hx : a.eval x = src)
    (h : Own6 B w v l) (hc : Cs 6 w src l2.length (l2.flatMap Six.cells)) (hn : l.length + l2.length ≤ 1000) (hB : B ≤ w.heap.size) (hK : ∀ v' w', Own6 B w' v' (l ++ l2) → Below B w w' → K (a.put o.dst v') w') :
    if Region.wanted o (yielded ops a.tmps) = true then Oper.wp Try.prog o a w K Q else E := by
  have hw : Region.wanted o (yielded ops a.tmps) = true := by simp [Region.wanted, hg]
  rw [if_pos hw]
  obtain ⟨v', w', hrun, r1, r2⟩ := app6 o.type h hc hn hB
  unfold Oper.wp
  simp [execOp, hop, resolve, invoke, builtin, hs, hx, hrun, Result.andThen]
  exact hK v' w' r1 r2
theorem wpList_app6 {ops : Array Oper} {rest : List Oper} {o : Oper} {a : Act} {w : World} {Q : Exit → Act → World → Prop} (hgd : o.guard = none) (s x : Operand)
    (hop : o.op = Op.call { callee := Callee.builtin Builtin.append, args := #[s, x], argTypes := #[24, 24] }) (B : Nat) (v src : Value) (l l2 : List Six) (hs : a.eval s = v) (hx : a.eval x = src)
    (h : Own6 B w v l) (hc : Cs 6 w src l2.length (l2.flatMap Six.cells)) (hn : l.length + l2.length ≤ 1000) (hB : B ≤ w.heap.size) (hK : ∀ v' w', Own6 B w' v' (l ++ l2) → Below B w w' → wpList Try.prog ops Q rest (a.put o.dst v') w') :
    wpList Try.prog ops Q (o :: rest) a w := by
  refine wpList_plain hgd fun K hK' => ?_
  obtain ⟨v', w', hrun, r1, r2⟩ := app6 o.type h hc hn hB
  unfold Oper.wp
  simp [execOp, hop, resolve, invoke, builtin, hs, hx, hrun, Result.andThen]
  exact hK' _ _ (hK v' w' r1 r2)
theorem step_app6n {ops : Array Oper} {o : Oper} {a : Act} {w : World} {K : Act → World → Prop} {Q : Exit → Act → World → Prop} {E : Prop} (hg : o.guard = none) (s x : Operand)
    (hop : o.op = Op.call { callee := Callee.builtin Builtin.append, args := #[s, x], argTypes := #[24, 24] }) (src : Value) (l2 : List Six) (hs : a.eval s = .slice none 0 0) (hx : a.eval x = src)
    (hc : Cs 6 w src l2.length (l2.flatMap Six.cells)) (hn : l2.length ≤ 1000) (hK : ∀ v' w', Own6 w.heap.size w' v' l2 → Below w.heap.size w w' → K (a.put o.dst v') w') :
    if Region.wanted o (yielded ops a.tmps) = true then Oper.wp Try.prog o a w K Q else E :=
  step_app6 hg s x hop w.heap.size (.slice none 0 0) src [] l2 hs hx (Own6.nil _ _) hc (by simpa using hn) (Nat.le_refl _) hK
theorem Cs.lit6 (w : World) (y : Six) (h1 : y.one) : Cs 6 (w.alloc (Obj.cells #[.int .i64 y.k, .int .i64 y.c, .int .i64 y.s, .string y.st, y.iv, y.kv] 27)) (.slice (some ⟨w.heap.size, 0, none⟩) 1 1) [y].length ([y].flatMap Six.cells) := by
  have h := Vb.new w #[.int .i64 y.k, .int .i64 y.c, .int .i64 y.s, .string y.st, y.iv, y.kv]
  obtain ⟨h0, h1', h2, h3, h4, h5⟩ := h.six
  refine ⟨rfl, fun u hu => ?_, _, 1, rfl, Nat.le_refl _, by decide, fun e => (by cases e), fun a ha => ?_⟩
  · obtain ⟨y', hy, hu⟩ := List.mem_flatMap.1 hu
    obtain rfl := List.mem_singleton.1 hy
    exact Six.one_cells h1 u hu
  · obtain rfl := Option.some.inj ha
    refine ⟨fun j u hj => ?_, fun _ => by simp⟩
    rw [add_at, Nat.zero_add]
    match j with
    | 0 => obtain rfl := Option.some.inj hj; exact h0
    | 1 => obtain rfl := Option.some.inj hj; exact h1'
    | 2 => obtain rfl := Option.some.inj hj; exact h2
    | 3 => obtain rfl := Option.some.inj hj; exact h3
    | 4 => obtain rfl := Option.some.inj hj; exact h4
    | 5 => obtain rfl := Option.some.inj hj; exact h5
    | j + 6 => cases hj
/-- what the document's Sort answers -/
def RsP (w0 : World) (ts : List JV) (e : Ending) (w' : World) : Prop := Below w0.heap.size w0 w' ∧ ∃ ao n cap ok, e = .returned (.tuple #[.slice ao n cap, .bool ok]) ∧ (ok = false → Value.slice ao n cap = .slice none 0 0 ∧ ¬ ts.Pairwise Ans) ∧
  (ok = true → ts.Pairwise Ans ∧ ∃ l2, Vs w' (.slice ao n cap) l2 ∧ l2.length = ts.length ∧ ∀ (j : Nat) (y : Six) (z : JV), l2[j]? = some y → (refS ts)[j]? = some z → ∃ n, VT w0 n y z)
/-- the first i have answers among themselves -/
def AnsTo (ts : List JV) (i : Nat) : Prop := ∀ p q a b, p < q → q < i → ts[p]? = some a → ts[q]? = some b → Ans a b
/-- the sorted list, while it grows -/
structure Gr (w0 : World) (ts : List JV) (i : Nat) (v : Value) (out : List (Six × JV)) (w : World) : Prop where
  own : Own6 w0.heap.size w v (out.map Prod.fst)
  is : out.map Prod.snd = refS (ts.take i)
  vt : ∀ p ∈ out, ∃ n, VT w0 n p.1 p.2
  bel : Below w0.heap.size w0 w
theorem Gr.one {w0 w : World} {ts : List JV} {i : Nat} {v : Value} {out : List (Six × JV)} (h : Gr w0 ts i v out w) : ∀ y ∈ out.map Prod.fst, y.one := by
  intro y hy
  obtain ⟨p, hp, rfl⟩ := List.mem_map.1 hy
  obtain ⟨n, hv⟩ := h.vt p hp
  exact hv.one
theorem Gr.len {w0 w : World} {ts : List JV} {i : Nat} {v : Value} {out : List (Six × JV)} (h : Gr w0 ts i v out w) (hi : i ≤ ts.length) : out.length = i := by
  have := congrArg List.length h.is
  rw [List.length_map, refS_len, List.length_take] at this
  omega
theorem Gr.on {w0 w w' : World} {ts : List JV} {i : Nat} {v : Value} {out : List (Six × JV)} (h : Gr w0 ts i v out w) (hb : Below w.heap.size w w') : Gr w0 ts i v out w' := ⟨h.own.on hb, h.is, h.vt, bT h.bel hb⟩
theorem Gr.form {w0 w : World} {ts : List JV} {i : Nat} {v : Value} {out : List (Six × JV)} (h : Gr w0 ts i v out w) (hi : i ≤ ts.length) : (v = .slice none 0 0 ∧ i = 0) ∨ ∃ q cap, v = .slice (some ⟨q, 0, none⟩) i cap ∧ i ≤ cap ∧ cap ≤ maxLen := by
  have hl := h.len hi
  have hm : (out.map Prod.fst).length = i := by rw [List.length_map, hl]
  rcases h.own.2 with ⟨h1, h2⟩ | ⟨g, cap, cur, h1, hb, hg, hn, hc, hs, ht⟩
  · exact Or.inl ⟨h1, by omega⟩
  · exact Or.inr ⟨g, cap, by rw [h1, hm], by omega, hc⟩
theorem Gr.at6 {w0 w wx : World} {ts : List JV} {i q j cap : Nat} {out : List (Six × JV)} {y : Six} {t : JV} (h : Gr w0 ts i (.slice (some ⟨q, 0, none⟩) i cap) out w) (hp : out[j]? = some (y, t)) (hb : Below w.heap.size w wx) : At6 wx q (j * 6) y := by
  obtain ⟨ao, cp, e, _, hk⟩ := (h.own.vs h.one).form
  obtain ⟨k, o, e1, hlt, hat⟩ := hk (by rw [List.length_map]; have := (List.getElem?_eq_some_iff.1 hp).1; omega)
  subst e1
  injection e with e2
  injection e2 with e2
  injection e2 with e3 e4
  subst e3 e4
  have h1 := hat j y (by rw [List.getElem?_map, hp]; rfl)
  rw [Nat.zero_add] at h1
  exact h1.on hlt hb
theorem Gr.grow {w0 w w' : World} {ts : List JV} {i : Nat} {v v' : Value} {out : List (Six × JV)} {y : Six} {u : JV} {n k : Nat} (h : Gr w0 ts i v out w) (hu : ts[i]? = some u) (hy : VT w0 n y u) (hk : k = pos (out.map Prod.snd) u out.length)
    (hb : Below w0.heap.size w0 w') (ho : Own6 w0.heap.size w' v' (((out.map Prod.fst).take k ++ [y]) ++ (out.map Prod.fst).drop k)) : Gr w0 ts (i + 1) v' (out.take k ++ (y, u) :: out.drop k) w' := by
  refine ⟨?_, ?_, fun p hp => ?_, hb⟩
  · rw [List.map_append, List.map_cons, List.map_take, List.map_drop]
    rw [List.append_assoc] at ho
    exact ho
  · rw [refS_step hu, ← h.is, List.map_append, List.map_cons, List.map_take, List.map_drop, hk]
    unfold insA
    rw [List.length_map]
  · rcases List.mem_append.1 hp with hp | hp
    · exact h.vt p (List.mem_of_mem_take hp)
    · rcases List.mem_cons.1 hp with rfl | hp
      · exact ⟨n, hy⟩
      · exact h.vt p (List.mem_of_mem_drop hp)

set_option maxRecDepth 100000 in
set_option maxHeartbeats 16000000 in
theorem rsort_any (v : Value) (l : List Six) (ts : List JV) (w0 : World) (hv : Vs w0 v l) (hl : l.length = ts.length) (ht : ∀ (j : Nat) (y : Six) (z : JV), l[j]? = some y → ts[j]? = some z → ∃ n, VT w0 n y z) (hn : l.length ≤ 12) :
    Calls Try.prog 18 #[v] w0 (RsP w0 ts) := by
  obtain ⟨ao, cap, rfl, hc, h⟩ := hv.form
  have hone : ∀ y ∈ l, y.one := fun y hy => by
    obtain ⟨j, hj⟩ := List.getElem?_of_mem hy
    have hjl := (List.getElem?_eq_some_iff.1 hj).1
    obtain ⟨n, h⟩ := ht j y _ hj (List.getElem?_eq_getElem (by omega))
    exact h.one
  have H := Lib.hid h
  have HL := Lib.hid hl
  have HT := Lib.hid ht
  clear h hl ht hv hone
  go_enter Try.func18, Try.ntmps18
  go_wp2
  go_loopw [5] (fun iv wr => ∃ i : Nat, iv = .int .i64 (i : Nat) ∧ i ≤ l.length ∧ Hid (Below w0.heap.size w0 wr) ∧ Hid (AnsTo ts i)) (fun iv _ => l.length - (intOf iv).toNat)
  case atStart => exact ⟨0, rfl, by omega, Lib.hid (Below.refl _ _), Lib.hid (fun p q a b h1 h2 => by omega)⟩
  case round =>
    obtain ⟨i, rfl, hi, HB, HA⟩ := hrel
    by_cases hlt : i < l.length
    · have i1 : (i : Int) < (l.length : Int) := by omega
      go_wp2
      go_loopw [6] (fun jv wr => ∃ j : Nat, jv = .int .i64 (j : Nat) ∧ j ≤ i ∧ Hid (Below w0.heap.size w0 wr) ∧ Hid (∀ p a b, p < j → ts[p]? = some a → ts[i]? = some b → Ans a b)) (fun jv _ => i - (intOf jv).toNat)
      case atStart => exact ⟨0, rfl, by omega, HB, Lib.hid (fun p a b h => by omega)⟩
      case round =>
        clear HB
        obtain ⟨j, rfl, hj, HB, HC⟩ := hrel
        by_cases hji : j < i
        · obtain ⟨g, o, rfl, hg, hcl⟩ := H.out (by omega)
          obtain ⟨y1, hy1⟩ : ∃ x, l[i]? = some x := ⟨_, List.getElem?_eq_getElem hlt⟩
          obtain ⟨y0, hy0⟩ : ∃ x, l[j]? = some x := ⟨_, List.getElem?_eq_getElem (by omega)⟩
          obtain ⟨t1, ht1⟩ : ∃ x, ts[i]? = some x := ⟨_, List.getElem?_eq_getElem (by have := HL.out; omega)⟩
          obtain ⟨t0, ht0⟩ : ∃ x, ts[j]? = some x := ⟨_, List.getElem?_eq_getElem (by have := HL.out; omega)⟩
          obtain ⟨n1, hv1⟩ := HT.out _ y1 t1 hy1 ht1
          obtain ⟨n0, hv0⟩ := HT.out _ y0 t0 hy0 ht0
          have hcm := fun wx (h : Below wr.heap.size wr wx) => rcompare_any n0 n1 y0 y1 t0 t1 wx (VT.on (bT HB.out h) n0 hv0) (VT.on (bT HB.out h) n1 hv1)
          obtain ⟨c, hc⟩ : ∃ c, (cmpR t0 t1).1 = c := ⟨_, rfl⟩
          obtain ⟨b, hb⟩ : ∃ b, (cmpR t0 t1).2 = b := ⟨_, rfl⟩
          have HNX : Hid (b = false → ¬ ts.Pairwise Ans) := Lib.hid (fun h hp => by
            have h1 : (cmpR t0 t1).2 = true := ans_next hp hji ht0 ht1
            rw [hb, h] at h1
            cases h1)
          have HOK : Hid (b = true → ∀ p a b, p < j + 1 → ts[p]? = some a → ts[i]? = some b → Ans a b) := Lib.hid (fun h p a' b' hp h1 h2 => by
            by_cases e : p = j
            · subst e
              rw [ht0] at h1
              rw [ht1] at h2
              obtain rfl := Option.some.inj h1
              obtain rfl := Option.some.inj h2
              show (cmpR t0 t1).2 = true
              rw [hb, h]
            · exact HC.out p a' b' (by omega) h1 h2)
          rw [hc, hb] at hcm
          have hat1 : ∀ wx, Below wr.heap.size wr wx → At6 wx g (o + i * 6) y1 := fun wx h => (hcl i y1 hy1).on hg (bT HB.out h)
          have hat2 : ∀ wx, Below wr.heap.size wr wx → At6 wx g (o + j * 6) y0 := fun wx h => (hcl j y0 hy0).on hg (bT HB.out h)
          clear hc hb hy1 hy0 ht1 ht0 hv1 hv0 hcl HC
          obtain ⟨xk, xc, xs, xst, xi, xv⟩ := y1
          obtain ⟨yk, yc, ys, yst, yi, yv⟩ := y0
          unfold Six.val vV at hcm
          simp only at hcm
          have HCM := Lib.hid hcm
          clear hcm
          have a0 := fun wx h => (hat1 wx h).1
          have a1 := fun wx h => (hat1 wx h).2.1
          have a2 := fun wx h => (hat1 wx h).2.2.1
          have a3 := fun wx h => (hat1 wx h).2.2.2.1
          have a4 := fun wx h => (hat1 wx h).2.2.2.2.1
          have a5 := fun wx h => (hat1 wx h).2.2.2.2.2
          simp only at a0 a1 a2 a3 a4 a5
          have e0 := fun wx h => (hat2 wx h).1
          have e1 := fun wx h => (hat2 wx h).2.1
          have e2 := fun wx h => (hat2 wx h).2.2.1
          have e3 := fun wx h => (hat2 wx h).2.2.2.1
          have e4 := fun wx h => (hat2 wx h).2.2.2.2.1
          have e5 := fun wx h => (hat2 wx h).2.2.2.2.2
          simp only at e0 e1 e2 e3 e4 e5
          clear hat1 hat2
          have j1 : (j : Int) < (i : Int) := by omega
          have j2 : (j : Int) < (l.length : Int) := by omega
          have j3 : j < l.length := by omega
          go_wp2
          refine wp_region_held_drew (S := Below wr.heap.size wr) (by kernel_rfl) (Below.refl wr.heap.size wr).drew (fun hHeld => ?_)
          refine take_put (i := 0) (d := 26) (oi := _) (v := ?vz0) rfl rfl (by kernel_rfl) (by kernel_rfl) (by kernel_rfl) (fun _ _ _ h => h) (Or.inl ⟨by rfl, ?yz0⟩) hHeld ?rz0
          case yz0 => (intro w hSw; (try dsimp only at hSw); go_simp; try with_reducible rfl)
          simp only [Act.put, List.setIfInBounds_toArray, List.set_cons_zero, List.set_cons_succ]
          refine take_put (i := 1) (d := 27) (oi := _) (v := ?vz1) rfl rfl (by kernel_rfl) (by kernel_rfl) (by kernel_rfl) (fun _ _ _ h => h) (Or.inl ⟨by rfl, ?yz1⟩) hHeld ?rz1
          case yz1 => (intro w hSw; (try dsimp only at hSw); go_simp; try with_reducible rfl)
          simp only [Act.put, List.setIfInBounds_toArray, List.set_cons_zero, List.set_cons_succ]
          refine take_put (i := 2) (d := 28) (oi := _) (v := ?vz2) rfl rfl (by kernel_rfl) (by kernel_rfl) (by kernel_rfl) (fun _ _ _ h => h) (Or.inl ⟨by rfl, ?yz2⟩) hHeld ?rz2
          case yz2 => (intro w hSw; (try dsimp only at hSw); go_simp; try with_reducible rfl)
          simp only [Act.put, List.setIfInBounds_toArray, List.set_cons_zero, List.set_cons_succ]
          refine take_put (i := 3) (d := 29) (oi := _) (v := ?vz3) rfl rfl (by kernel_rfl) (by kernel_rfl) (by kernel_rfl) (fun _ _ _ h => h) (Or.inl ⟨by rfl, ?yz3⟩) hHeld ?rz3
          case yz3 => (intro w hSw; (try dsimp only at hSw); go_simp; try with_reducible rfl)
          simp only [Act.put, List.setIfInBounds_toArray, List.set_cons_zero, List.set_cons_succ]
          refine take_put (i := 4) (d := 30) (oi := _) (v := ?vz4) rfl rfl (by kernel_rfl) (by kernel_rfl) (by kernel_rfl) (fun _ _ _ h => h) (Or.inl ⟨by rfl, ?yz4⟩) hHeld ?rz4
          case yz4 => (intro w hSw; (try dsimp only at hSw); go_simp; try with_reducible rfl)
          simp only [Act.put, List.setIfInBounds_toArray, List.set_cons_zero, List.set_cons_succ]
          refine take_put (i := 5) (d := 31) (oi := _) (v := ?vz5) rfl rfl (by kernel_rfl) (by kernel_rfl) (by kernel_rfl) (fun _ _ _ h => h) (Or.inl ⟨by rfl, ?yz5⟩) hHeld ?rz5
          case yz5 => (intro w hSw; (try dsimp only at hSw); go_simp; try with_reducible rfl)
          simp only [Act.put, List.setIfInBounds_toArray, List.set_cons_zero, List.set_cons_succ]
          refine take_put (i := 6) (d := 32) (oi := _) (v := ?vz6) rfl rfl (by kernel_rfl) (by kernel_rfl) (by kernel_rfl) (fun _ _ _ h => h) (Or.inl ⟨by rfl, ?yz6⟩) hHeld ?rz6
          case yz6 => (intro w hSw; (try dsimp only at hSw); go_simp; try with_reducible rfl)
          simp only [Act.put, List.setIfInBounds_toArray, List.set_cons_zero, List.set_cons_succ]
          refine take_put (i := 7) (d := 33) (oi := _) (v := ?vz7) rfl rfl (by kernel_rfl) (by kernel_rfl) (by kernel_rfl) (fun _ _ _ h => h) (Or.inl ⟨by rfl, ?yz7⟩) hHeld ?rz7
          case yz7 => (intro w hSw; (try dsimp only at hSw); go_simp; try with_reducible rfl)
          simp only [Act.put, List.setIfInBounds_toArray, List.set_cons_zero, List.set_cons_succ]
          refine wpAnyH_ready (rs := [8]) (by kernel_rfl) (by simp) (AllReadyH.cons (o := _) rfl (fun K hK => ?_) AllReadyH.nil)
          go_simp
          refine (HCM.out _ hHeld).mono ?_
          rintro e w6 ⟨rfl, b6⟩
          (try dsimp only)
          refine hK.out _ _ (bT hHeld b6) (fun hHeld => ?_)
          clear hK K
          refine take_put (i := 9) (d := 25) (oi := _) (v := ?vz9) rfl rfl (by kernel_rfl) (by kernel_rfl) (by kernel_rfl) (fun _ _ _ h => h) (Or.inl ⟨by rfl, ?yz9⟩) hHeld ?rz9
          case yz9 => (intro w hSw; (try dsimp only at hSw); go_simp; try with_reducible rfl)
          simp only [Act.put, List.setIfInBounds_toArray, List.set_cons_zero, List.set_cons_succ]
          refine take_put (i := 10) (d := 35) (oi := _) (v := ?vz10) rfl rfl (by kernel_rfl) (by kernel_rfl) (by kernel_rfl) (fun _ _ _ h => h) (Or.inl ⟨by rfl, ?yz10⟩) hHeld ?rz10
          case yz10 => (intro w hSw; (try dsimp only at hSw); go_simp; try with_reducible rfl)
          simp only [Act.put, List.setIfInBounds_toArray, List.set_cons_zero, List.set_cons_succ]
          refine take_put (i := 11) (d := 36) (oi := _) (v := ?vz11) rfl rfl (by kernel_rfl) (by kernel_rfl) (by kernel_rfl) (fun _ _ _ h => h) (Or.inl ⟨by rfl, ?yz11⟩) hHeld ?rz11
          case yz11 => (intro w hSw; (try dsimp only at hSw); go_simp; try with_reducible rfl)
          simp only [Act.put, List.setIfInBounds_toArray, List.set_cons_zero, List.set_cons_succ]
          refine take_put (i := 12) (d := 7) (oi := _) (v := ?vz12) rfl rfl (by kernel_rfl) (by kernel_rfl) (by kernel_rfl) (fun _ _ _ h => h) (Or.inl ⟨by rfl, ?yz12⟩) hHeld ?rz12
          case yz12 => (intro w hSw; (try dsimp only at hSw); go_simp; try with_reducible rfl)
          simp only [Act.put, List.setIfInBounds_toArray, List.set_cons_zero, List.set_cons_succ]
          refine take_put (i := 13) (d := 8) (oi := _) (v := ?vz13) rfl rfl (by kernel_rfl) (by kernel_rfl) (by kernel_rfl) (fun _ _ _ h => h) (Or.inl ⟨by rfl, ?yz13⟩) hHeld ?rz13
          case yz13 => (intro w hSw; (try dsimp only at hSw); go_simp; try with_reducible rfl)
          simp only [Act.put, List.setIfInBounds_toArray, List.set_cons_zero, List.set_cons_succ]
          refine wpAnyH_done (by kernel_rfl) ?_ _
          have HB6 := Lib.hid (bT HB.out hHeld)
          clear hHeld b6 HCM a0 a1 a2 a3 a4 a5 e0 e1 e2 e3 e4 e5 HB
          cases b with
          | false =>
            go_wp2
            go_ret2
            exact ⟨HB6.out, none, 0, 0, false, rfl, fun _ => ⟨rfl, HNX.out (by trivial)⟩, fun h => by cases h⟩
          | true =>
            go_wp2
            go_roundw
            case rel => exact ⟨j + 1, by go_num, by omega, HB6, Lib.hid (HOK.out (by trivial))⟩
            case measure => simp [intOf]; omega
        · have i2 : ¬ (j : Int) < (i : Int) := by omega
          have HA' : Hid (AnsTo ts (i + 1)) := Lib.hid (fun p q a b h1 h2 h3 h4 => by
            by_cases e : q = i
            · subst e; exact HC.out p a b (by omega) h3 h4
            · exact HA.out p q a b h1 (by omega) h3 h4)
          clear HA HC
          go_wp2
          go_roundw
          case rel => exact ⟨i + 1, by go_num, by omega, HB, HA'⟩
          case measure => simp [intOf]; omega
    · have i1 : ¬ (i : Int) < (l.length : Int) := by omega
      have HPW : Hid (ts.Pairwise Ans) := Lib.hid (by
        rw [List.pairwise_iff_getElem]
        intro p q hp hq hpq
        exact HA.out p q _ _ hpq (by have := HL.out; omega) (List.getElem?_eq_getElem hp) (List.getElem?_eq_getElem hq))
      clear HA
      go_wp2
      go_loopw [4, 9] (fun sv iv wr => ∃ (i : Nat) (out : List (Six × JV)), iv = .int .i64 (i : Nat) ∧ i ≤ l.length ∧ Hid (Gr w0 ts i sv out wr)) (fun _ iv _ => l.length - (intOf iv).toNat)
      case atStart => exact ⟨0, [], rfl, by omega, Lib.hid ⟨Own6.nil _ _, rfl, fun p hp => (by cases hp), HB.out⟩⟩
      case round =>
        clear HB
        obtain ⟨i, out, rfl, hi, HG⟩ := hrel
        have hol : out.length = i := HG.out.len (by have := HL.out; omega)
        by_cases hlt : i < l.length
        · obtain ⟨g, o, rfl, hg, hcl⟩ := H.out (by omega)
          obtain ⟨y1, hy1⟩ : ∃ x, l[i]? = some x := ⟨_, List.getElem?_eq_getElem hlt⟩
          obtain ⟨t1, ht1⟩ : ∃ x, ts[i]? = some x := ⟨_, List.getElem?_eq_getElem (by have := HL.out; omega)⟩
          obtain ⟨n1, hv1⟩ := HT.out _ y1 t1 hy1 ht1
          have hat1 : ∀ wx, Below w0.heap.size w0 wx → At6 wx g (o + i * 6) y1 := fun wx h => (hcl i y1 hy1).on hg h
          obtain ⟨⟨xa, xb, xc2, g1⟩, xd, xe, xf, g2⟩ := hv1.one
          have hone1 := hv1.one
          clear hcl hy1
          obtain ⟨xk, xc, xs, xst, xi, xv⟩ := y1
          simp only at g1 g2
          subst g1 g2
          have HA1 := Lib.hid hat1
          have HU := Lib.hid ht1
          have HV1 := Lib.hid hv1
          have HONE := Lib.hid hone1
          clear hat1 ht1 hv1 hone1
          have i1 : (i : Int) < (l.length : Int) := by omega
          rcases HG.out.form (by have := HL.out; omega) with ⟨rfl, hi0⟩ | ⟨q, cap2, rfl, hc2, hc3⟩
          · have hol0 : out.length ≤ 0 := by omega
            clear hi0
            go_wp2
            go_loopw [10] (fun kv wr => kv = .int .i64 0 ∧ Hid (Gr w0 ts i (.slice none 0 0) out wr)) (fun _ _ => 0)
            case atStart => exact ⟨rfl, HG⟩
            case round =>
              clear HG
              obtain ⟨rfl, HG⟩ := hrel
              have HP : Hid (0 = pos (out.map Prod.snd) t1 out.length) := Lib.hid (by rw [show out.length = 0 by omega]; rfl)
              obtain ⟨L1, hL1⟩ : ∃ L, (out.map Prod.fst).take 0 = L := ⟨_, rfl⟩
              obtain ⟨L2, hL2⟩ : ∃ L, (out.map Prod.fst).drop 0 = L := ⟨_, rfl⟩
              have hl1 : L1.length = 0 := by rw [← hL1, List.length_take, List.length_map]; try omega
              have hl2 : L2.length = out.length - 0 := by rw [← hL2, List.length_drop, List.length_map]; try omega
              have hc1 : L1 = [] := List.length_eq_zero_iff.1 (by omega)
              have hc2 : L2 = [] := List.length_eq_zero_iff.1 (by omega)
              have HCP : Hid (∀ wx, Below wr.heap.size wr wx → Cs 6 wx (.slice none 0 0) L1.length (L1.flatMap Six.cells)) := Lib.hid (fun wx _ => by rw [hc1]; exact Cs.empty _ _)
              have HCS : Hid (∀ wx, Below wr.heap.size wr wx → Cs 6 wx (.slice none 0 0) L2.length (L2.flatMap Six.cells)) := Lib.hid (fun wx _ => by rw [hc2]; exact Cs.empty _ _)
              clear hc1 hc2
              have hat1 : ∀ wx, Below wr.heap.size wr wx → At6 wx g (o + i * 6) ⟨xk, xc, xs, xst, .slice xa xb xc2, .slice xd xe xf⟩ := fun wx h => HA1.out wx (bT HG.out.bel h)
              have a0 := fun wx h => (hat1 wx h).1
              have a1 := fun wx h => (hat1 wx h).2.1
              have a2 := fun wx h => (hat1 wx h).2.2.1
              have a3 := fun wx h => (hat1 wx h).2.2.2.1
              have a4 := fun wx h => (hat1 wx h).2.2.2.2.1
              have a5 := fun wx h => (hat1 wx h).2.2.2.2.2
              simp only at a0 a1 a2 a3 a4 a5
              clear hat1
              have HLN := Lib.hid (And.intro hl1 (And.intro hl2 (And.intro hL1 hL2)))
              clear hl1 hl2 hL1 hL2
              go_wp2
              refine wp_region_held_drew (S := Below wr.heap.size wr) (by kernel_rfl) (Below.refl wr.heap.size wr).drew (fun hHeld => ?_)
              refine take_put (i := 0) (d := 66) (oi := _) (v := ?va0) rfl rfl (by kernel_rfl) (by kernel_rfl) (by kernel_rfl) (fun _ _ _ h => h) (Or.inl ⟨by rfl, ?ya0⟩) hHeld ?ra0
              case ya0 => (intro w hSw; (try dsimp only at hSw); go_simp; try with_reducible rfl)
              simp only [Act.put, List.setIfInBounds_toArray, List.set_cons_zero, List.set_cons_succ]
              refine take_put (i := 1) (d := 67) (oi := _) (v := ?va1) rfl rfl (by kernel_rfl) (by kernel_rfl) (by kernel_rfl) (fun _ _ _ h => h) (Or.inl ⟨by rfl, ?ya1⟩) hHeld ?ra1
              case ya1 => (intro w hSw; (try dsimp only at hSw); go_simp; try with_reducible rfl)
              simp only [Act.put, List.setIfInBounds_toArray, List.set_cons_zero, List.set_cons_succ]
              refine take_put (i := 2) (d := 68) (oi := _) (v := ?va2) rfl rfl (by kernel_rfl) (by kernel_rfl) (by kernel_rfl) (fun _ _ _ h => h) (Or.inl ⟨by rfl, ?ya2⟩) hHeld ?ra2
              case ya2 => (intro w hSw; (try dsimp only at hSw); go_simp; try with_reducible rfl)
              simp only [Act.put, List.setIfInBounds_toArray, List.set_cons_zero, List.set_cons_succ]
              refine take_put (i := 3) (d := 69) (oi := _) (v := ?va3) rfl rfl (by kernel_rfl) (by kernel_rfl) (by kernel_rfl) (fun _ _ _ h => h) (Or.inl ⟨by rfl, ?ya3⟩) hHeld ?ra3
              case ya3 => (intro w hSw; (try dsimp only at hSw); go_simp; try with_reducible rfl)
              simp only [Act.put, List.setIfInBounds_toArray, List.set_cons_zero, List.set_cons_succ]
              refine take_put (i := 5) (d := 71) (oi := _) (v := ?va5) rfl rfl (by kernel_rfl) (by kernel_rfl) (by kernel_rfl) (fun _ _ _ h => h) (Or.inl ⟨by rfl, ?ya5⟩) hHeld ?ra5
              case ya5 => (intro w hSw; (try dsimp only at hSw); go_simp; try with_reducible rfl)
              simp only [Act.put, List.setIfInBounds_toArray, List.set_cons_zero, List.set_cons_succ]
              refine take_put (i := 6) (d := 72) (oi := _) (v := ?va6) rfl rfl (by kernel_rfl) (by kernel_rfl) (by kernel_rfl) (fun _ _ _ h => h) (Or.inl ⟨by rfl, ?ya6⟩) hHeld ?ra6
              case ya6 => (intro w hSw; (try dsimp only at hSw); go_simp; try with_reducible rfl)
              simp only [Act.put, List.setIfInBounds_toArray, List.set_cons_zero, List.set_cons_succ]
              refine take_put (i := 7) (d := 73) (oi := _) (v := ?va7) rfl rfl (by kernel_rfl) (by kernel_rfl) (by kernel_rfl) (fun _ _ _ h => h) (Or.inl ⟨by rfl, ?ya7⟩) hHeld ?ra7
              case ya7 => (intro w hSw; (try dsimp only at hSw); go_simp; try with_reducible rfl)
              simp only [Act.put, List.setIfInBounds_toArray, List.set_cons_zero, List.set_cons_succ]
              refine take_put (i := 8) (d := 74) (oi := _) (v := ?va8) rfl rfl (by kernel_rfl) (by kernel_rfl) (by kernel_rfl) (fun _ _ _ h => h) (Or.inl ⟨by rfl, ?ya8⟩) hHeld ?ra8
              case ya8 => (intro w hSw; (try dsimp only at hSw); go_simp; try with_reducible rfl)
              simp only [Act.put, List.setIfInBounds_toArray, List.set_cons_zero, List.set_cons_succ]
              refine wpAnyH_ready (rs := [4, 9]) (by kernel_rfl) (by simp) (AllReadyH.cons (o := _) rfl (fun K hK => ?_) (AllReadyH.cons (o := _) rfl (fun K hK => ?_) (AllReadyH.nil)))
              · refine step_app6n rfl _ _ rfl _ L1 rfl rfl (HCP.out _ hHeld) (by have := HLN.out.1; omega) ?_
                intro v1 w7 ho1 hb1
                have H0 := Lib.hid hHeld.size
                refine hK.out _ _ (bT hHeld hb1) (fun hHeld => ?_)
                clear hK K
                simp only [Act.put, List.setIfInBounds_toArray]
                refine wpAnyH_ready (rs := [9]) (by kernel_rfl) (by simp) (AllReadyH.cons (o := _) rfl (fun K hK => ?_) (AllReadyH.nil))
                go_simp
                (try dsimp only)
                refine hK.out _ _ (bT hHeld (bA1 _ _)) (fun hHeld => ?_)
                clear hK K
                refine wpAnyH_ready (rs := [10]) (by kernel_rfl) (by simp) (AllReadyH.cons (o := _) rfl (fun K hK => ?_) (AllReadyH.nil))
                refine step_app6 rfl _ _ rfl wr.heap.size v1 _ L1 [⟨xk, xc, xs, xst, .slice xa xb xc2, .slice xd xe xf⟩] rfl rfl ((ho1.on (bA1 _ _)).mono H0.out) (Cs.lit6 _ _ HONE.out) (by have := HLN.out.1; simp; omega) hHeld.size ?_
                intro v2 w9 ho2 hb2
                refine hK.out _ _ (hHeld.trans hb2) (fun hHeld => ?_)
                clear hK K
                simp only [Act.put, List.setIfInBounds_toArray]
                refine take_put (i := 11) (d := 13) (oi := _) (v := ?vap11) rfl rfl (by kernel_rfl) (by kernel_rfl) (by kernel_rfl) (fun _ _ _ h => h) (Or.inl ⟨by rfl, ?yap11⟩) hHeld ?rap11
                case yap11 => (intro w hSw; (try dsimp only at hSw); go_simp; try with_reducible rfl)
                simp only [Act.put]
                refine wpAnyH_done (by kernel_rfl) ?_ _
                have HH := Lib.hid hHeld
                have HO2 := Lib.hid ho2
                clear hHeld ho2 a0 a1 a2 a3 a4 a5
                go_wp2_with (first | (at_builtin; refine wpList_app6 rfl _ _ rfl wr.heap.size v2 _ (L1 ++ [⟨xk, xc, xs, xst, .slice xa xb xc2, .slice xd xe xf⟩]) L2 rfl rfl HO2.out (HCS.out _ HH.out) (by have := HLN.out; simp; omega) HH.out.size ?_; intro v3 w10 ho3 hb3) | go_in)
                have HN : Hid (Gr w0 ts (i + 1) v3 (out.take 0 ++ ((⟨xk, xc, xs, xst, .slice xa xb xc2, .slice xd xe xf⟩ : Six), t1) :: out.drop 0) w10) := Lib.hid (by
                  obtain ⟨_, _, e1, e2⟩ := HLN.out
                  subst e1 e2
                  exact HG.out.grow HU.out HV1.out HP.out (bT HG.out.bel (HH.out.trans hb3)) (ho3.mono HG.out.bel.size))
                clear ho3 hb3 HO2 HH HCP HCS HLN
                go_roundw
                case rel => exact ⟨i + 1, _, by go_num, by omega, HN⟩
                case measure => simp [intOf]; omega
              · go_simp
                (try dsimp only)
                refine hK.out _ _ (bT hHeld (bA1 _ _)) (fun hHeld => ?_)
                clear hK K
                refine wpAnyH_ready (rs := [4]) (by kernel_rfl) (by simp) (AllReadyH.cons (o := _) rfl (fun K hK => ?_) (AllReadyH.nil))
                refine step_app6n rfl _ _ rfl _ L1 rfl rfl (HCP.out _ hHeld) (by have := HLN.out.1; omega) ?_
                intro v1 w7 ho1 hb1
                have H0 := Lib.hid hHeld.size
                have hcl := ((Cs.lit6 _ _ HONE.out).on (Below.refl _ _).drew).on hb1
                refine hK.out _ _ (bT hHeld hb1) (fun hHeld => ?_)
                clear hK K
                simp only [Act.put, List.setIfInBounds_toArray]
                refine wpAnyH_ready (rs := [10]) (by kernel_rfl) (by simp) (AllReadyH.cons (o := _) rfl (fun K hK => ?_) (AllReadyH.nil))
                refine step_app6 rfl _ _ rfl wr.heap.size v1 _ L1 [⟨xk, xc, xs, xst, .slice xa xb xc2, .slice xd xe xf⟩] rfl rfl (ho1.mono H0.out) (hcl) (by have := HLN.out.1; simp; omega) hHeld.size ?_
                intro v2 w9 ho2 hb2
                refine hK.out _ _ (hHeld.trans hb2) (fun hHeld => ?_)
                clear hK K
                simp only [Act.put]
                refine take_put (i := 11) (d := 13) (oi := _) (v := ?vaq11) rfl rfl (by kernel_rfl) (by kernel_rfl) (by kernel_rfl) (fun _ _ _ h => h) (Or.inl ⟨by rfl, ?yaq11⟩) hHeld ?raq11
                case yaq11 => (intro w hSw; (try dsimp only at hSw); go_simp; try with_reducible rfl)
                simp only [Act.put]
                refine wpAnyH_done (by kernel_rfl) ?_ _
                have HH := Lib.hid hHeld
                have HO2 := Lib.hid ho2
                clear hHeld ho2 a0 a1 a2 a3 a4 a5
                go_wp2_with (first | (at_builtin; refine wpList_app6 rfl _ _ rfl wr.heap.size v2 _ (L1 ++ [⟨xk, xc, xs, xst, .slice xa xb xc2, .slice xd xe xf⟩]) L2 rfl rfl HO2.out (HCS.out _ HH.out) (by have := HLN.out; simp; omega) HH.out.size ?_; intro v3 w10 ho3 hb3) | go_in)
                have HN : Hid (Gr w0 ts (i + 1) v3 (out.take 0 ++ ((⟨xk, xc, xs, xst, .slice xa xb xc2, .slice xd xe xf⟩ : Six), t1) :: out.drop 0) w10) := Lib.hid (by
                  obtain ⟨_, _, e1, e2⟩ := HLN.out
                  subst e1 e2
                  exact HG.out.grow HU.out HV1.out HP.out (bT HG.out.bel (HH.out.trans hb3)) (ho3.mono HG.out.bel.size))
                clear ho3 hb3 HO2 HH HCP HCS HLN
                go_roundw
                case rel => exact ⟨i + 1, _, by go_num, by omega, HN⟩
                case measure => simp [intOf]; omega
          · go_wp2
            go_loopw [10] (fun kv wr => ∃ k : Nat, kv = .int .i64 (k : Nat) ∧ k ≤ i ∧ Hid (Gr w0 ts i (.slice (some ⟨q, 0, none⟩) i cap2) out wr) ∧ Hid (∀ p b, k ≤ p → (out.map Prod.snd)[p]? = some b → 0 < (cmpR b t1).1)) (fun kv _ => (intOf kv).toNat)
            case atStart => exact ⟨i, rfl, Nat.le_refl _, HG, Lib.hid (fun p b h hb => by have := (List.getElem?_eq_some_iff.1 hb).1; rw [List.length_map] at this; omega)⟩
            case round =>
              clear HG
              obtain ⟨k, rfl, hk, HG, HC⟩ := hrel
              by_cases hk0 : 0 < k
              · obtain ⟨j, rfl⟩ : ∃ j, k = j + 1 := ⟨k - 1, by omega⟩
                obtain ⟨⟨y0, t0⟩, hp0⟩ : ∃ x, out[j]? = some x := ⟨_, List.getElem?_eq_getElem (by omega)⟩
                obtain ⟨n0, hv0⟩ := HG.out.vt _ (List.mem_of_getElem? hp0)
                simp only at hv0
                have hcm := fun wx (h : Below wr.heap.size wr wx) => rcompare_any n0 n1 y0 _ t0 t1 wx (VT.on (bT HG.out.bel h) n0 hv0) (VT.on (bT HG.out.bel h) n1 HV1.out)
                obtain ⟨c, hc⟩ : ∃ c, (cmpR t0 t1).1 = c := ⟨_, rfl⟩
                obtain ⟨b, hb⟩ : ∃ b, (cmpR t0 t1).2 = b := ⟨_, rfl⟩
                have HSN : Hid ((out.map Prod.snd)[j]? = some t0) := Lib.hid (by rw [List.getElem?_map, hp0]; rfl)
                have HCC := Lib.hid hc
                rw [hc, hb] at hcm
                have hat2 : ∀ wx, Below wr.heap.size wr wx → At6 wx q (j * 6) y0 := fun wx h => HG.out.at6 hp0 h
                clear hc hb hp0 hv0
                obtain ⟨yk, yc, ys, yst, yi, yv⟩ := y0
                unfold Six.val vV at hcm
                simp only at hcm
                have HCM := Lib.hid hcm
                clear hcm
                have hat1 : ∀ wx, Below wr.heap.size wr wx → At6 wx g (o + i * 6) ⟨xk, xc, xs, xst, .slice xa xb xc2, .slice xd xe xf⟩ := fun wx h => HA1.out wx (bT HG.out.bel h)
                have a0 := fun wx h => (hat1 wx h).1
                have a1 := fun wx h => (hat1 wx h).2.1
                have a2 := fun wx h => (hat1 wx h).2.2.1
                have a3 := fun wx h => (hat1 wx h).2.2.2.1
                have a4 := fun wx h => (hat1 wx h).2.2.2.2.1
                have a5 := fun wx h => (hat1 wx h).2.2.2.2.2
                simp only at a0 a1 a2 a3 a4 a5
                have e0 := fun wx h => (hat2 wx h).1
                have e1 := fun wx h => (hat2 wx h).2.1
                have e2 := fun wx h => (hat2 wx h).2.2.1
                have e3 := fun wx h => (hat2 wx h).2.2.2.1
                have e4 := fun wx h => (hat2 wx h).2.2.2.2.1
                have e5 := fun wx h => (hat2 wx h).2.2.2.2.2
                simp only at e0 e1 e2 e3 e4 e5
                clear hat1 hat2
                have j1 : (0 : Int) < (j : Int) + 1 := by omega
                have j2 : (j : Int) < (i : Int) := by omega
                have j4 : j < i := by omega
                have j3 : ((j : Int) + 1 - 1) = (j : Int) := by omega
                have j10 : IntKind.i64.wrap (j : Int) = (j : Int) := IntWalk.i64_in _ (by omega)
                go_wp2
                refine wp_region_held_drew (S := Below wr.heap.size wr) (by kernel_rfl) (Below.refl wr.heap.size wr).drew (fun hHeld => ?_)
                refine take_put (i := 0) (d := 50) (oi := _) (v := ?vy0) rfl rfl (by kernel_rfl) (by kernel_rfl) (by kernel_rfl) (fun _ _ _ h => h) (Or.inl ⟨by rfl, ?yy0⟩) hHeld ?ry0
                case yy0 => (intro w hSw; (try dsimp only at hSw); go_simp; try with_reducible rfl)
                simp only [Act.put, List.setIfInBounds_toArray, List.set_cons_zero, List.set_cons_succ]
                refine take_put (i := 1) (d := 51) (oi := _) (v := ?vy1) rfl rfl (by kernel_rfl) (by kernel_rfl) (by kernel_rfl) (fun _ _ _ h => h) (Or.inl ⟨by rfl, ?yy1⟩) hHeld ?ry1
                case yy1 => (intro w hSw; (try dsimp only at hSw); go_simp; try with_reducible rfl)
                simp only [Act.put, List.setIfInBounds_toArray, List.set_cons_zero, List.set_cons_succ]
                refine take_put (i := 2) (d := 52) (oi := _) (v := ?vy2) rfl rfl (by kernel_rfl) (by kernel_rfl) (by kernel_rfl) (fun _ _ _ h => h) (Or.inl ⟨by rfl, ?yy2⟩) hHeld ?ry2
                case yy2 => (intro w hSw; (try dsimp only at hSw); go_simp; try with_reducible rfl)
                simp only [Act.put, List.setIfInBounds_toArray, List.set_cons_zero, List.set_cons_succ]
                refine take_put (i := 3) (d := 53) (oi := _) (v := ?vy3) rfl rfl (by kernel_rfl) (by kernel_rfl) (by kernel_rfl) (fun _ _ _ h => h) (Or.inl ⟨by rfl, ?yy3⟩) hHeld ?ry3
                case yy3 => (intro w hSw; (try dsimp only at hSw); go_simp; try with_reducible rfl)
                simp only [Act.put, List.setIfInBounds_toArray, List.set_cons_zero, List.set_cons_succ]
                refine take_put (i := 4) (d := 54) (oi := _) (v := ?vy4) rfl rfl (by kernel_rfl) (by kernel_rfl) (by kernel_rfl) (fun _ _ _ h => h) (Or.inl ⟨by rfl, ?yy4⟩) hHeld ?ry4
                case yy4 => (intro w hSw; (try dsimp only at hSw); go_simp; try with_reducible rfl)
                simp only [Act.put, List.setIfInBounds_toArray, List.set_cons_zero, List.set_cons_succ]
                refine take_put (i := 5) (d := 55) (oi := _) (v := ?vy5) rfl rfl (by kernel_rfl) (by kernel_rfl) (by kernel_rfl) (fun _ _ _ h => h) (Or.inl ⟨by rfl, ?yy5⟩) hHeld ?ry5
                case yy5 => (intro w hSw; (try dsimp only at hSw); go_simp; try with_reducible rfl)
                simp only [Act.put, List.setIfInBounds_toArray, List.set_cons_zero, List.set_cons_succ]
                refine take_put (i := 6) (d := 56) (oi := _) (v := ?vy6) rfl rfl (by kernel_rfl) (by kernel_rfl) (by kernel_rfl) (fun _ _ _ h => h) (Or.inl ⟨by rfl, ?yy6⟩) hHeld ?ry6
                case yy6 => (intro w hSw; (try dsimp only at hSw); go_simp; try with_reducible rfl)
                simp only [Act.put, List.setIfInBounds_toArray, List.set_cons_zero, List.set_cons_succ]
                refine take_put (i := 7) (d := 57) (oi := _) (v := ?vy7) rfl rfl (by kernel_rfl) (by kernel_rfl) (by kernel_rfl) (fun _ _ _ h => h) (Or.inl ⟨by rfl, ?yy7⟩) hHeld ?ry7
                case yy7 => (intro w hSw; (try dsimp only at hSw); go_simp; try with_reducible rfl)
                simp only [Act.put, List.setIfInBounds_toArray, List.set_cons_zero, List.set_cons_succ]
                refine take_put (i := 8) (d := 58) (oi := _) (v := ?vy8) rfl rfl (by kernel_rfl) (by kernel_rfl) (by kernel_rfl) (fun _ _ _ h => h) (Or.inl ⟨by rfl, ?yy8⟩) hHeld ?ry8
                case yy8 => (intro w hSw; (try dsimp only at hSw); go_simp; try with_reducible rfl)
                simp only [Act.put, List.setIfInBounds_toArray, List.set_cons_zero, List.set_cons_succ]
                refine wpAnyH_ready (rs := [9]) (by kernel_rfl) (by simp) (AllReadyH.cons (o := _) rfl (fun K hK => ?_) AllReadyH.nil)
                go_simp
                refine (HCM.out _ hHeld).mono ?_
                rintro e w6 ⟨rfl, b6⟩
                (try dsimp only)
                refine hK.out _ _ (bT hHeld b6) (fun hHeld => ?_)
                clear hK K
                refine take_put (i := 10) (d := 49) (oi := _) (v := ?vy10) rfl rfl (by kernel_rfl) (by kernel_rfl) (by kernel_rfl) (fun _ _ _ h => h) (Or.inl ⟨by rfl, ?yy10⟩) hHeld ?ry10
                case yy10 => (intro w hSw; (try dsimp only at hSw); go_simp; try with_reducible rfl)
                simp only [Act.put, List.setIfInBounds_toArray, List.set_cons_zero, List.set_cons_succ]
                refine take_put (i := 11) (d := 60) (oi := _) (v := ?vy11) rfl rfl (by kernel_rfl) (by kernel_rfl) (by kernel_rfl) (fun _ _ _ h => h) (Or.inl ⟨by rfl, ?yy11⟩) hHeld ?ry11
                case yy11 => (intro w hSw; (try dsimp only at hSw); go_simp; try with_reducible rfl)
                simp only [Act.put, List.setIfInBounds_toArray, List.set_cons_zero, List.set_cons_succ]
                refine take_put (i := 12) (d := 61) (oi := _) (v := ?vy12) rfl rfl (by kernel_rfl) (by kernel_rfl) (by kernel_rfl) (fun _ _ _ h => h) (Or.inl ⟨by rfl, ?yy12⟩) hHeld ?ry12
                case yy12 => (intro w hSw; (try dsimp only at hSw); go_simp; try with_reducible rfl)
                simp only [Act.put, List.setIfInBounds_toArray, List.set_cons_zero, List.set_cons_succ]
                refine take_put (i := 13) (d := 11) (oi := _) (v := ?vy13) rfl rfl (by kernel_rfl) (by kernel_rfl) (by kernel_rfl) (fun _ _ _ h => h) (Or.inl ⟨by rfl, ?yy13⟩) hHeld ?ry13
                case yy13 => (intro w hSw; (try dsimp only at hSw); go_simp; try with_reducible rfl)
                simp only [Act.put, List.setIfInBounds_toArray, List.set_cons_zero, List.set_cons_succ]
                refine take_put (i := 14) (d := 12) (oi := _) (v := ?vy14) rfl rfl (by kernel_rfl) (by kernel_rfl) (by kernel_rfl) (fun _ _ _ h => h) (Or.inl ⟨by rfl, ?yy14⟩) hHeld ?ry14
                case yy14 => (intro w hSw; (try dsimp only at hSw); go_simp; try with_reducible rfl)
                simp only [Act.put, List.setIfInBounds_toArray, List.set_cons_zero, List.set_cons_succ]
                refine wpAnyH_done (by kernel_rfl) ?_ _
                have HG6 : Hid (Gr w0 ts i (.slice (some ⟨q, 0, none⟩) i cap2) out w6) := Lib.hid (HG.out.on hHeld)
                clear hHeld b6 HCM a0 a1 a2 a3 a4 a5 e0 e1 e2 e3 e4 e5 HG j1 j3 j10
                by_cases hc0 : c ≤ 0
                · have HP : Hid (j + 1 = pos (out.map Prod.snd) t1 out.length) := Lib.hid (pos_is HC.out (Or.inr ⟨t0, by rw [Nat.add_sub_cancel]; exact HSN.out, by rw [HCC.out]; exact hc0⟩) _ (by omega)).symm
                  have k1 : ((j : Int) + 1) ≤ (cap2 : Int) := by omega
                  have k2 : j + 1 ≤ cap2 := by omega
                  have k3 : ((j : Int) + 1) ≤ (i : Int) := by omega
                  have k4 : j + 1 ≤ i := by omega
                  have k5 : ((j : Int) + 1).toNat = j + 1 := by omega
                  have k6 : (0 : Int) ≤ (j : Int) + 1 := by omega
                  have k7 : (i : Int) ≤ (cap2 : Int) := by omega
                  clear HC HSN HCC
                  obtain ⟨L1, hL1⟩ : ∃ L, (out.map Prod.fst).take (j + 1) = L := ⟨_, rfl⟩
                  obtain ⟨L2, hL2⟩ : ∃ L, (out.map Prod.fst).drop (j + 1) = L := ⟨_, rfl⟩
                  have hl1 : L1.length = (j + 1) := by rw [← hL1, List.length_take, List.length_map]; try omega
                  have hl2 : L2.length = i - (j + 1) := by rw [← hL2, List.length_drop, List.length_map]; try omega
                  have HCP : Hid (∀ wx, Below w6.heap.size w6 wx → Cs 6 wx (.slice (some ⟨q, 0, none⟩) (j + 1) cap2) L1.length (L1.flatMap Six.cells)) := Lib.hid (fun wx h => by
                    have h1 := HG6.out.own.cs HG6.out.one
                    rw [List.length_map, hol] at h1
                    have h2 := h1.pre (i := (j + 1)) (by omega) (fun h => by cases h)
                    rw [flat_take, hL1] at h2
                    rw [hl1]
                    exact h2.on h)
                  have HCS : Hid (∀ wx, Below w6.heap.size w6 wx → Cs 6 wx (.slice (if cap2 = j + 1 then some ⟨q, 0, none⟩ else some ⟨q, (j + 1) * 6, none⟩) (i - (j + 1)) (cap2 - (j + 1))) L2.length (L2.flatMap Six.cells)) := Lib.hid (fun wx h => by
                    rw [hl2]
                    by_cases e : cap2 = j + 1
                    · have h3 : i - (j + 1) = 0 := by omega
                      have h4 : cap2 - (j + 1) = 0 := by omega
                      have h5 : L2 = [] := List.length_eq_zero_iff.1 (by omega)
                      rw [if_pos e, h3, h4, h5]
                      exact Cs.zero _ _ _
                    · rw [if_neg e]
                      have h1 := HG6.out.own.cs HG6.out.one
                      rw [List.length_map, hol] at h1
                      have h2 := h1.suf (i := j + 1) (by omega)
                      rw [flat_drop, hL2, add_at, Nat.zero_add] at h2
                      exact h2.on h)
                  have hat1 : ∀ wx, Below w6.heap.size w6 wx → At6 wx g (o + i * 6) ⟨xk, xc, xs, xst, .slice xa xb xc2, .slice xd xe xf⟩ := fun wx h => HA1.out wx (bT HG6.out.bel h)
                  have a0 := fun wx h => (hat1 wx h).1
                  have a1 := fun wx h => (hat1 wx h).2.1
                  have a2 := fun wx h => (hat1 wx h).2.2.1
                  have a3 := fun wx h => (hat1 wx h).2.2.2.1
                  have a4 := fun wx h => (hat1 wx h).2.2.2.2.1
                  have a5 := fun wx h => (hat1 wx h).2.2.2.2.2
                  simp only at a0 a1 a2 a3 a4 a5
                  clear hat1
                  have HLN := Lib.hid (And.intro hl1 (And.intro hl2 (And.intro hL1 hL2)))
                  clear hl1 hl2 hL1 hL2
                  go_wp2
                  refine wp_region_held_drew (S := Below w6.heap.size w6) (by kernel_rfl) (Below.refl w6.heap.size w6).drew (fun hHeld => ?_)
                  refine take_put (i := 0) (d := 66) (oi := _) (v := ?vb0) rfl rfl (by kernel_rfl) (by kernel_rfl) (by kernel_rfl) (fun _ _ _ h => h) (Or.inl ⟨by rfl, ?yb0⟩) hHeld ?rb0
                  case yb0 => (intro w hSw; (try dsimp only at hSw); go_simp; try with_reducible rfl)
                  simp only [Act.put, List.setIfInBounds_toArray, List.set_cons_zero, List.set_cons_succ]
                  refine take_put (i := 1) (d := 67) (oi := _) (v := ?vb1) rfl rfl (by kernel_rfl) (by kernel_rfl) (by kernel_rfl) (fun _ _ _ h => h) (Or.inl ⟨by rfl, ?yb1⟩) hHeld ?rb1
                  case yb1 => (intro w hSw; (try dsimp only at hSw); go_simp; try with_reducible rfl)
                  simp only [Act.put, List.setIfInBounds_toArray, List.set_cons_zero, List.set_cons_succ]
                  refine take_put (i := 2) (d := 68) (oi := _) (v := ?vb2) rfl rfl (by kernel_rfl) (by kernel_rfl) (by kernel_rfl) (fun _ _ _ h => h) (Or.inl ⟨by rfl, ?yb2⟩) hHeld ?rb2
                  case yb2 => (intro w hSw; (try dsimp only at hSw); go_simp; try with_reducible rfl)
                  simp only [Act.put, List.setIfInBounds_toArray, List.set_cons_zero, List.set_cons_succ]
                  refine take_put (i := 3) (d := 69) (oi := _) (v := ?vb3) rfl rfl (by kernel_rfl) (by kernel_rfl) (by kernel_rfl) (fun _ _ _ h => h) (Or.inl ⟨by rfl, ?yb3⟩) hHeld ?rb3
                  case yb3 => (intro w hSw; (try dsimp only at hSw); go_simp; try with_reducible rfl)
                  simp only [Act.put, List.setIfInBounds_toArray, List.set_cons_zero, List.set_cons_succ]
                  refine take_put (i := 5) (d := 71) (oi := _) (v := ?vb5) rfl rfl (by kernel_rfl) (by kernel_rfl) (by kernel_rfl) (fun _ _ _ h => h) (Or.inl ⟨by rfl, ?yb5⟩) hHeld ?rb5
                  case yb5 => (intro w hSw; (try dsimp only at hSw); go_simp; try with_reducible rfl)
                  simp only [Act.put, List.setIfInBounds_toArray, List.set_cons_zero, List.set_cons_succ]
                  refine take_put (i := 6) (d := 72) (oi := _) (v := ?vb6) rfl rfl (by kernel_rfl) (by kernel_rfl) (by kernel_rfl) (fun _ _ _ h => h) (Or.inl ⟨by rfl, ?yb6⟩) hHeld ?rb6
                  case yb6 => (intro w hSw; (try dsimp only at hSw); go_simp; try with_reducible rfl)
                  simp only [Act.put, List.setIfInBounds_toArray, List.set_cons_zero, List.set_cons_succ]
                  refine take_put (i := 7) (d := 73) (oi := _) (v := ?vb7) rfl rfl (by kernel_rfl) (by kernel_rfl) (by kernel_rfl) (fun _ _ _ h => h) (Or.inl ⟨by rfl, ?yb7⟩) hHeld ?rb7
                  case yb7 => (intro w hSw; (try dsimp only at hSw); go_simp; try with_reducible rfl)
                  simp only [Act.put, List.setIfInBounds_toArray, List.set_cons_zero, List.set_cons_succ]
                  refine take_put (i := 8) (d := 74) (oi := _) (v := ?vb8) rfl rfl (by kernel_rfl) (by kernel_rfl) (by kernel_rfl) (fun _ _ _ h => h) (Or.inl ⟨by rfl, ?yb8⟩) hHeld ?rb8
                  case yb8 => (intro w hSw; (try dsimp only at hSw); go_simp; try with_reducible rfl)
                  simp only [Act.put, List.setIfInBounds_toArray, List.set_cons_zero, List.set_cons_succ]
                  refine wpAnyH_ready (rs := [4, 9]) (by kernel_rfl) (by simp) (AllReadyH.cons (o := _) rfl (fun K hK => ?_) (AllReadyH.cons (o := _) rfl (fun K hK => ?_) (AllReadyH.nil)))
                  · refine step_app6n rfl _ _ rfl _ L1 rfl rfl (HCP.out _ hHeld) (by have := HLN.out.1; omega) ?_
                    intro v1 w7 ho1 hb1
                    have H0 := Lib.hid hHeld.size
                    refine hK.out _ _ (bT hHeld hb1) (fun hHeld => ?_)
                    clear hK K
                    simp only [Act.put, List.setIfInBounds_toArray]
                    refine wpAnyH_ready (rs := [9]) (by kernel_rfl) (by simp) (AllReadyH.cons (o := _) rfl (fun K hK => ?_) (AllReadyH.nil))
                    go_simp
                    (try dsimp only)
                    refine hK.out _ _ (bT hHeld (bA1 _ _)) (fun hHeld => ?_)
                    clear hK K
                    refine wpAnyH_ready (rs := [10]) (by kernel_rfl) (by simp) (AllReadyH.cons (o := _) rfl (fun K hK => ?_) (AllReadyH.nil))
                    refine step_app6 rfl _ _ rfl w6.heap.size v1 _ L1 [⟨xk, xc, xs, xst, .slice xa xb xc2, .slice xd xe xf⟩] rfl rfl ((ho1.on (bA1 _ _)).mono H0.out) (Cs.lit6 _ _ HONE.out) (by have := HLN.out.1; simp; omega) hHeld.size ?_
                    intro v2 w9 ho2 hb2
                    refine hK.out _ _ (hHeld.trans hb2) (fun hHeld => ?_)
                    clear hK K
                    simp only [Act.put, List.setIfInBounds_toArray]
                    refine take_put (i := 11) (d := 13) (oi := _) (v := ?vbp11) rfl rfl (by kernel_rfl) (by kernel_rfl) (by kernel_rfl) (fun _ _ _ h => h) (Or.inl ⟨by rfl, ?ybp11⟩) hHeld ?rbp11
                    case ybp11 => (intro w hSw; (try dsimp only at hSw); go_simp; try with_reducible rfl)
                    simp only [Act.put]
                    refine wpAnyH_done (by kernel_rfl) ?_ _
                    have HH := Lib.hid hHeld
                    have HO2 := Lib.hid ho2
                    clear hHeld ho2 a0 a1 a2 a3 a4 a5
                    go_wp2_with (first | (at_builtin; refine wpList_app6 rfl _ _ rfl w6.heap.size v2 _ (L1 ++ [⟨xk, xc, xs, xst, .slice xa xb xc2, .slice xd xe xf⟩]) L2 rfl rfl HO2.out (HCS.out _ HH.out) (by have := HLN.out; simp; omega) HH.out.size ?_; intro v3 w10 ho3 hb3) | go_in)
                    have HN : Hid (Gr w0 ts (i + 1) v3 (out.take (j + 1) ++ ((⟨xk, xc, xs, xst, .slice xa xb xc2, .slice xd xe xf⟩ : Six), t1) :: out.drop (j + 1)) w10) := Lib.hid (by
                      obtain ⟨_, _, e1, e2⟩ := HLN.out
                      subst e1 e2
                      exact HG6.out.grow HU.out HV1.out HP.out (bT HG6.out.bel (HH.out.trans hb3)) (ho3.mono HG6.out.bel.size))
                    clear ho3 hb3 HO2 HH HCP HCS HLN
                    go_roundw
                    case rel => exact ⟨i + 1, _, by go_num, by omega, HN⟩
                    case measure => simp [intOf]; omega
                  · go_simp
                    (try dsimp only)
                    refine hK.out _ _ (bT hHeld (bA1 _ _)) (fun hHeld => ?_)
                    clear hK K
                    refine wpAnyH_ready (rs := [4]) (by kernel_rfl) (by simp) (AllReadyH.cons (o := _) rfl (fun K hK => ?_) (AllReadyH.nil))
                    refine step_app6n rfl _ _ rfl _ L1 rfl rfl (HCP.out _ hHeld) (by have := HLN.out.1; omega) ?_
                    intro v1 w7 ho1 hb1
                    have H0 := Lib.hid hHeld.size
                    have hcl := ((Cs.lit6 _ _ HONE.out).on (Below.refl _ _).drew).on hb1
                    refine hK.out _ _ (bT hHeld hb1) (fun hHeld => ?_)
                    clear hK K
                    simp only [Act.put, List.setIfInBounds_toArray]
                    refine wpAnyH_ready (rs := [10]) (by kernel_rfl) (by simp) (AllReadyH.cons (o := _) rfl (fun K hK => ?_) (AllReadyH.nil))
                    refine step_app6 rfl _ _ rfl w6.heap.size v1 _ L1 [⟨xk, xc, xs, xst, .slice xa xb xc2, .slice xd xe xf⟩] rfl rfl (ho1.mono H0.out) (hcl) (by have := HLN.out.1; simp; omega) hHeld.size ?_
                    intro v2 w9 ho2 hb2
                    refine hK.out _ _ (hHeld.trans hb2) (fun hHeld => ?_)
                    clear hK K
                    simp only [Act.put]
                    refine take_put (i := 11) (d := 13) (oi := _) (v := ?vbq11) rfl rfl (by kernel_rfl) (by kernel_rfl) (by kernel_rfl) (fun _ _ _ h => h) (Or.inl ⟨by rfl, ?ybq11⟩) hHeld ?rbq11
                    case ybq11 => (intro w hSw; (try dsimp only at hSw); go_simp; try with_reducible rfl)
                    simp only [Act.put]
                    refine wpAnyH_done (by kernel_rfl) ?_ _
                    have HH := Lib.hid hHeld
                    have HO2 := Lib.hid ho2
                    clear hHeld ho2 a0 a1 a2 a3 a4 a5
                    go_wp2_with (first | (at_builtin; refine wpList_app6 rfl _ _ rfl w6.heap.size v2 _ (L1 ++ [⟨xk, xc, xs, xst, .slice xa xb xc2, .slice xd xe xf⟩]) L2 rfl rfl HO2.out (HCS.out _ HH.out) (by have := HLN.out; simp; omega) HH.out.size ?_; intro v3 w10 ho3 hb3) | go_in)
                    have HN : Hid (Gr w0 ts (i + 1) v3 (out.take (j + 1) ++ ((⟨xk, xc, xs, xst, .slice xa xb xc2, .slice xd xe xf⟩ : Six), t1) :: out.drop (j + 1)) w10) := Lib.hid (by
                      obtain ⟨_, _, e1, e2⟩ := HLN.out
                      subst e1 e2
                      exact HG6.out.grow HU.out HV1.out HP.out (bT HG6.out.bel (HH.out.trans hb3)) (ho3.mono HG6.out.bel.size))
                    clear ho3 hb3 HO2 HH HCP HCS HLN
                    go_roundw
                    case rel => exact ⟨i + 1, _, by go_num, by omega, HN⟩
                    case measure => simp [intOf]; omega
                · have HC' : Hid (∀ p b, j ≤ p → (out.map Prod.snd)[p]? = some b → 0 < (cmpR b t1).1) := Lib.hid (fun p b' hp h => by
                    by_cases e : p = j
                    · subst e
                      rw [HSN.out] at h
                      obtain rfl := Option.some.inj h
                      rw [HCC.out]
                      omega
                    · exact HC.out p b' (by omega) h)
                  clear HC HSN HCC
                  have j3 : ((j : Int) + 1 - 1) = (j : Int) := by omega
                  go_wp2
                  go_roundw
                  case rel => exact ⟨j, by go_num, by omega, HG6, HC'⟩
                  case measure => simp [intOf]
              · have HP : Hid (k = pos (out.map Prod.snd) t1 out.length) := Lib.hid (pos_is HC.out (Or.inl (by omega)) _ (by omega)).symm
                have k0 : ¬ (0 : Int) < (k : Int) := by omega
                have k1 : (k : Int) ≤ (cap2 : Int) := by omega
                have k2 : k ≤ cap2 := by omega
                have k3 : (k : Int) ≤ (i : Int) := by omega
                have k7 : (i : Int) ≤ (cap2 : Int) := by omega
                clear HC
                obtain ⟨L1, hL1⟩ : ∃ L, (out.map Prod.fst).take k = L := ⟨_, rfl⟩
                obtain ⟨L2, hL2⟩ : ∃ L, (out.map Prod.fst).drop k = L := ⟨_, rfl⟩
                have hl1 : L1.length = k := by rw [← hL1, List.length_take, List.length_map]; try omega
                have hl2 : L2.length = i - k := by rw [← hL2, List.length_drop, List.length_map]; try omega
                have HCP : Hid (∀ wx, Below wr.heap.size wr wx → Cs 6 wx (.slice (some ⟨q, 0, none⟩) k cap2) L1.length (L1.flatMap Six.cells)) := Lib.hid (fun wx h => by
                  have h1 := HG.out.own.cs HG.out.one
                  rw [List.length_map, hol] at h1
                  have h2 := h1.pre (i := k) (by omega) (fun h => by cases h)
                  rw [flat_take, hL1] at h2
                  rw [hl1]
                  exact h2.on h)
                have HCS : Hid (∀ wx, Below wr.heap.size wr wx → Cs 6 wx (.slice (if cap2 = k then some ⟨q, 0, none⟩ else some ⟨q, k * 6, none⟩) (i - k) (cap2 - k)) L2.length (L2.flatMap Six.cells)) := Lib.hid (fun wx h => by
                  rw [hl2]
                  by_cases e : cap2 = k
                  · have h3 : i - (k) = 0 := by omega
                    have h4 : cap2 - (k) = 0 := by omega
                    have h5 : L2 = [] := List.length_eq_zero_iff.1 (by omega)
                    rw [if_pos e, h3, h4, h5]
                    exact Cs.zero _ _ _
                  · rw [if_neg e]
                    have h1 := HG.out.own.cs HG.out.one
                    rw [List.length_map, hol] at h1
                    have h2 := h1.suf (i := k) (by omega)
                    rw [flat_drop, hL2, add_at, Nat.zero_add] at h2
                    exact h2.on h)
                have hat1 : ∀ wx, Below wr.heap.size wr wx → At6 wx g (o + i * 6) ⟨xk, xc, xs, xst, .slice xa xb xc2, .slice xd xe xf⟩ := fun wx h => HA1.out wx (bT HG.out.bel h)
                have a0 := fun wx h => (hat1 wx h).1
                have a1 := fun wx h => (hat1 wx h).2.1
                have a2 := fun wx h => (hat1 wx h).2.2.1
                have a3 := fun wx h => (hat1 wx h).2.2.2.1
                have a4 := fun wx h => (hat1 wx h).2.2.2.2.1
                have a5 := fun wx h => (hat1 wx h).2.2.2.2.2
                simp only at a0 a1 a2 a3 a4 a5
                clear hat1
                have HLN := Lib.hid (And.intro hl1 (And.intro hl2 (And.intro hL1 hL2)))
                clear hl1 hl2 hL1 hL2
                go_wp2
                refine wp_region_held_drew (S := Below wr.heap.size wr) (by kernel_rfl) (Below.refl wr.heap.size wr).drew (fun hHeld => ?_)
                refine take_put (i := 0) (d := 66) (oi := _) (v := ?vc0) rfl rfl (by kernel_rfl) (by kernel_rfl) (by kernel_rfl) (fun _ _ _ h => h) (Or.inl ⟨by rfl, ?yc0⟩) hHeld ?rc0
                case yc0 => (intro w hSw; (try dsimp only at hSw); go_simp; try with_reducible rfl)
                simp only [Act.put, List.setIfInBounds_toArray, List.set_cons_zero, List.set_cons_succ]
                refine take_put (i := 1) (d := 67) (oi := _) (v := ?vc1) rfl rfl (by kernel_rfl) (by kernel_rfl) (by kernel_rfl) (fun _ _ _ h => h) (Or.inl ⟨by rfl, ?yc1⟩) hHeld ?rc1
                case yc1 => (intro w hSw; (try dsimp only at hSw); go_simp; try with_reducible rfl)
                simp only [Act.put, List.setIfInBounds_toArray, List.set_cons_zero, List.set_cons_succ]
                refine take_put (i := 2) (d := 68) (oi := _) (v := ?vc2) rfl rfl (by kernel_rfl) (by kernel_rfl) (by kernel_rfl) (fun _ _ _ h => h) (Or.inl ⟨by rfl, ?yc2⟩) hHeld ?rc2
                case yc2 => (intro w hSw; (try dsimp only at hSw); go_simp; try with_reducible rfl)
                simp only [Act.put, List.setIfInBounds_toArray, List.set_cons_zero, List.set_cons_succ]
                refine take_put (i := 3) (d := 69) (oi := _) (v := ?vc3) rfl rfl (by kernel_rfl) (by kernel_rfl) (by kernel_rfl) (fun _ _ _ h => h) (Or.inl ⟨by rfl, ?yc3⟩) hHeld ?rc3
                case yc3 => (intro w hSw; (try dsimp only at hSw); go_simp; try with_reducible rfl)
                simp only [Act.put, List.setIfInBounds_toArray, List.set_cons_zero, List.set_cons_succ]
                refine take_put (i := 5) (d := 71) (oi := _) (v := ?vc5) rfl rfl (by kernel_rfl) (by kernel_rfl) (by kernel_rfl) (fun _ _ _ h => h) (Or.inl ⟨by rfl, ?yc5⟩) hHeld ?rc5
                case yc5 => (intro w hSw; (try dsimp only at hSw); go_simp; try with_reducible rfl)
                simp only [Act.put, List.setIfInBounds_toArray, List.set_cons_zero, List.set_cons_succ]
                refine take_put (i := 6) (d := 72) (oi := _) (v := ?vc6) rfl rfl (by kernel_rfl) (by kernel_rfl) (by kernel_rfl) (fun _ _ _ h => h) (Or.inl ⟨by rfl, ?yc6⟩) hHeld ?rc6
                case yc6 => (intro w hSw; (try dsimp only at hSw); go_simp; try with_reducible rfl)
                simp only [Act.put, List.setIfInBounds_toArray, List.set_cons_zero, List.set_cons_succ]
                refine take_put (i := 7) (d := 73) (oi := _) (v := ?vc7) rfl rfl (by kernel_rfl) (by kernel_rfl) (by kernel_rfl) (fun _ _ _ h => h) (Or.inl ⟨by rfl, ?yc7⟩) hHeld ?rc7
                case yc7 => (intro w hSw; (try dsimp only at hSw); go_simp; try with_reducible rfl)
                simp only [Act.put, List.setIfInBounds_toArray, List.set_cons_zero, List.set_cons_succ]
                refine take_put (i := 8) (d := 74) (oi := _) (v := ?vc8) rfl rfl (by kernel_rfl) (by kernel_rfl) (by kernel_rfl) (fun _ _ _ h => h) (Or.inl ⟨by rfl, ?yc8⟩) hHeld ?rc8
                case yc8 => (intro w hSw; (try dsimp only at hSw); go_simp; try with_reducible rfl)
                simp only [Act.put, List.setIfInBounds_toArray, List.set_cons_zero, List.set_cons_succ]
                refine wpAnyH_ready (rs := [4, 9]) (by kernel_rfl) (by simp) (AllReadyH.cons (o := _) rfl (fun K hK => ?_) (AllReadyH.cons (o := _) rfl (fun K hK => ?_) (AllReadyH.nil)))
                · refine step_app6n rfl _ _ rfl _ L1 rfl rfl (HCP.out _ hHeld) (by have := HLN.out.1; omega) ?_
                  intro v1 w7 ho1 hb1
                  have H0 := Lib.hid hHeld.size
                  refine hK.out _ _ (bT hHeld hb1) (fun hHeld => ?_)
                  clear hK K
                  simp only [Act.put, List.setIfInBounds_toArray]
                  refine wpAnyH_ready (rs := [9]) (by kernel_rfl) (by simp) (AllReadyH.cons (o := _) rfl (fun K hK => ?_) (AllReadyH.nil))
                  go_simp
                  (try dsimp only)
                  refine hK.out _ _ (bT hHeld (bA1 _ _)) (fun hHeld => ?_)
                  clear hK K
                  refine wpAnyH_ready (rs := [10]) (by kernel_rfl) (by simp) (AllReadyH.cons (o := _) rfl (fun K hK => ?_) (AllReadyH.nil))
                  refine step_app6 rfl _ _ rfl wr.heap.size v1 _ L1 [⟨xk, xc, xs, xst, .slice xa xb xc2, .slice xd xe xf⟩] rfl rfl ((ho1.on (bA1 _ _)).mono H0.out) (Cs.lit6 _ _ HONE.out) (by have := HLN.out.1; simp; omega) hHeld.size ?_
                  intro v2 w9 ho2 hb2
                  refine hK.out _ _ (hHeld.trans hb2) (fun hHeld => ?_)
                  clear hK K
                  simp only [Act.put, List.setIfInBounds_toArray]
                  refine take_put (i := 11) (d := 13) (oi := _) (v := ?vcp11) rfl rfl (by kernel_rfl) (by kernel_rfl) (by kernel_rfl) (fun _ _ _ h => h) (Or.inl ⟨by rfl, ?ycp11⟩) hHeld ?rcp11
                  case ycp11 => (intro w hSw; (try dsimp only at hSw); go_simp; try with_reducible rfl)
                  simp only [Act.put]
                  refine wpAnyH_done (by kernel_rfl) ?_ _
                  have HH := Lib.hid hHeld
                  have HO2 := Lib.hid ho2
                  clear hHeld ho2 a0 a1 a2 a3 a4 a5
                  go_wp2_with (first | (at_builtin; refine wpList_app6 rfl _ _ rfl wr.heap.size v2 _ (L1 ++ [⟨xk, xc, xs, xst, .slice xa xb xc2, .slice xd xe xf⟩]) L2 rfl rfl HO2.out (HCS.out _ HH.out) (by have := HLN.out; simp; omega) HH.out.size ?_; intro v3 w10 ho3 hb3) | go_in)
                  have HN : Hid (Gr w0 ts (i + 1) v3 (out.take k ++ ((⟨xk, xc, xs, xst, .slice xa xb xc2, .slice xd xe xf⟩ : Six), t1) :: out.drop k) w10) := Lib.hid (by
                    obtain ⟨_, _, e1, e2⟩ := HLN.out
                    subst e1 e2
                    exact HG.out.grow HU.out HV1.out HP.out (bT HG.out.bel (HH.out.trans hb3)) (ho3.mono HG.out.bel.size))
                  clear ho3 hb3 HO2 HH HCP HCS HLN
                  go_roundw
                  case rel => exact ⟨i + 1, _, by go_num, by omega, HN⟩
                  case measure => simp [intOf]; omega
                · go_simp
                  (try dsimp only)
                  refine hK.out _ _ (bT hHeld (bA1 _ _)) (fun hHeld => ?_)
                  clear hK K
                  refine wpAnyH_ready (rs := [4]) (by kernel_rfl) (by simp) (AllReadyH.cons (o := _) rfl (fun K hK => ?_) (AllReadyH.nil))
                  refine step_app6n rfl _ _ rfl _ L1 rfl rfl (HCP.out _ hHeld) (by have := HLN.out.1; omega) ?_
                  intro v1 w7 ho1 hb1
                  have H0 := Lib.hid hHeld.size
                  have hcl := ((Cs.lit6 _ _ HONE.out).on (Below.refl _ _).drew).on hb1
                  refine hK.out _ _ (bT hHeld hb1) (fun hHeld => ?_)
                  clear hK K
                  simp only [Act.put, List.setIfInBounds_toArray]
                  refine wpAnyH_ready (rs := [10]) (by kernel_rfl) (by simp) (AllReadyH.cons (o := _) rfl (fun K hK => ?_) (AllReadyH.nil))
                  refine step_app6 rfl _ _ rfl wr.heap.size v1 _ L1 [⟨xk, xc, xs, xst, .slice xa xb xc2, .slice xd xe xf⟩] rfl rfl (ho1.mono H0.out) (hcl) (by have := HLN.out.1; simp; omega) hHeld.size ?_
                  intro v2 w9 ho2 hb2
                  refine hK.out _ _ (hHeld.trans hb2) (fun hHeld => ?_)
                  clear hK K
                  simp only [Act.put]
                  refine take_put (i := 11) (d := 13) (oi := _) (v := ?vcq11) rfl rfl (by kernel_rfl) (by kernel_rfl) (by kernel_rfl) (fun _ _ _ h => h) (Or.inl ⟨by rfl, ?ycq11⟩) hHeld ?rcq11
                  case ycq11 => (intro w hSw; (try dsimp only at hSw); go_simp; try with_reducible rfl)
                  simp only [Act.put]
                  refine wpAnyH_done (by kernel_rfl) ?_ _
                  have HH := Lib.hid hHeld
                  have HO2 := Lib.hid ho2
                  clear hHeld ho2 a0 a1 a2 a3 a4 a5
                  go_wp2_with (first | (at_builtin; refine wpList_app6 rfl _ _ rfl wr.heap.size v2 _ (L1 ++ [⟨xk, xc, xs, xst, .slice xa xb xc2, .slice xd xe xf⟩]) L2 rfl rfl HO2.out (HCS.out _ HH.out) (by have := HLN.out; simp; omega) HH.out.size ?_; intro v3 w10 ho3 hb3) | go_in)
                  have HN : Hid (Gr w0 ts (i + 1) v3 (out.take k ++ ((⟨xk, xc, xs, xst, .slice xa xb xc2, .slice xd xe xf⟩ : Six), t1) :: out.drop k) w10) := Lib.hid (by
                    obtain ⟨_, _, e1, e2⟩ := HLN.out
                    subst e1 e2
                    exact HG.out.grow HU.out HV1.out HP.out (bT HG.out.bel (HH.out.trans hb3)) (ho3.mono HG.out.bel.size))
                  clear ho3 hb3 HO2 HH HCP HCS HLN
                  go_roundw
                  case rel => exact ⟨i + 1, _, by go_num, by omega, HN⟩
                  case measure => simp [intOf]; omega
        · have i1 : ¬ (i : Int) < (l.length : Int) := by omega
          obtain ⟨a', n', c', rfl⟩ := (HG.out.own.vs HG.out.one).form'
          go_wp2
          go_ret2
          refine ⟨HG.out.bel, a', n', c', true, rfl, (fun h => by cases h), fun _ => ⟨HPW.out, out.map Prod.fst, HG.out.own.vs HG.out.one, by rw [List.length_map, hol]; have := HL.out; omega, fun j y z hy hz => ?_⟩⟩
          have e1 := HG.out.is
          rw [List.take_of_length_le (by have := HL.out; omega)] at e1
          rw [← e1, List.getElem?_map] at hz
          rw [List.getElem?_map] at hy
          obtain ⟨p, hp, rfl⟩ := Option.map_eq_some_iff.1 hy
          rw [hp] at hz
          obtain rfl := Option.some.inj hz
          exact HG.out.vt p (List.mem_of_getElem? hp)
end Od
end Go.Proofs.Ytkmfoclhhnhkdaa
namespace Go.Proofs.Ytkmfoclhhnhkdaa
open Go.RowKit
namespace Od
open _root_.Go.Proofs.Ytkmfoclhhnhkdaa.Nm _root_.Go.Proofs.Ytkmfoclhhnhkdaa.Jv
section
variable {w : World} {q : Nat} {s : List Six}
theorem Rw6.set (h : Rw6 w q s) {p : Nat} {y : Six} (hp : p < s.length) : Rw6 (st6 w q (p * 6) y) q (s.set p y) := by
  refine ⟨st6_blk h.blk, fun i z hz => ?_⟩
  by_cases e : i = p
  · subst e
    rw [List.getElem?_set_self hp] at hz
    obtain rfl := Option.some.inj hz
    exact st6_at (h.at6 _ _ (List.getElem?_eq_getElem hp))
  · rw [List.getElem?_set_ne (by omega)] at hz
    obtain ⟨h0, h1, h2, h3, h4, h5⟩ := h.at6 i z hz
    exact ⟨(st6_far (by simp; omega)).trans h0, (st6_far (by simp; omega)).trans h1, (st6_far (by simp; omega)).trans h2, (st6_far (by simp; omega)).trans h3, (st6_far (by simp; omega)).trans h4, (st6_far (by simp; omega)).trans h5⟩
theorem Rw6.cellAt (h : Rw6 w q s) (j : Nat) (hj : j < s.length * 6) : (w.cell? ⟨q, j, none⟩).isSome = true := by
  have hm : j % 6 < 6 := Nat.mod_lt _ (by decide)
  have he : j = j / 6 * 6 + j % 6 := (Nat.div_add_mod' j 6).symm
  have hl : j / 6 < s.length := Nat.div_lt_of_lt_mul (by omega)
  obtain ⟨h0, h1, h2, h3, h4, h5⟩ := h.at6 (j / 6) _ (List.getElem?_eq_getElem hl)
  generalize j % 6 = c at hm he
  rw [he]
  match c, hm with
  | 0, _ => rw [Nat.add_zero, h0]; rfl
  | 1, _ => rw [h1]; rfl
  | 2, _ => rw [h2]; rfl
  | 3, _ => rw [h3]; rfl
  | 4, _ => rw [h4]; rfl
  | 5, _ => rw [h5]; rfl
end
theorem zeroV (w : World) : (zeroValue 27).run Try.prog w = .ok (.agg #[.int .i64 0, .int .i64 0, .int .i64 0, .string ⟨#[]⟩, .slice none 0 0, .slice none 0 0]) w := by kernel_rfl
/-- the end of a row is struck out -/
theorem run_clear6 (w : World) (b o n c : Nat) (hn : 0 < n) (hc : ∀ j, j < n * 6 → (w.cell? ⟨b, o + j, none⟩).isSome = true) (hf : ∀ j, w.frozen? ⟨b, j, none⟩ = false) :
    ∃ zs : List Value, zs.length = n * 6 ∧ ∀ ty, (Builtin.clear_ #[24] ty #[.slice (some ⟨b, o, none⟩) n c]).run Try.prog w = .ok (.tuple #[]) (w.setCells b o zs) := by
  obtain ⟨Z, hZ⟩ : ∃ Z : Array Value, #[.int .i64 0, .int .i64 0, .int .i64 0, .string ⟨#[]⟩, .slice none 0 0, .slice none 0 0] = Z := ⟨_, rfl⟩
  have hzv := zeroV
  rw [hZ] at hzv
  have hz6 : Z.size = 6 := by rw [← hZ]; rfl
  have hz1 : ∀ i, i < 6 → (Z[i]!).oneCell' = true := by
    intro i hi
    rw [← hZ]
    match i, hi with
    | 0, _ => rfl
    | 1, _ => rfl
    | 2, _ => rfl
    | 3, _ => rfl
    | 4, _ => rfl
    | 5, _ => rfl
  have hlen : (Builtin.zeroCells Z n).toList.length = n * 6 := by simp [Builtin.zeroCells, hz6]
  refine ⟨(Builtin.zeroCells Z n).toList, hlen, fun ty => ?_⟩
  have hst := run_storeCells_cells (P := Try.prog) b o (Builtin.zeroCells Z n).toList 0 w (by rw [hlen]; simpa using hc) (by intro j _; exact hf _) (by
    intro v hv
    simp only [Builtin.zeroCells, Array.toList_map, List.mem_map, hz6] at hv
    obtain ⟨i, _, rfl⟩ := hv
    exact hz1 _ (Nat.mod_lt _ (by decide)))
  simp only [Nat.add_zero] at hst
  obtain ⟨m, rfl⟩ : ∃ m, n = m + 1 := ⟨n - 1, by omega⟩
  simp [Builtin.clear_, run_underlying (Try.underlying24), hzv, Value.cells, hst]
theorem below_setC {B : Nat} {w0 : World} (q : Nat) (hq : B ≤ q) : ∀ (vs : List Value) (o : Nat) (w : World), Below B w0 w → Below B w0 (w.setCells q o vs)
  | [], _, _, h => h
  | _ :: vs, o, _, h => below_setC q hq vs (o + 1) _ (h.setCell hq _)
theorem size_setC (q : Nat) : ∀ (vs : List Value) (o : Nat) (w : World), (w.setCells q o vs).heap.size = w.heap.size
  | [], _, _ => rfl
  | _ :: vs, o, w => (size_setC q vs (o + 1) _).trans (by simp [World.setCell])
theorem At6.setC {w : World} {q p o : Nat} {y : Six} (h : At6 w q p y) (hp : p + 6 ≤ o) (vs : List Value) : At6 (w.setCells q o vs) q p y := by
  obtain ⟨h0, h1, h2, h3, h4, h5⟩ := h
  have far : ∀ d, d < 6 → (w.setCells q o vs).cell? ⟨q, p + d, none⟩ = w.cell? ⟨q, p + d, none⟩ := fun d hd => World.cell?_setCells_out q vs o w _ (fun _ _ => Or.inl (by show p + d < o; omega))
  exact ⟨(far 0 (by decide)).trans h0, (far 1 (by decide)).trans h1, (far 2 (by decide)).trans h2, (far 3 (by decide)).trans h3, (far 4 (by decide)).trans h4, (far 5 (by decide)).trans h5⟩
set_option maxRecDepth 100000 in
set_option maxHeartbeats 4000000 in
theorem ueq_any (n m : Nat) (x y : Six) (t u : JV) (w : World) (hx : VT w n x t) (hy : VT w m y u) :
    Calls Try.prog 39 #[x.val, y.val] w fun e w' => e = .returned (.bool (decide ((cmpR t u).1 = 0))) ∧ Below w.heap.size w w' := by
  have hcp := fun wx (h : Below w.heap.size w wx) => compare_any n m x y t u wx (VT.on h n hx) (VT.on h m hy)
  obtain ⟨c, hc⟩ : ∃ c, (cmpR t u).1 = c := ⟨_, rfl⟩
  obtain ⟨b, hb⟩ : ∃ b, (cmpR t u).2 = b := ⟨_, rfl⟩
  rw [hc, hb] at hcp
  rw [hc]
  unfold Six.val vV at hcp ⊢
  have HCP := Lib.hid hcp
  have hw := bA2 w (Obj.cells #[.int .i64 x.k, .int .i64 x.c, .int .i64 x.s, .string x.st, x.iv, x.kv] 27) (Obj.cells #[.int .i64 y.k, .int .i64 y.c, .int .i64 y.s, .string y.st, y.iv, y.kv] 27)
  have HV : Hid (Vb ((w.alloc (Obj.cells #[.int .i64 x.k, .int .i64 x.c, .int .i64 x.s, .string x.st, x.iv, x.kv] 27)).alloc (Obj.cells #[.int .i64 y.k, .int .i64 y.c, .int .i64 y.s, .string y.st, y.iv, y.kv] 27)) w.heap.size #[.int .i64 x.k, .int .i64 x.c, .int .i64 x.s, .string x.st, x.iv, x.kv] ∧ Vb ((w.alloc (Obj.cells #[.int .i64 x.k, .int .i64 x.c, .int .i64 x.s, .string x.st, x.iv, x.kv] 27)).alloc (Obj.cells #[.int .i64 y.k, .int .i64 y.c, .int .i64 y.s, .string y.st, y.iv, y.kv] 27)) (w.heap.size + 1) #[.int .i64 y.k, .int .i64 y.c, .int .i64 y.s, .string y.st, y.iv, y.kv]) := Lib.hid ⟨(Vb.new w _).alloc _, by simpa using Vb.new (w.alloc (Obj.cells #[.int .i64 x.k, .int .i64 x.c, .int .i64 x.s, .string x.st, x.iv, x.kv] 27)) #[.int .i64 y.k, .int .i64 y.c, .int .i64 y.s, .string y.st, y.iv, y.kv]⟩
  have HW := Lib.hid hw
  clear hcp hc hb hx hy hw
  go_enter Try.func39, Try.ntmps39
  go_upto_region 1 with (fail)
  obtain ⟨x0, x1, x2, x3, x4, x5⟩ := HV.out.1.six
  obtain ⟨y0, y1, y2, y3, y4, y5⟩ := HV.out.2.six
  go_wp2_with (go_at_call 23; refine (HCP.out _ HW.out).mono ?_; rintro e w1 ⟨rfl, b1⟩; have HW1 := Lib.hid (bT HW.out b1); clear b1)
  go_ret
  exact ⟨rfl, HW1.out⟩
theorem pk_id {α : Type} {S : List JV} {l : List α} (h : ∀ j, j < l.length → kp S j = true) : pk S l l.length = l := by
  refine List.ext_getElem? fun p => ?_
  rw [pk_at (Nat.le_refl _), onc_all h]
  by_cases hp : p < l.length
  · rw [List.getElem?_range hp]; rfl
  · rw [List.getElem?_eq_none (by simp; omega), List.getElem?_eq_none (by omega)]; rfl
/-- what CompactFunc answers -/
def CpP (w0 : World) (S : List JV) (l' : List Six) (e : Ending) (w' : World) : Prop := Below w0.heap.size w0 w' ∧ ∃ ao n cap, e = .returned (.slice ao n cap) ∧ Vs w' (.slice ao n cap) (pk S l' l'.length)
set_option maxRecDepth 100000 in
set_option maxHeartbeats 8000000 in
theorem compact_any (w0 : World) (S : List JV) (l' : List Six) (ao : Option Addr) (cap : Nat) (w : World) (hb : Below w0.heap.size w0 w) (hv : Vs w (.slice ao l'.length cap) l') (hlc : l'.length ≤ cap) (hcm : cap ≤ maxLen)
    (hq : 0 < l'.length → ∃ q, ao = some ⟨q, 0, none⟩ ∧ w0.heap.size ≤ q ∧ Rw6 w q l') (hl : l'.length = S.length)
    (ht : ∀ (j : Nat) (y : Six) (z : JV), l'[j]? = some y → S[j]? = some z → ∃ n, VT w0 n y z) (hn : l'.length ≤ 12) :
    Calls Try.prog 38 #[.slice ao l'.length cap, .func (.func 39) #[] #[]] w (CpP w0 S l') := by
  unfold maxLen at hcm
  have hsame : ∀ wx, Below w.heap.size w wx → (∀ j, j < l'.length → kp S j = true) → CpP w0 S l' (.returned (.slice ao l'.length cap)) wx := fun wx h hk => ⟨bT hb h, ao, l'.length, cap, rfl, by rw [pk_id hk]; exact hv.on h⟩
  have HSA := Lib.hid hsame
  have HQ := Lib.hid hq
  have HT := Lib.hid ht
  have HL := Lib.hid hl
  have HB := Lib.hid hb
  have HCM := Lib.hid hcm
  clear hsame hq ht hl hb hv
  by_cases h2 : l'.length < 2
  · have i1 : (l'.length : Int) < 2 := by omega
    go_enter Try.func38, Try.ntmps38
    go_wp2
    go_ret
    refine HSA.out w (Below.refl _ _) (fun j hj => ?_)
    obtain rfl : j = 0 := by omega
    rfl
  · have i1 : ¬ (l'.length : Int) < 2 := by omega
    obtain ⟨q, rfl, hq0, hr⟩ := HQ.out (by omega)
    have HR := Lib.hid hr
    clear hr HQ
    go_enter Try.func38, Try.ntmps38
    go_wp2
    go_loopw [5] (fun kv wr => ∃ k : Nat, kv = .int .i64 ((k : Nat) + 1) ∧ k + 1 ≤ l'.length ∧ Hid (Si w0 q l' wr) ∧ Hid (Below w.heap.size w wr) ∧ Hid (∀ j, j < k + 1 → kp S j = true)) (fun kv _ => l'.length - (intOf kv).toNat)
    case atStart => exact ⟨0, rfl, by omega, Lib.hid ⟨HB.out, HR.out⟩, Lib.hid (Below.refl _ _), Lib.hid (fun j (hj : j < 0 + 1) => by rw [show j = 0 by omega]; rfl)⟩
    case round =>
      obtain ⟨j, rfl, hj, HS, HW, HK⟩ := hrel
      by_cases hlt : j + 1 < l'.length
      · obtain ⟨y1, hy1⟩ : ∃ x, l'[j + 1]? = some x := ⟨_, List.getElem?_eq_getElem hlt⟩
        obtain ⟨y0, hy0⟩ : ∃ x, l'[j]? = some x := ⟨_, List.getElem?_eq_getElem (by omega)⟩
        obtain ⟨t1, ht1⟩ : ∃ x, S[j + 1]? = some x := ⟨_, List.getElem?_eq_getElem (by have := HL.out; omega)⟩
        obtain ⟨t0, ht0⟩ : ∃ x, S[j]? = some x := ⟨_, List.getElem?_eq_getElem (by have := HL.out; omega)⟩
        obtain ⟨n1, hv1⟩ := HT.out _ y1 t1 hy1 ht1
        obtain ⟨n0, hv0⟩ := HT.out _ y0 t0 hy0 ht0
        have hkt := kp_turn ht0 ht1
        have hue := fun wx (h : Below w0.heap.size w0 wx) => ueq_any n1 n0 y1 y0 t1 t0 wx (VT.on h n1 hv1) (VT.on h n0 hv0)
        obtain ⟨c, hc⟩ : ∃ c, (cmpR t1 t0).1 = c := ⟨_, rfl⟩
        rw [hc] at hkt hue
        have hat1 : ∀ wx, Si w0 q l' wx → At6 wx q ((j + 1) * 6) y1 := fun wx h => h.2.at6 _ _ hy1
        have hat2 : ∀ wx, Si w0 q l' wx → At6 wx q (j * 6) y0 := fun wx h => h.2.at6 _ _ hy0
        obtain ⟨⟨xa, xb, xc2, g1⟩, xd, xe, xf, g2⟩ := hv1.one
        obtain ⟨⟨ya, yb, yc2, g3⟩, yd, ye, yf, g4⟩ := hv0.one
        have HKT := Lib.hid hkt
        clear hy1 hy0 ht1 ht0 hv1 hv0 hkt hc
        obtain ⟨xk, xc, xs, xst, xi, xv⟩ := y1
        obtain ⟨yk, yc, ys, yst, yi, yv⟩ := y0
        simp only at g1 g2 g3 g4
        subst g1 g2 g3 g4
        unfold Six.val vV at hue
        simp only at hue
        have HUE := Lib.hid hue
        clear hue
        have a0 := fun wx h => (hat1 wx h).1
        have a1 := fun wx h => (hat1 wx h).2.1
        have a2 := fun wx h => (hat1 wx h).2.2.1
        have a3 := fun wx h => (hat1 wx h).2.2.2.1
        have a4 := fun wx h => (hat1 wx h).2.2.2.2.1
        have a5 := fun wx h => (hat1 wx h).2.2.2.2.2
        have e0 := fun wx h => (hat2 wx h).1
        have e1 := fun wx h => (hat2 wx h).2.1
        have e2 := fun wx h => (hat2 wx h).2.2.1
        have e3 := fun wx h => (hat2 wx h).2.2.2.1
        have e4 := fun wx h => (hat2 wx h).2.2.2.2.1
        have e5 := fun wx h => (hat2 wx h).2.2.2.2.2
        simp only at a0 a1 a2 a3 a4 a5 e0 e1 e2 e3 e4 e5
        clear hat1 hat2
        have j1 : ((j : Int) + 1) < (l'.length : Int) := by omega
        have j2 : (j : Int) < (l'.length : Int) := by omega
        have j3 : ((j : Int) + 1 - 1) = (j : Int) := by omega
        have j6 : ((j : Int) + 1).toNat = j + 1 := by omega
        have j9 : (0 : Int) ≤ (j : Int) + 1 := by omega
        have j10 : IntKind.i64.wrap (j : Int) = (j : Int) := IntWalk.i64_in _ (by omega)
        have j7 : j + 1 < l'.length := by omega
        have j8 : j < l'.length := by omega
        by_cases hc0 : c = 0
        · have hcd : decide (c = 0) = true := decide_eq_true hc0
          have HK0 : Hid (kp S (j + 1) = false) := Lib.hid (by rw [HKT.out]; simp [hc0])
          rw [hcd] at HUE
          go_wp2
          refine wp_region_held_drew (S := Si w0 q l') (by kernel_rfl) (show Si w0 q l' wr.drew from ⟨HS.out.1.drew, HS.out.2.on rfl⟩) (fun hHeld => ?_)
          refine take_put (i := 0) (d := 18) (oi := _) (v := ?vz0) rfl rfl (by kernel_rfl) (by kernel_rfl) (by kernel_rfl) (fun _ _ _ h => h) (Or.inl ⟨by rfl, ?yz0⟩) hHeld ?rz0
          case yz0 => (intro w hSw; (try dsimp only at hSw); go_simp; try with_reducible rfl)
          simp only [Act.put, List.setIfInBounds_toArray, List.set_cons_zero, List.set_cons_succ]
          refine take_put (i := 1) (d := 19) (oi := _) (v := ?vz1) rfl rfl (by kernel_rfl) (by kernel_rfl) (by kernel_rfl) (fun _ _ _ h => h) (Or.inl ⟨by rfl, ?yz1⟩) hHeld ?rz1
          case yz1 => (intro w hSw; (try dsimp only at hSw); go_simp; try with_reducible rfl)
          simp only [Act.put, List.setIfInBounds_toArray, List.set_cons_zero, List.set_cons_succ]
          refine take_put (i := 2) (d := 20) (oi := _) (v := ?vz2) rfl rfl (by kernel_rfl) (by kernel_rfl) (by kernel_rfl) (fun _ _ _ h => h) (Or.inl ⟨by rfl, ?yz2⟩) hHeld ?rz2
          case yz2 => (intro w hSw; (try dsimp only at hSw); go_simp; try with_reducible rfl)
          simp only [Act.put, List.setIfInBounds_toArray, List.set_cons_zero, List.set_cons_succ]
          refine take_put (i := 3) (d := 21) (oi := _) (v := ?vz3) rfl rfl (by kernel_rfl) (by kernel_rfl) (by kernel_rfl) (fun _ _ _ h => h) (Or.inl ⟨by rfl, ?yz3⟩) hHeld ?rz3
          case yz3 => (intro w hSw; (try dsimp only at hSw); go_simp; try with_reducible rfl)
          simp only [Act.put, List.setIfInBounds_toArray, List.set_cons_zero, List.set_cons_succ]
          refine take_put (i := 4) (d := 22) (oi := _) (v := ?vz4) rfl rfl (by kernel_rfl) (by kernel_rfl) (by kernel_rfl) (fun _ _ _ h => h) (Or.inl ⟨by rfl, ?yz4⟩) hHeld ?rz4
          case yz4 => (intro w hSw; (try dsimp only at hSw); go_simp; try with_reducible rfl)
          simp only [Act.put, List.setIfInBounds_toArray, List.set_cons_zero, List.set_cons_succ]
          refine take_put (i := 5) (d := 23) (oi := _) (v := ?vz5) rfl rfl (by kernel_rfl) (by kernel_rfl) (by kernel_rfl) (fun _ _ _ h => h) (Or.inl ⟨by rfl, ?yz5⟩) hHeld ?rz5
          case yz5 => (intro w hSw; (try dsimp only at hSw); go_simp; try with_reducible rfl)
          simp only [Act.put, List.setIfInBounds_toArray, List.set_cons_zero, List.set_cons_succ]
          refine take_put (i := 6) (d := 24) (oi := _) (v := ?vz6) rfl rfl (by kernel_rfl) (by kernel_rfl) (by kernel_rfl) (fun _ _ _ h => h) (Or.inl ⟨by rfl, ?yz6⟩) hHeld ?rz6
          case yz6 => (intro w hSw; (try dsimp only at hSw); go_simp; try with_reducible rfl)
          simp only [Act.put, List.setIfInBounds_toArray, List.set_cons_zero, List.set_cons_succ]
          refine take_put (i := 7) (d := 25) (oi := _) (v := ?vz7) rfl rfl (by kernel_rfl) (by kernel_rfl) (by kernel_rfl) (fun _ _ _ h => h) (Or.inl ⟨by rfl, ?yz7⟩) hHeld ?rz7
          case yz7 => (intro w hSw; (try dsimp only at hSw); go_simp; try with_reducible rfl)
          simp only [Act.put, List.setIfInBounds_toArray, List.set_cons_zero, List.set_cons_succ]
          refine take_put (i := 8) (d := 26) (oi := _) (v := ?vz8) rfl rfl (by kernel_rfl) (by kernel_rfl) (by kernel_rfl) (fun _ _ _ h => h) (Or.inl ⟨by rfl, ?yz8⟩) hHeld ?rz8
          case yz8 => (intro w hSw; (try dsimp only at hSw); go_simp; try with_reducible rfl)
          simp only [Act.put, List.setIfInBounds_toArray, List.set_cons_zero, List.set_cons_succ]
          refine take_put (i := 9) (d := 27) (oi := _) (v := ?vz9) rfl rfl (by kernel_rfl) (by kernel_rfl) (by kernel_rfl) (fun _ _ _ h => h) (Or.inl ⟨by rfl, ?yz9⟩) hHeld ?rz9
          case yz9 => (intro w hSw; (try dsimp only at hSw); go_simp; try with_reducible rfl)
          simp only [Act.put, List.setIfInBounds_toArray, List.set_cons_zero, List.set_cons_succ]
          refine wpAnyH_ready (rs := [10]) (by kernel_rfl) (by simp) (AllReadyH.cons (o := _) rfl (fun K hK => ?_) AllReadyH.nil)
          go_simp
          refine (HUE.out _ hHeld.1).mono ?_
          rintro e w6 ⟨rfl, b6⟩
          (try dsimp only)
          refine hK.out _ _ (show Si w0 q l' w6 from ⟨bT hHeld.1 b6, hHeld.2.on (b6.block q hHeld.2.lt)⟩) (fun hHeld => ?_)
          clear hK K
          refine wpAnyH_done (by kernel_rfl) ?_ _
          have HS6 : Hid (Si w0 q l' w6) := Lib.hid hHeld
          have HCI : Hid (CpI S l' (j + 1) (j + 1 + 1) l') := Lib.hid (CpI.start HK.out HK0.out (by omega))
          clear hHeld b6 HK0 HKT hcd hc0 HUE HK HW HSA a0 a1 a2 a3 a4 a5 e0 e1 e2 e3 e4 e5 HS j3 j10 j2 j8
          obtain ⟨M, hM⟩ : ∃ M, l'.length - (j + 1) = M := ⟨_, rfl⟩
          have hMl : l'.length ≤ j + 1 + M := by omega
          have hMl2 : j + 1 + M ≤ l'.length := by omega
          go_wp2
          try rw [hM]
          go_loopw [5, 7] (fun kv mv wr => ∃ (k m : Nat) (cur : List Six), kv = .int .i64 (k : Nat) ∧ mv = .int .i64 ((m : Nat) + 1) ∧ m + 1 ≤ M ∧ k < j + 1 + (m + 1) ∧ cur.length = l'.length ∧ Hid (Si w0 q cur wr) ∧ Hid (CpI S l' k (j + 1 + (m + 1)) cur)) (fun _ mv _ => M - (intOf mv).toNat)
          case atStart => exact ⟨j + 1, 0, l', rfl, rfl, by omega, by omega, rfl, HS6, HCI⟩
          case round =>
            clear HS6 HCI
            obtain ⟨k, m, cur, rfl, rfl, hm, hkm, hcl, HS, HCI⟩ := hrel
            by_cases hlt2 : m + 1 < M
            · obtain ⟨y1, hy1⟩ : ∃ x, l'[j + 1 + (m + 1)]? = some x := ⟨_, List.getElem?_eq_getElem (by omega)⟩
              obtain ⟨y0, hy0⟩ : ∃ x, l'[j + 1 + m]? = some x := ⟨_, List.getElem?_eq_getElem (by omega)⟩
              obtain ⟨yk, hyk⟩ : ∃ x, cur[k]? = some x := ⟨_, List.getElem?_eq_getElem (by omega)⟩
              obtain ⟨t1, ht1⟩ : ∃ x, S[j + 1 + (m + 1)]? = some x := ⟨_, List.getElem?_eq_getElem (by have := HL.out; omega)⟩
              obtain ⟨t0, ht0⟩ : ∃ x, S[j + 1 + m]? = some x := ⟨_, List.getElem?_eq_getElem (by have := HL.out; omega)⟩
              obtain ⟨n1, hv1⟩ := HT.out _ y1 t1 hy1 ht1
              obtain ⟨n0, hv0⟩ := HT.out _ y0 t0 hy0 ht0
              have hkt : kp S (j + 1 + (m + 1)) = decide ((cmpR t1 t0).1 ≠ 0) := kp_turn ht0 ht1
              have hue := fun wx (h : Below w0.heap.size w0 wx) => ueq_any n1 n0 y1 y0 t1 t0 wx (VT.on h n1 hv1) (VT.on h n0 hv0)
              obtain ⟨c, hc⟩ : ∃ c, (cmpR t1 t0).1 = c := ⟨_, rfl⟩
              rw [hc] at hkt hue
              have hz1 : cur[j + 1 + (m + 1)]? = some y1 := (HCI.out.high _ (by omega)).trans hy1
              have hz0 : cur[j + 1 + m]? = some y0 := (HCI.out.high _ (by omega)).trans hy0
              have hat1 : ∀ wx, Si w0 q cur wx → At6 wx q ((j + 1) * 6 + (m + 1) * 6) y1 := fun wx h => by
                have := h.2.at6 _ _ hz1
                rwa [show (j + 1 + (m + 1)) * 6 = (j + 1) * 6 + (m + 1) * 6 by omega] at this
              have hat2 : ∀ wx, Si w0 q cur wx → At6 wx q ((j + 1) * 6 + m * 6) y0 := fun wx h => by
                have := h.2.at6 _ _ hz0
                rwa [show (j + 1 + m) * 6 = (j + 1) * 6 + m * 6 by omega] at this
              have HAK := Lib.hid (fun wx (h : Si w0 q cur wx) => h.2.at6 _ _ hyk)
              obtain ⟨⟨xa, xb, xc2, g1⟩, xd, xe, xf, g2⟩ := hv1.one
              obtain ⟨⟨ya, yb, yc2, g3⟩, yd, ye, yf, g4⟩ := hv0.one
              have HKT := Lib.hid hkt
              have HY1 := Lib.hid hy1
              clear hy1 hy0 hyk hz1 hz0 ht1 ht0 hv1 hv0 hkt hc
              obtain ⟨xk, xc, xs, xst, xi, xv⟩ := y1
              obtain ⟨yk', yc, ys, yst, yi, yv⟩ := y0
              simp only at g1 g2 g3 g4
              subst g1 g2 g3 g4
              unfold Six.val vV at hue
              simp only at hue
              have HUE := Lib.hid hue
              clear hue
              have a0 := fun wx h => (hat1 wx h).1
              have a1 := fun wx h => (hat1 wx h).2.1
              have a2 := fun wx h => (hat1 wx h).2.2.1
              have a3 := fun wx h => (hat1 wx h).2.2.2.1
              have a4 := fun wx h => (hat1 wx h).2.2.2.2.1
              have a5 := fun wx h => (hat1 wx h).2.2.2.2.2
              have e0 := fun wx h => (hat2 wx h).1
              have e1 := fun wx h => (hat2 wx h).2.1
              have e2 := fun wx h => (hat2 wx h).2.2.1
              have e3 := fun wx h => (hat2 wx h).2.2.2.1
              have e4 := fun wx h => (hat2 wx h).2.2.2.2.1
              have e5 := fun wx h => (hat2 wx h).2.2.2.2.2
              simp only at a0 a1 a2 a3 a4 a5 e0 e1 e2 e3 e4 e5
              have HAT1 := Lib.hid hat1
              clear hat1 hat2
              have m1 : ((m : Int) + 1) < (M : Int) := by omega
              have m2 : (m : Int) < (M : Int) := by omega
              have m3 : ((m : Int) + 1 - 1) = (m : Int) := by omega
              have m6 : ((m : Int) + 1).toNat = m + 1 := by omega
              have m9 : (0 : Int) ≤ (m : Int) + 1 := by omega
              have m10 : IntKind.i64.wrap (m : Int) = (m : Int) := IntWalk.i64_in _ (by omega)
              have m7 : m + 1 < M := by omega
              have m8 : m < M := by omega
              by_cases hc0 : c = 0
              · have hcd : decide (c = 0) = true := decide_eq_true hc0
                have HCS : Hid (CpI S l' k (j + 1 + (m + 1 + 1)) cur) := Lib.hid (HCI.out.skip (by omega) (by rw [HKT.out]; simp [hc0]))
                rw [hcd] at HUE
                go_wp2
                refine wp_region_held_drew (S := Si w0 q cur) (by kernel_rfl) (show Si w0 q cur wr.drew from ⟨HS.out.1.drew, HS.out.2.on rfl⟩) (fun hHeld => ?_)
                refine take_put (i := 0) (d := 38) (oi := _) (v := ?vy0) rfl rfl (by kernel_rfl) (by kernel_rfl) (by kernel_rfl) (fun _ _ _ h => h) (Or.inl ⟨by rfl, ?yy0⟩) hHeld ?ry0
                case yy0 => (intro w hSw; (try dsimp only at hSw); go_simp; try with_reducible rfl)
                simp only [Act.put, List.setIfInBounds_toArray, List.set_cons_zero, List.set_cons_succ]
                refine take_put (i := 1) (d := 39) (oi := _) (v := ?vy1) rfl rfl (by kernel_rfl) (by kernel_rfl) (by kernel_rfl) (fun _ _ _ h => h) (Or.inl ⟨by rfl, ?yy1⟩) hHeld ?ry1
                case yy1 => (intro w hSw; (try dsimp only at hSw); go_simp; try with_reducible rfl)
                simp only [Act.put, List.setIfInBounds_toArray, List.set_cons_zero, List.set_cons_succ]
                refine take_put (i := 2) (d := 40) (oi := _) (v := ?vy2) rfl rfl (by kernel_rfl) (by kernel_rfl) (by kernel_rfl) (fun _ _ _ h => h) (Or.inl ⟨by rfl, ?yy2⟩) hHeld ?ry2
                case yy2 => (intro w hSw; (try dsimp only at hSw); go_simp; try with_reducible rfl)
                simp only [Act.put, List.setIfInBounds_toArray, List.set_cons_zero, List.set_cons_succ]
                refine take_put (i := 3) (d := 41) (oi := _) (v := ?vy3) rfl rfl (by kernel_rfl) (by kernel_rfl) (by kernel_rfl) (fun _ _ _ h => h) (Or.inl ⟨by rfl, ?yy3⟩) hHeld ?ry3
                case yy3 => (intro w hSw; (try dsimp only at hSw); go_simp; try with_reducible rfl)
                simp only [Act.put, List.setIfInBounds_toArray, List.set_cons_zero, List.set_cons_succ]
                refine take_put (i := 4) (d := 42) (oi := _) (v := ?vy4) rfl rfl (by kernel_rfl) (by kernel_rfl) (by kernel_rfl) (fun _ _ _ h => h) (Or.inl ⟨by rfl, ?yy4⟩) hHeld ?ry4
                case yy4 => (intro w hSw; (try dsimp only at hSw); go_simp; try with_reducible rfl)
                simp only [Act.put, List.setIfInBounds_toArray, List.set_cons_zero, List.set_cons_succ]
                refine take_put (i := 5) (d := 43) (oi := _) (v := ?vy5) rfl rfl (by kernel_rfl) (by kernel_rfl) (by kernel_rfl) (fun _ _ _ h => h) (Or.inl ⟨by rfl, ?yy5⟩) hHeld ?ry5
                case yy5 => (intro w hSw; (try dsimp only at hSw); go_simp; try with_reducible rfl)
                simp only [Act.put, List.setIfInBounds_toArray, List.set_cons_zero, List.set_cons_succ]
                refine take_put (i := 6) (d := 44) (oi := _) (v := ?vy6) rfl rfl (by kernel_rfl) (by kernel_rfl) (by kernel_rfl) (fun _ _ _ h => h) (Or.inl ⟨by rfl, ?yy6⟩) hHeld ?ry6
                case yy6 => (intro w hSw; (try dsimp only at hSw); go_simp; try with_reducible rfl)
                simp only [Act.put, List.setIfInBounds_toArray, List.set_cons_zero, List.set_cons_succ]
                refine take_put (i := 7) (d := 45) (oi := _) (v := ?vy7) rfl rfl (by kernel_rfl) (by kernel_rfl) (by kernel_rfl) (fun _ _ _ h => h) (Or.inl ⟨by rfl, ?yy7⟩) hHeld ?ry7
                case yy7 => (intro w hSw; (try dsimp only at hSw); go_simp; try with_reducible rfl)
                simp only [Act.put, List.setIfInBounds_toArray, List.set_cons_zero, List.set_cons_succ]
                refine take_put (i := 8) (d := 46) (oi := _) (v := ?vy8) rfl rfl (by kernel_rfl) (by kernel_rfl) (by kernel_rfl) (fun _ _ _ h => h) (Or.inl ⟨by rfl, ?yy8⟩) hHeld ?ry8
                case yy8 => (intro w hSw; (try dsimp only at hSw); go_simp; try with_reducible rfl)
                simp only [Act.put, List.setIfInBounds_toArray, List.set_cons_zero, List.set_cons_succ]
                refine take_put (i := 9) (d := 47) (oi := _) (v := ?vy9) rfl rfl (by kernel_rfl) (by kernel_rfl) (by kernel_rfl) (fun _ _ _ h => h) (Or.inl ⟨by rfl, ?yy9⟩) hHeld ?ry9
                case yy9 => (intro w hSw; (try dsimp only at hSw); go_simp; try with_reducible rfl)
                simp only [Act.put, List.setIfInBounds_toArray, List.set_cons_zero, List.set_cons_succ]
                refine wpAnyH_ready (rs := [10]) (by kernel_rfl) (by simp) (AllReadyH.cons (o := _) rfl (fun K hK => ?_) AllReadyH.nil)
                go_simp
                refine (HUE.out _ hHeld.1).mono ?_
                rintro e w6 ⟨rfl, b6⟩
                (try dsimp only)
                refine hK.out _ _ (show Si w0 q cur w6 from ⟨bT hHeld.1 b6, hHeld.2.on (b6.block q hHeld.2.lt)⟩) (fun hHeld => ?_)
                clear hK K
                refine take_put (i := 11) (d := 49) (oi := _) (v := ?vy11) rfl rfl (by kernel_rfl) (by kernel_rfl) (by kernel_rfl) (fun _ _ _ h => h) (Or.inl ⟨by rfl, ?yy11⟩) hHeld ?ry11
                case yy11 => (intro w hSw; (try dsimp only at hSw); go_simp; try with_reducible rfl)
                simp only [Act.put, List.setIfInBounds_toArray, List.set_cons_zero, List.set_cons_succ]
                refine wpAnyH_done (by kernel_rfl) ?_ _
                have HS7 : Hid (Si w0 q cur w6) := Lib.hid hHeld
                clear hHeld b6 HKT hcd hc0 HUE a0 a1 a2 a3 a4 a5 e0 e1 e2 e3 e4 e5 HS HCI HAT1 HAK HY1
                go_wp2
                go_roundw
                case rel => exact ⟨k, m + 1, cur, rfl, by go_num, by omega, by omega, hcl, HS7, HCS⟩
                case measure => simp [intOf]; omega
              · have hcd : decide (c = 0) = false := decide_eq_false hc0
                have HCS : Hid (CpI S l' (k + 1) (j + 1 + (m + 1 + 1)) (cur.set k ⟨xk, xc, xs, xst, .slice xa xb xc2, .slice xd xe xf⟩)) := Lib.hid (HCI.out.keep HY1.out (by rw [HKT.out]; simp [hc0]))
                rw [hcd] at HUE
                go_wp2
                refine wp_region_held_drew (S := Si w0 q cur) (by kernel_rfl) (show Si w0 q cur wr.drew from ⟨HS.out.1.drew, HS.out.2.on rfl⟩) (fun hHeld => ?_)
                refine take_put (i := 0) (d := 38) (oi := _) (v := ?vw0) rfl rfl (by kernel_rfl) (by kernel_rfl) (by kernel_rfl) (fun _ _ _ h => h) (Or.inl ⟨by rfl, ?yw0⟩) hHeld ?rw0
                case yw0 => (intro w hSw; (try dsimp only at hSw); go_simp; try with_reducible rfl)
                simp only [Act.put, List.setIfInBounds_toArray, List.set_cons_zero, List.set_cons_succ]
                refine take_put (i := 1) (d := 39) (oi := _) (v := ?vw1) rfl rfl (by kernel_rfl) (by kernel_rfl) (by kernel_rfl) (fun _ _ _ h => h) (Or.inl ⟨by rfl, ?yw1⟩) hHeld ?rw1
                case yw1 => (intro w hSw; (try dsimp only at hSw); go_simp; try with_reducible rfl)
                simp only [Act.put, List.setIfInBounds_toArray, List.set_cons_zero, List.set_cons_succ]
                refine take_put (i := 2) (d := 40) (oi := _) (v := ?vw2) rfl rfl (by kernel_rfl) (by kernel_rfl) (by kernel_rfl) (fun _ _ _ h => h) (Or.inl ⟨by rfl, ?yw2⟩) hHeld ?rw2
                case yw2 => (intro w hSw; (try dsimp only at hSw); go_simp; try with_reducible rfl)
                simp only [Act.put, List.setIfInBounds_toArray, List.set_cons_zero, List.set_cons_succ]
                refine take_put (i := 3) (d := 41) (oi := _) (v := ?vw3) rfl rfl (by kernel_rfl) (by kernel_rfl) (by kernel_rfl) (fun _ _ _ h => h) (Or.inl ⟨by rfl, ?yw3⟩) hHeld ?rw3
                case yw3 => (intro w hSw; (try dsimp only at hSw); go_simp; try with_reducible rfl)
                simp only [Act.put, List.setIfInBounds_toArray, List.set_cons_zero, List.set_cons_succ]
                refine take_put (i := 4) (d := 42) (oi := _) (v := ?vw4) rfl rfl (by kernel_rfl) (by kernel_rfl) (by kernel_rfl) (fun _ _ _ h => h) (Or.inl ⟨by rfl, ?yw4⟩) hHeld ?rw4
                case yw4 => (intro w hSw; (try dsimp only at hSw); go_simp; try with_reducible rfl)
                simp only [Act.put, List.setIfInBounds_toArray, List.set_cons_zero, List.set_cons_succ]
                refine take_put (i := 5) (d := 43) (oi := _) (v := ?vw5) rfl rfl (by kernel_rfl) (by kernel_rfl) (by kernel_rfl) (fun _ _ _ h => h) (Or.inl ⟨by rfl, ?yw5⟩) hHeld ?rw5
                case yw5 => (intro w hSw; (try dsimp only at hSw); go_simp; try with_reducible rfl)
                simp only [Act.put, List.setIfInBounds_toArray, List.set_cons_zero, List.set_cons_succ]
                refine take_put (i := 6) (d := 44) (oi := _) (v := ?vw6) rfl rfl (by kernel_rfl) (by kernel_rfl) (by kernel_rfl) (fun _ _ _ h => h) (Or.inl ⟨by rfl, ?yw6⟩) hHeld ?rw6
                case yw6 => (intro w hSw; (try dsimp only at hSw); go_simp; try with_reducible rfl)
                simp only [Act.put, List.setIfInBounds_toArray, List.set_cons_zero, List.set_cons_succ]
                refine take_put (i := 7) (d := 45) (oi := _) (v := ?vw7) rfl rfl (by kernel_rfl) (by kernel_rfl) (by kernel_rfl) (fun _ _ _ h => h) (Or.inl ⟨by rfl, ?yw7⟩) hHeld ?rw7
                case yw7 => (intro w hSw; (try dsimp only at hSw); go_simp; try with_reducible rfl)
                simp only [Act.put, List.setIfInBounds_toArray, List.set_cons_zero, List.set_cons_succ]
                refine take_put (i := 8) (d := 46) (oi := _) (v := ?vw8) rfl rfl (by kernel_rfl) (by kernel_rfl) (by kernel_rfl) (fun _ _ _ h => h) (Or.inl ⟨by rfl, ?yw8⟩) hHeld ?rw8
                case yw8 => (intro w hSw; (try dsimp only at hSw); go_simp; try with_reducible rfl)
                simp only [Act.put, List.setIfInBounds_toArray, List.set_cons_zero, List.set_cons_succ]
                refine take_put (i := 9) (d := 47) (oi := _) (v := ?vw9) rfl rfl (by kernel_rfl) (by kernel_rfl) (by kernel_rfl) (fun _ _ _ h => h) (Or.inl ⟨by rfl, ?yw9⟩) hHeld ?rw9
                case yw9 => (intro w hSw; (try dsimp only at hSw); go_simp; try with_reducible rfl)
                simp only [Act.put, List.setIfInBounds_toArray, List.set_cons_zero, List.set_cons_succ]
                refine wpAnyH_ready (rs := [10]) (by kernel_rfl) (by simp) (AllReadyH.cons (o := _) rfl (fun K hK => ?_) AllReadyH.nil)
                go_simp
                refine (HUE.out _ hHeld.1).mono ?_
                rintro e w6 ⟨rfl, b6⟩
                (try dsimp only)
                refine hK.out _ _ (show Si w0 q cur w6 from ⟨bT hHeld.1 b6, hHeld.2.on (b6.block q hHeld.2.lt)⟩) (fun hHeld => ?_)
                clear hK K
                refine take_put (i := 11) (d := 49) (oi := _) (v := ?vw11) rfl rfl (by kernel_rfl) (by kernel_rfl) (by kernel_rfl) (fun _ _ _ h => h) (Or.inl ⟨by rfl, ?yw11⟩) hHeld ?rw11
                case yw11 => (intro w hSw; (try dsimp only at hSw); go_simp; try with_reducible rfl)
                simp only [Act.put, List.setIfInBounds_toArray, List.set_cons_zero, List.set_cons_succ]
                refine wpAnyH_done (by kernel_rfl) ?_ _
                have HS7 : Hid (Si w0 q cur w6) := Lib.hid hHeld
                have A1 := HAT1.out w6 hHeld
                have A2 := HAK.out w6 hHeld
                have hf := fun o => HS7.out.2.free o
                clear hHeld b6 HKT hcd hc0 HUE a0 a1 a2 a3 a4 a5 e0 e1 e2 e3 e4 e5 HS HCI HAT1 HAK HY1
                obtain ⟨b0, b1, b2, b3, b4, b5⟩ := A1
                obtain ⟨d0, d1, d2, d3, d4, d5⟩ := A2
                simp only at b0 b1 b2 b3 b4 b5 d0 d1 d2 d3 d4 d5
                have hrow := HS7.out.2.set (p := k) (y := ⟨xk, xc, xs, xst, .slice xa xb xc2, .slice xd xe xf⟩) (by omega)
                have hbel := below_st6 (p := k * 6) (y := ⟨xk, xc, xs, xst, .slice xa xb xc2, .slice xd xe xf⟩) HS7.out.1 hq0
                unfold Od.st6 at hrow hbel
                simp only at hrow hbel
                have HREL := Lib.hid (And.intro hbel hrow)
                clear hrow hbel
                have kl1 : (k : Int) < (l'.length : Int) := by omega
                have kl2 : k < l'.length := by omega
                go_wp2
                go_roundw
                case rel => exact ⟨k + 1, m + 1, _, by go_num, by go_num, by omega, by omega, by rw [List.length_set]; exact hcl, Lib.hid HREL.out, HCS⟩
                case measure => simp [intOf]; omega
            · have m1 : ¬ ((m : Int) + 1) < (M : Int) := by omega
              have hr : j + 1 + (m + 1) = l'.length := by omega
              obtain ⟨zs, hz1, hz2⟩ := run_clear6 wr q (k * 6) (l'.length - k) (cap - k) (by omega) (fun i hi => by rw [Nat.add_comm]; exact HS.out.2.cellAt _ (by omega)) (fun o => HS.out.2.free o)
              have HZ1 := Lib.hid hz1
              have kl1 : (k : Int) ≤ (l'.length : Int) := by omega
              have kl2 : k ≤ l'.length := by omega
              clear hz1
              go_wp2
              go_ret
              have hlen : (pk S l' l'.length).length = k := by rw [pk_len (Nat.le_refl _), ← hr]; exact HCI.out.many
              refine ⟨below_setC q hq0 zs _ _ HS.out.1, _, _, _, rfl, some ⟨q, 0, none⟩, cap, by rw [hlen], by omega, by unfold maxLen; omega, (fun h => by cases h), fun h0 => ⟨q, 0, rfl, by rw [size_setC]; exact HS.out.2.lt, fun p y hy => ?_⟩⟩
              have hp : p < k := by rw [← hlen]; exact (List.getElem?_eq_some_iff.1 hy).1
              rw [Nat.zero_add]
              exact Od.At6.setC (HS.out.2.at6 p y ((HCI.out.done hr p hp).trans hy)) (by omega) zs
        · have hcd : decide (c = 0) = false := decide_eq_false hc0
          have HK0 : Hid (kp S (j + 1) = true) := Lib.hid (by rw [HKT.out]; simp [hc0])
          rw [hcd] at HUE
          go_wp2
          refine wp_region_held_drew (S := Si w0 q l') (by kernel_rfl) (show Si w0 q l' wr.drew from ⟨HS.out.1.drew, HS.out.2.on rfl⟩) (fun hHeld => ?_)
          refine take_put (i := 0) (d := 18) (oi := _) (v := ?vx0) rfl rfl (by kernel_rfl) (by kernel_rfl) (by kernel_rfl) (fun _ _ _ h => h) (Or.inl ⟨by rfl, ?yx0⟩) hHeld ?rx0
          case yx0 => (intro w hSw; (try dsimp only at hSw); go_simp; try with_reducible rfl)
          simp only [Act.put, List.setIfInBounds_toArray, List.set_cons_zero, List.set_cons_succ]
          refine take_put (i := 1) (d := 19) (oi := _) (v := ?vx1) rfl rfl (by kernel_rfl) (by kernel_rfl) (by kernel_rfl) (fun _ _ _ h => h) (Or.inl ⟨by rfl, ?yx1⟩) hHeld ?rx1
          case yx1 => (intro w hSw; (try dsimp only at hSw); go_simp; try with_reducible rfl)
          simp only [Act.put, List.setIfInBounds_toArray, List.set_cons_zero, List.set_cons_succ]
          refine take_put (i := 2) (d := 20) (oi := _) (v := ?vx2) rfl rfl (by kernel_rfl) (by kernel_rfl) (by kernel_rfl) (fun _ _ _ h => h) (Or.inl ⟨by rfl, ?yx2⟩) hHeld ?rx2
          case yx2 => (intro w hSw; (try dsimp only at hSw); go_simp; try with_reducible rfl)
          simp only [Act.put, List.setIfInBounds_toArray, List.set_cons_zero, List.set_cons_succ]
          refine take_put (i := 3) (d := 21) (oi := _) (v := ?vx3) rfl rfl (by kernel_rfl) (by kernel_rfl) (by kernel_rfl) (fun _ _ _ h => h) (Or.inl ⟨by rfl, ?yx3⟩) hHeld ?rx3
          case yx3 => (intro w hSw; (try dsimp only at hSw); go_simp; try with_reducible rfl)
          simp only [Act.put, List.setIfInBounds_toArray, List.set_cons_zero, List.set_cons_succ]
          refine take_put (i := 4) (d := 22) (oi := _) (v := ?vx4) rfl rfl (by kernel_rfl) (by kernel_rfl) (by kernel_rfl) (fun _ _ _ h => h) (Or.inl ⟨by rfl, ?yx4⟩) hHeld ?rx4
          case yx4 => (intro w hSw; (try dsimp only at hSw); go_simp; try with_reducible rfl)
          simp only [Act.put, List.setIfInBounds_toArray, List.set_cons_zero, List.set_cons_succ]
          refine take_put (i := 5) (d := 23) (oi := _) (v := ?vx5) rfl rfl (by kernel_rfl) (by kernel_rfl) (by kernel_rfl) (fun _ _ _ h => h) (Or.inl ⟨by rfl, ?yx5⟩) hHeld ?rx5
          case yx5 => (intro w hSw; (try dsimp only at hSw); go_simp; try with_reducible rfl)
          simp only [Act.put, List.setIfInBounds_toArray, List.set_cons_zero, List.set_cons_succ]
          refine take_put (i := 6) (d := 24) (oi := _) (v := ?vx6) rfl rfl (by kernel_rfl) (by kernel_rfl) (by kernel_rfl) (fun _ _ _ h => h) (Or.inl ⟨by rfl, ?yx6⟩) hHeld ?rx6
          case yx6 => (intro w hSw; (try dsimp only at hSw); go_simp; try with_reducible rfl)
          simp only [Act.put, List.setIfInBounds_toArray, List.set_cons_zero, List.set_cons_succ]
          refine take_put (i := 7) (d := 25) (oi := _) (v := ?vx7) rfl rfl (by kernel_rfl) (by kernel_rfl) (by kernel_rfl) (fun _ _ _ h => h) (Or.inl ⟨by rfl, ?yx7⟩) hHeld ?rx7
          case yx7 => (intro w hSw; (try dsimp only at hSw); go_simp; try with_reducible rfl)
          simp only [Act.put, List.setIfInBounds_toArray, List.set_cons_zero, List.set_cons_succ]
          refine take_put (i := 8) (d := 26) (oi := _) (v := ?vx8) rfl rfl (by kernel_rfl) (by kernel_rfl) (by kernel_rfl) (fun _ _ _ h => h) (Or.inl ⟨by rfl, ?yx8⟩) hHeld ?rx8
          case yx8 => (intro w hSw; (try dsimp only at hSw); go_simp; try with_reducible rfl)
          simp only [Act.put, List.setIfInBounds_toArray, List.set_cons_zero, List.set_cons_succ]
          refine take_put (i := 9) (d := 27) (oi := _) (v := ?vx9) rfl rfl (by kernel_rfl) (by kernel_rfl) (by kernel_rfl) (fun _ _ _ h => h) (Or.inl ⟨by rfl, ?yx9⟩) hHeld ?rx9
          case yx9 => (intro w hSw; (try dsimp only at hSw); go_simp; try with_reducible rfl)
          simp only [Act.put, List.setIfInBounds_toArray, List.set_cons_zero, List.set_cons_succ]
          refine wpAnyH_ready (rs := [10]) (by kernel_rfl) (by simp) (AllReadyH.cons (o := _) rfl (fun K hK => ?_) AllReadyH.nil)
          go_simp
          refine (HUE.out _ hHeld.1).mono ?_
          rintro e w6 ⟨rfl, b6⟩
          (try dsimp only)
          refine hK.out _ _ (show Si w0 q l' w6 from ⟨bT hHeld.1 b6, hHeld.2.on (b6.block q hHeld.2.lt)⟩) (fun hHeld => ?_)
          clear hK K
          refine wpAnyH_done (by kernel_rfl) ?_ _
          have HS6 : Hid (Si w0 q l' w6) := Lib.hid hHeld
          have HW6 : Hid (Below w.heap.size w w6) := Lib.hid (bT HW.out.drew b6)
          clear hHeld b6 HKT hcd hc0 HUE HW a0 a1 a2 a3 a4 a5 e0 e1 e2 e3 e4 e5 HS
          go_wp2
          go_roundw
          case rel => exact ⟨j + 1, by go_num, by omega, HS6, HW6, Lib.hid (fun i hi => by
            by_cases e : i = j + 1
            · subst e; exact HK0.out
            · exact HK.out i (by omega))⟩
          case measure => simp [intOf]; omega
      · have i2 : ¬ ((j : Int) + 1) < (l'.length : Int) := by omega
        go_wp2
        go_ret
        exact HSA.out _ HW.out (fun i hi => HK.out i (by omega))
/-- what Unique answers -/
def UnP (w : World) (ts : List JV) (e : Ending) (w' : World) : Prop := Below w.heap.size w w' ∧ ∃ ao n cap ok, e = .returned (.tuple #[.slice ao n cap, .bool ok]) ∧ (ok = false → Value.slice ao n cap = .slice none 0 0 ∧ ¬ ts.Pairwise Ans) ∧
  (ok = true → ts.Pairwise Ans ∧ ∃ l', Vs w' (.slice ao n cap) (pk (refS ts) l' l'.length) ∧ l'.length = ts.length ∧ ∀ (j : Nat) (y : Six) (z : JV), l'[j]? = some y → (refS ts)[j]? = some z → ∃ n, VT w n y z)
set_option maxRecDepth 100000 in
set_option maxHeartbeats 8000000 in
theorem unique_any (v : Value) (l : List Six) (ts : List JV) (w : World) (hv : Vs w v l) (hl : l.length = ts.length) (ht : ∀ (j : Nat) (y : Six) (z : JV), l[j]? = some y → ts[j]? = some z → ∃ n, VT w n y z) (hn : l.length ≤ 12) :
    Calls Try.prog 19 #[v] w (UnP w ts) := by
  have hso := sort_any v l ts w hv hl ht hn
  obtain ⟨bo, bcap, rfl, _, _⟩ := hv.form
  have HSO := Lib.hid hso
  have HL := Lib.hid hl
  clear hso hl ht hv
  go_enter Try.func19, Try.ntmps19
  go_upto_region 2 with (go_at_call 17; refine HSO.out.mono ?_; rintro e w2 ⟨ao, n, cap, ok, rfl, hsr⟩; have HSR := Lib.hid hsr; clear hsr)
  cases ok with
  | false =>
    go_wp2
    go_ret2
    exact ⟨HSR.out.1, none, 0, 0, false, rfl, fun _ => ⟨rfl, (HSR.out.2.1 (by trivial)).2⟩, fun h => by cases h⟩
  | true =>
  obtain ⟨hch, hpm, ao', cap', l', he, hc1, hc2, hq, hv', hl', ht'⟩ := HSR.out.2.2 (by trivial)
  injection he with e1 e2 e3
  subst e1 e2 e3
  have hpw : ts.Pairwise Ans := (ans_perm hpm).1 (Ch.ans hch)
  rw [← hl'] at hv' hc1 hq
  have hcp := compact_any w (refS ts) l' ao cap w2 HSR.out.1 hv' hc1 hc2 hq (by rw [hl', refS_len]) ht' (by have := HL.out; omega)
  rw [hl'] at hcp
  have HCP := Lib.hid hcp
  have HLL := Lib.hid hl'
  have HT := Lib.hid ht'
  have HPW := Lib.hid hpw
  clear hcp hl' ht' hpw hch hpm hc1 hc2 hq hv' HSR HSO
  go_wp2_with (go_at_call 38; refine HCP.out.mono ?_; rintro e w3 ⟨b3, ao3, n3, cap3, rfl, hv3⟩; have HB3 := Lib.hid b3; have HV3 := Lib.hid hv3; clear b3 hv3)
  go_ret2
  exact ⟨HB3.out, ao3, n3, cap3, true, rfl, (fun h => by cases h), fun _ => ⟨HPW.out, l', HV3.out, HLL.out, HT.out⟩⟩
end Od
end Go.Proofs.Ytkmfoclhhnhkdaa
