/- A lattice as its 203 cells. No condition. -/
import Derived.Test.YtmfdclnepmgmlaaLvNames
namespace Go.Proofs.Ytmfdclnepmgmlaa
open Go.RowKit
namespace Lv
/-- a lattice's cells: how many levels, their names, which is below which, joins, meets, the bottom, the top -/
def latA (n : Nat) (nm : Nat → ByteArray) (r : Nat → Nat → Bool) (j m : Nat → Nat → Nat) (bot top : Nat) : Array Value :=
  (Array.range 203).map fun i =>
    if i = 0 then .int .i64 (n : Nat) else if i < 9 then .string (nm (i - 1)) else if i < 73 then .bool (r ((i - 9) / 8) ((i - 9) % 8))
    else if i < 137 then .int .i64 (j ((i - 73) / 8) ((i - 73) % 8) : Nat) else if i < 201 then .int .i64 (m ((i - 137) / 8) ((i - 137) % 8) : Nat)
    else if i = 201 then .int .i64 (bot : Nat) else .int .i64 (top : Nat)
theorem latA_size (n : Nat) (nm : Nat → ByteArray) (r : Nat → Nat → Bool) (j m : Nat → Nat → Nat) (bot top : Nat) : (latA n nm r j m bot top).size = 203 := by simp [latA]
theorem latA_one (n : Nat) (nm : Nat → ByteArray) (r : Nat → Nat → Bool) (j m : Nat → Nat → Nat) (bot top : Nat) : (latA n nm r j m bot top).all (·.oneCell') = true := by
  rw [Array.all_eq_true]
  intro i h
  simp only [latA, Array.getElem_map, Array.getElem_range]
  repeat' split
  all_goals rfl
theorem get_range {f : Nat → Value} {k i : Nat} (h : i < k) : ((Array.range k).map f)[i]? = some (f i) := by
  simp only [Array.getElem?_map, Array.getElem?_range, if_pos h, Option.map_some]
section
variable (n : Nat) (nm : Nat → ByteArray) (r : Nat → Nat → Bool) (j m : Nat → Nat → Nat) (bot top : Nat)
theorem lat_n : (latA n nm r j m bot top)[0]? = some (.int .i64 (n : Nat)) := by
  unfold latA; rw [get_range (by omega)]; rfl
theorem lat_nm (i : Nat) (h : i < 8) : (latA n nm r j m bot top)[1 + i]? = some (.string (nm i)) := by
  unfold latA; rw [get_range (by omega), if_neg (by omega), if_pos (by omega), Nat.add_sub_cancel_left]
theorem lat_r (a b : Nat) (ha : a < 8) (hb : b < 8) : (latA n nm r j m bot top)[9 + a * 8 + b]? = some (.bool (r a b)) := by
  unfold latA; rw [get_range (by omega), if_neg (by omega), if_neg (by omega), if_pos (by omega), show (9 + a * 8 + b - 9) / 8 = a by omega, show (9 + a * 8 + b - 9) % 8 = b by omega]
theorem lat_j (a b : Nat) (ha : a < 8) (hb : b < 8) : (latA n nm r j m bot top)[73 + a * 8 + b]? = some (.int .i64 (j a b : Nat)) := by
  unfold latA; rw [get_range (by omega), if_neg (by omega), if_neg (by omega), if_neg (by omega), if_pos (by omega), show (73 + a * 8 + b - 73) / 8 = a by omega, show (73 + a * 8 + b - 73) % 8 = b by omega]
theorem lat_m (a b : Nat) (ha : a < 8) (hb : b < 8) : (latA n nm r j m bot top)[137 + a * 8 + b]? = some (.int .i64 (m a b : Nat)) := by
  unfold latA; rw [get_range (by omega), if_neg (by omega), if_neg (by omega), if_neg (by omega), if_neg (by omega), if_pos (by omega), show (137 + a * 8 + b - 137) / 8 = a by omega, show (137 + a * 8 + b - 137) % 8 = b by omega]
theorem lat_bot : (latA n nm r j m bot top)[201]? = some (.int .i64 (bot : Nat)) := by
  unfold latA; rw [get_range (by omega)]; rfl
theorem lat_top : (latA n nm r j m bot top)[202]? = some (.int .i64 (top : Nat)) := by
  unfold latA; rw [get_range (by omega)]; rfl
theorem lat_set_bot (v : Nat) : (latA n nm r j m bot top).setIfInBounds 201 (.int .i64 (v : Nat)) = latA n nm r j m v top := by
  apply Array.ext
  · simp [latA_size]
  · intro i h1 h2
    simp only [Array.size_setIfInBounds, latA_size] at h1
    rw [Array.getElem_setIfInBounds (by simpa [latA_size] using h1)]
    simp only [latA, Array.getElem_map, Array.getElem_range]
    by_cases h : 201 = i
    · subst h; simp
    · rw [if_neg h]
      have h' : ¬ i = 201 := fun e => h e.symm
      simp only [h', if_false]
theorem lat_set_top (v : Nat) : (latA n nm r j m bot top).setIfInBounds 202 (.int .i64 (v : Nat)) = latA n nm r j m bot v := by
  apply Array.ext
  · simp [latA_size]
  · intro i h1 h2
    simp only [Array.size_setIfInBounds, latA_size] at h1
    rw [Array.getElem_setIfInBounds (by simpa [latA_size] using h1)]
    simp only [latA, Array.getElem_map, Array.getElem_range]
    by_cases h : 202 = i
    · subst h; simp
    · rw [if_neg h]
      have h' : i < 201 ∨ i = 201 := by omega
      rcases h' with h' | h'
      · simp only [h', if_true]
      · subst h'; simp
end
theorem zeroL : (Try.prog.info? 69).map (fun i => (i.zero, i.size)) = some (some (.agg (latA 0 (fun _ => ByteArray.empty) (fun _ _ => false) (fun _ _ => 0) (fun _ _ => 0) 0 0)), 203) := by kernel_rfl
theorem fold_set (off : Nat) : ∀ (vs : List Value) (k : Nat) (cs : Array Value) (i : Nat), off + k + vs.length ≤ cs.size →
    ((vs.zipIdx k).foldl (fun (cs : Array Value) (c : Value × Nat) => cs.setIfInBounds (off + c.2) c.1) cs)[i]? = if off + k ≤ i ∧ i < off + k + vs.length then vs[i - (off + k)]? else cs[i]?
  | [], k, cs, i, _ => by simp; intro h1 h2; omega
  | v :: vs, k, cs, i, h => by
    simp only [List.zipIdx_cons, List.foldl_cons]
    rw [fold_set off vs (k + 1) _ i (by simp at h ⊢; omega)]
    simp only [List.length_cons] at h ⊢
    by_cases h1 : off + (k + 1) ≤ i ∧ i < off + (k + 1) + vs.length
    · rw [if_pos h1, if_pos (by omega), show i - (off + k) = (i - (off + (k + 1))) + 1 by omega, List.getElem?_cons_succ]
    · rw [if_neg h1]
      by_cases h2 : i = off + k
      · subst h2
        rw [if_pos (by omega), Nat.sub_self]
        simp [show off + k < cs.size by omega]
      · rw [if_neg (by omega)]
        rw [Array.getElem?_setIfInBounds_ne (by omega)]
theorem fill_cons {place : Nat → Option (Nat × Nat)} {cells : Array Value} {i off size : Nat} {v : Value} {rest : List (Nat × Value)} {next : Array Value} (hp : place i = some (off, size)) (hs : v.cells.size = size) (hf : off + size ≤ cells.size)
    (hn : v.cells.zipIdx.foldl (fun cs (c, j) => cs.setIfInBounds (off + j) c) cells = next) : Instr.fill place cells ((i, v) :: rest) = Instr.fill place next rest := by
  subst hs
  have : ¬ (decide (v.cells.size ≠ v.cells.size) || decide (off + v.cells.size > cells.size)) = true := by simp; omega
  simp only [Instr.fill, hp]
  rw [if_neg (by simpa using this), hn]
theorem fold_next {off : Nat} {vs cells next : Array Value} (hf : off + vs.size ≤ cells.size) (hsz : next.size = cells.size)
    (h : ∀ i, i < cells.size → next[i]? = if off ≤ i ∧ i < off + vs.size then vs[i - off]? else cells[i]?) :
    vs.zipIdx.foldl (fun cs (c, j) => cs.setIfInBounds (off + j) c) cells = next := by
  apply Array.ext_getElem?
  intro i
  have := fold_set off vs.toList 0 cells i (by simpa using hf)
  simp only [Nat.add_zero, Array.length_toList, Array.getElem?_toList] at this
  rw [← Array.foldl_toList, Array.toList_zipIdx]
  refine Eq.trans this ?_
  by_cases hi : i < cells.size
  · exact (h i hi).symm
  · rw [if_neg (by omega), Array.getElem?_eq_none (by omega), Array.getElem?_eq_none (by omega)]
theorem placesL : (match Try.prog.underlying 69 with | some (.struct fields) => fields.toList.mapM (fun f => (Try.prog.info? f.type).map fun i => (f.offset, i.size)) | _ => none) = some [(0, 1), (1, 8), (9, 64), (73, 64), (137, 64), (201, 1), (202, 1)] := by kernel_rfl
theorem builtL (n : Nat) (r : Nat → Nat → Bool) (j m : Nat → Nat → Nat) :
    Try.prog.built 69 [(0, .int .i64 (n : Nat)), (2, .agg (relA r)), (3, .agg (chA j)), (4, .agg (chA m))] = some (latA n (fun _ => ByteArray.empty) r j m 0 0) := by
  have hz := zeroL
  have hp := placesL
  unfold Program.built
  rw [Try.underlying69] at hp ⊢
  cases hi : Try.prog.info? 69 with
  | none => simp [hi] at hz
  | some it =>
    simp only [hi, Option.map_some, Option.some.injEq, Prod.mk.injEq] at hz
    dsimp only at hp ⊢
    simp only [hz.1, hp]
    refine (fill_cons (off := 0) (size := 1) (next := latA n (fun _ => ByteArray.empty) (fun _ _ => false) (fun _ _ => 0) (fun _ _ => 0) 0 0) rfl rfl (by simp [Value.cells, latA_size]) ?_).trans ?_
    · refine fold_next (by simp [Value.cells, latA_size]) (by simp [Value.cells, latA_size]) fun i hi => ?_
      simp only [Value.cells, latA_size] at hi ⊢
      unfold latA
      rw [get_range hi, get_range hi]
      by_cases h : i = 0
      · subst h; rfl
      · have h' : ¬ (0 ≤ i ∧ i < 0 + #[Value.int IntKind.i64 (n : Nat)].size) := by
          show ¬ (0 ≤ i ∧ i < 0 + 1)
          omega
        refine Eq.trans ?_ (if_neg h').symm
        simp only [h, if_false]
    refine (fill_cons (off := 9) (size := 64) (next := latA n (fun _ => ByteArray.empty) r (fun _ _ => 0) (fun _ _ => 0) 0 0) rfl (by exact relA_size r) (by simp [latA_size]) ?_).trans ?_
    · refine fold_next (by simp [Value.cells, relA_size, latA_size]) (by simp [latA_size]) fun i hi => ?_
      simp only [Value.cells, latA_size, relA_size] at hi ⊢
      unfold latA
      rw [get_range hi, get_range hi]
      by_cases h : 9 ≤ i ∧ i < 9 + 64
      · rw [if_pos h, relA, get_range (by omega)]
        simp only [show ¬ i = 0 by omega, show ¬ i < 9 by omega, show i < 73 by omega, if_true, if_false]
      · rw [if_neg h]
        by_cases h2 : i < 9
        · simp only [h2, if_true]
        · simp only [h2, show ¬ i < 73 by omega, if_false]
    refine (fill_cons (off := 73) (size := 64) (next := latA n (fun _ => ByteArray.empty) r j (fun _ _ => 0) 0 0) rfl (by exact chA_size j) (by simp [latA_size]) ?_).trans ?_
    · refine fold_next (by simp [Value.cells, chA_size, latA_size]) (by simp [latA_size]) fun i hi => ?_
      simp only [Value.cells, latA_size, chA_size] at hi ⊢
      unfold latA
      rw [get_range hi, get_range hi]
      by_cases h : 73 ≤ i ∧ i < 73 + 64
      · rw [if_pos h, chA, get_range (by omega)]
        simp only [show ¬ i = 0 by omega, show ¬ i < 9 by omega, show ¬ i < 73 by omega, show i < 137 by omega, if_true, if_false]
      · rw [if_neg h]
        by_cases h2 : i < 73
        · simp only [h2, if_true]
        · simp only [h2, show ¬ i < 137 by omega, if_false]
    refine (fill_cons (off := 137) (size := 64) (next := latA n (fun _ => ByteArray.empty) r j m 0 0) rfl (by exact chA_size m) (by simp [latA_size]) ?_).trans rfl
    refine fold_next (by simp [Value.cells, chA_size, latA_size]) (by simp [latA_size]) fun i hi => ?_
    simp only [Value.cells, latA_size, chA_size] at hi ⊢
    unfold latA
    rw [get_range hi, get_range hi]
    by_cases h : 137 ≤ i ∧ i < 137 + 64
    · rw [if_pos h, chA, get_range (by omega)]
      simp only [show ¬ i = 0 by omega, show ¬ i < 9 by omega, show ¬ i < 73 by omega, show ¬ i < 137 by omega, show i < 201 by omega, if_true, if_false]
    · rw [if_neg h]
      by_cases h2 : i < 137
      · simp only [h2, if_true]
      · simp only [h2, show ¬ i < 201 by omega, if_false]
theorem wpList_buildL {ops : Array Oper} {rest : List Oper} {o : Oper} {a : Act} {w : World} {Q : Exit → Act → World → Prop} (hgd : o.guard = none) (x0 x2 x3 x4 : Operand)
    (ho : o.op = .build 69 #[(0, x0), (2, x2), (3, x3), (4, x4)]) (n : Nat) (r : Nat → Nat → Bool) (j m : Nat → Nat → Nat) (h0 : a.eval x0 = .int .i64 (n : Nat)) (h2 : a.eval x2 = .agg (relA r)) (h3 : a.eval x3 = .agg (chA j)) (h4 : a.eval x4 = .agg (chA m))
    (h : wpList Try.prog ops Q rest (a.put o.dst (.agg (latA n (fun _ => ByteArray.empty) r j m 0 0))) w) : wpList Try.prog ops Q (o :: rest) a w := by
  have e : (#[(0, x0), (2, x2), (3, x3), (4, x4)].map fun (i, x) => (i, a.eval x)).toList = [(0, .int .i64 (n : Nat)), (2, .agg (relA r)), (3, .agg (chA j)), (4, .agg (chA m))] := by
    simp [h0, h2, h3, h4]
  refine wpList_build hgd _ _ ho ?_ ?_
  · rw [e, builtL]; rfl
  · rw [e, builtL]; exact h
def nmOf (ss : List ByteArray) : Nat → ByteArray := fun i => ss.getD i ByteArray.empty
/-- the names, laid over the lattice's -/
theorem step_copyL {ops : Array Oper} {o : Oper} {a : Act} {w : World} {K : Act → World → Prop} {Q : Exit → Act → World → Prop} {E : Prop} (hgd : o.guard = none) (d s : Operand)
    (ho : o.op = .call { callee := .builtin .copy, args := #[d, s], argTypes := #[25, 25] })
    (g b off sCap : Nat) (ss : List ByteArray) (n : Nat) (r : Nat → Nat → Bool) (j m : Nat → Nat → Nat) (bot top : Nat) (hlen : ss.length ≤ 8)
    (hd : a.eval d = .slice (some ⟨g, 1, none⟩) 8 8) (hs : a.eval s = .slice (some ⟨b, off, none⟩) ss.length sCap)
    (hg : w.heap[g]? = some (.cells (latA n (fun _ => ByteArray.empty) r j m bot top) 69 (0, 0)))
    (hsrc : ∀ i x, ss[i]? = some x → w.cell? ⟨b, off + i, none⟩ = some (.string x))
    (h : K (a.put o.dst (goInt ss.length)) (w.setRow g (latA n (nmOf ss) r j m bot top))) :
    if Region.wanted o (yielded ops a.tmps) = true then Oper.wp Try.prog o a w K Q else E := by
  have hw : Region.wanted o (yielded ops a.tmps) = true := by simp [Region.wanted, hgd]
  rw [if_pos hw]
  have hrun := run_copy_row (P := Try.prog) w 25 25 o.type 9 g 1 8 8 ⟨b, off, none⟩ ss.length sCap (latA n (fun _ => ByteArray.empty) r j m bot top) 69 (ss.map .string) Try.underlying25 (by kernel_rfl) hg
    (by simp only [List.length_map]; exact (Nat.min_eq_left hlen).symm) (fun i v hv => by
      rw [List.getElem?_map] at hv
      cases hx : ss[i]? with
      | none => simp [hx] at hv
      | some x =>
        simp only [hx, Option.map_some, Option.some.injEq] at hv
        subst hv
        rw [Addr.add_mid]
        exact hsrc i x hx) (by simp only [List.length_map, latA_size]; omega) (fun v hv => by
      simp only [List.mem_map] at hv
      obtain ⟨x, _, rfl⟩ := hv
      rfl)
  have hrow : ((latA n (fun _ => ByteArray.empty) r j m bot top).toList.take 1 ++ ss.map Value.string ++ (latA n (fun _ => ByteArray.empty) r j m bot top).toList.drop (1 + (ss.map Value.string).length)).toArray = latA n (nmOf ss) r j m bot top := by
    apply Array.ext_getElem?
    intro i
    have hz := latA_size n (fun _ => ByteArray.empty) r j m bot top
    simp only [List.getElem?_toArray]
    rw [List.getElem?_append, List.getElem?_append]
    simp only [List.length_append, List.length_take, List.length_map, Array.length_toList, hz, List.getElem?_take, List.getElem?_map, List.getElem?_drop, Array.getElem?_toList]
    by_cases hi : i < 203
    · by_cases h0 : i = 0
      · subst h0
        rw [if_pos (by omega), if_pos (by omega), if_pos (by omega), lat_n, lat_n]
      · by_cases h1 : i < 1 + ss.length
        · rw [if_pos (by omega), if_neg (by omega)]
          obtain ⟨k, rfl⟩ : ∃ k, i = 1 + k := ⟨i - 1, by omega⟩
          rw [lat_nm _ _ _ _ _ _ _ _ (by omega), show 1 + k - min 1 203 = k by omega, List.getElem?_eq_getElem (by omega)]
          simp [nmOf, List.getD, List.getElem?_eq_getElem (show k < ss.length by omega)]
        · rw [if_neg (by omega), show 1 + ss.length + (i - (min 1 203 + ss.length)) = i by omega]
          unfold latA
          rw [get_range hi, get_range hi]
          by_cases h9 : i < 9
          · have : ss[i - 1]? = none := List.getElem?_eq_none (by omega)
            simp only [h0, h9, if_true, if_false, nmOf, List.getD, this, Option.getD_none]
          · simp only [h9, if_false]
    · rw [if_neg (by omega), Array.getElem?_eq_none (by rw [latA_size]; omega), Array.getElem?_eq_none (by rw [latA_size]; omega)]
  rw [hrow] at hrun
  unfold Oper.wp
  simp [execOp, ho, resolve, invoke, builtin, hd, hs, hrun, Result.andThen]
  exact h
end Lv
end Go.Proofs.Ytmfdclnepmgmlaa
