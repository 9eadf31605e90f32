/- A lattice as its 203 cells. No condition. -/
import Derived.Test.YtelladgeehlkpaaPd
import Derived.RegionTactic
import Derived.BigRegion
namespace Go.Proofs.Ytelladgeehlkpaa
open Go.RowKit
namespace Lv
/-- a lattice's cells: how many levels, their names, which is below which, joins, meets, the bottom, the top -/
def latA (n : Nat) (nm : Nat → ByteArray) (r : Nat → Nat → Bool) (j m : Nat → Nat → Nat) (bot top : Nat) : Array Value :=
  (Array.range 203).map fun i =>
    if i = 0 then .int .i64 (n : Nat) else if i < 9 then .string (nm (i - 1)) else if i < 73 then .bool (r ((i - 9) / 8) ((i - 9) % 8))
    else if i < 137 then .int .i64 (j ((i - 73) / 8) ((i - 73) % 8) : Nat) else if i < 201 then .int .i64 (m ((i - 137) / 8) ((i - 137) % 8) : Nat)
    else if i = 201 then .int .i64 (bot : Nat) else .int .i64 (top : Nat)
set_option maxRecDepth 100000 in
theorem latA_size (n : Nat) (nm : Nat → ByteArray) (r : Nat → Nat → Bool) (j m : Nat → Nat → Nat) (bot top : Nat) : (latA n nm r j m bot top).size = 203 := by simp [latA]
set_option maxRecDepth 100000 in
theorem latA_one (n : Nat) (nm : Nat → ByteArray) (r : Nat → Nat → Bool) (j m : Nat → Nat → Nat) (bot top : Nat) : (latA n nm r j m bot top).all (·.oneCell') = true := by
  rw [Array.all_eq_true]
  intro i h
  simp only [latA, Array.getElem_map, Array.getElem_range]
  repeat' split
  all_goals rfl
set_option maxRecDepth 100000 in
theorem get_range {f : Nat → Value} {k i : Nat} (h : i < k) : ((Array.range k).map f)[i]? = some (f i) := by
  simp only [Array.getElem?_map, Array.getElem?_range, if_pos h, Option.map_some]
section
variable (n : Nat) (nm : Nat → ByteArray) (r : Nat → Nat → Bool) (j m : Nat → Nat → Nat) (bot top : Nat)
set_option maxRecDepth 100000 in
theorem lat_n : (latA n nm r j m bot top)[0]? = some (.int .i64 (n : Nat)) := by
  unfold latA; rw [get_range (by omega)]; rfl
set_option maxRecDepth 100000 in
theorem lat_nm (i : Nat) (h : i < 8) : (latA n nm r j m bot top)[1 + i]? = some (.string (nm i)) := by
  unfold latA; rw [get_range (by omega), if_neg (by omega), if_pos (by omega), Nat.add_sub_cancel_left]
set_option maxRecDepth 100000 in
theorem lat_r (a b : Nat) (ha : a < 8) (hb : b < 8) : (latA n nm r j m bot top)[9 + a * 8 + b]? = some (.bool (r a b)) := by
  unfold latA; rw [get_range (by omega), if_neg (by omega), if_neg (by omega), if_pos (by omega), show (9 + a * 8 + b - 9) / 8 = a by omega, show (9 + a * 8 + b - 9) % 8 = b by omega]
set_option maxRecDepth 100000 in
theorem lat_j (a b : Nat) (ha : a < 8) (hb : b < 8) : (latA n nm r j m bot top)[73 + a * 8 + b]? = some (.int .i64 (j a b : Nat)) := by
  unfold latA; rw [get_range (by omega), if_neg (by omega), if_neg (by omega), if_neg (by omega), if_pos (by omega), show (73 + a * 8 + b - 73) / 8 = a by omega, show (73 + a * 8 + b - 73) % 8 = b by omega]
set_option maxRecDepth 100000 in
theorem lat_m (a b : Nat) (ha : a < 8) (hb : b < 8) : (latA n nm r j m bot top)[137 + a * 8 + b]? = some (.int .i64 (m a b : Nat)) := by
  unfold latA; rw [get_range (by omega), if_neg (by omega), if_neg (by omega), if_neg (by omega), if_neg (by omega), if_pos (by omega), show (137 + a * 8 + b - 137) / 8 = a by omega, show (137 + a * 8 + b - 137) % 8 = b by omega]
set_option maxRecDepth 100000 in
theorem lat_bot : (latA n nm r j m bot top)[201]? = some (.int .i64 (bot : Nat)) := by
  unfold latA; rw [get_range (by omega)]; rfl
set_option maxRecDepth 100000 in
theorem lat_top : (latA n nm r j m bot top)[202]? = some (.int .i64 (top : Nat)) := by
  unfold latA; rw [get_range (by omega)]; rfl
set_option maxRecDepth 100000 in
theorem lat_set_bot (v : Nat) : (latA n nm r j m bot top).setIfInBounds 201 (.int .i64 (v : Nat)) = latA n nm r j m v top := by
  apply Array.ext
  · simp [latA_size]
  · intro i h1 h2
    simp only [Array.size_setIfInBounds, latA_size] at h1
    rw [Array.getElem_setIfInBounds (by simpa [latA_size] using h1)]
    simp only [latA, Array.getElem_map, Array.getElem_range]
    by_cases h : 201 = i
    · subst h; simp
    · rw [if_neg h]
      have h' : ¬ i = 201 := fun e => h e.symm
      simp only [h', if_false]
set_option maxRecDepth 100000 in
theorem lat_set_top (v : Nat) : (latA n nm r j m bot top).setIfInBounds 202 (.int .i64 (v : Nat)) = latA n nm r j m bot v := by
  apply Array.ext
  · simp [latA_size]
  · intro i h1 h2
    simp only [Array.size_setIfInBounds, latA_size] at h1
    rw [Array.getElem_setIfInBounds (by simpa [latA_size] using h1)]
    simp only [latA, Array.getElem_map, Array.getElem_range]
    by_cases h : 202 = i
    · subst h; simp
    · rw [if_neg h]
      have h' : i < 201 ∨ i = 201 := by omega
      rcases h' with h' | h'
      · simp only [h', if_true]
      · subst h'; simp
end
set_option maxRecDepth 100000 in
theorem zeroL : (Try.prog.info? 85).map (fun i => (i.zero, i.size)) = some (some (.agg (latA 0 (fun _ => ByteArray.empty) (fun _ _ => false) (fun _ _ => 0) (fun _ _ => 0) 0 0)), 203) := by kernel_rfl
set_option maxRecDepth 100000 in
theorem fold_set (off : Nat) : ∀ (vs : List Value) (k : Nat) (cs : Array Value) (i : Nat), off + k + vs.length ≤ cs.size →
    ((vs.zipIdx k).foldl (fun (cs : Array Value) (c : Value × Nat) => cs.setIfInBounds (off + c.2) c.1) cs)[i]? = if off + k ≤ i ∧ i < off + k + vs.length then vs[i - (off + k)]? else cs[i]?
  | [], k, cs, i, _ => by simp; intro h1 h2; omega
  | v :: vs, k, cs, i, h => by
    simp only [List.zipIdx_cons, List.foldl_cons]
    rw [fold_set off vs (k + 1) _ i (by simp at h ⊢; omega)]
    simp only [List.length_cons] at h ⊢
    by_cases h1 : off + (k + 1) ≤ i ∧ i < off + (k + 1) + vs.length
    · rw [if_pos h1, if_pos (by omega), show i - (off + k) = (i - (off + (k + 1))) + 1 by omega, List.getElem?_cons_succ]
    · rw [if_neg h1]
      by_cases h2 : i = off + k
      · subst h2
        rw [if_pos (by omega), Nat.sub_self]
        simp [show off + k < cs.size by omega]
      · rw [if_neg (by omega)]
        rw [Array.getElem?_setIfInBounds_ne (by omega)]
set_option maxRecDepth 100000 in
theorem fill_cons {place : Nat → Option (Nat × Nat)} {cells : Array Value} {i off size : Nat} {v : Value} {rest : List (Nat × Value)} {next : Array Value} (hp : place i = some (off, size)) (hs : v.cells.size = size) (hf : off + size ≤ cells.size)
    (hn : v.cells.zipIdx.foldl (fun cs (c, j) => cs.setIfInBounds (off + j) c) cells = next) : Instr.fill place cells ((i, v) :: rest) = Instr.fill place next rest := by
  subst hs
  have : ¬ (decide (v.cells.size ≠ v.cells.size) || decide (off + v.cells.size > cells.size)) = true := by simp; omega
  simp only [Instr.fill, hp]
  rw [if_neg (by simpa using this), hn]
set_option maxRecDepth 100000 in
theorem fold_next {off : Nat} {vs cells next : Array Value} (hf : off + vs.size ≤ cells.size) (hsz : next.size = cells.size)
    (h : ∀ i, i < cells.size → next[i]? = if off ≤ i ∧ i < off + vs.size then vs[i - off]? else cells[i]?) :
    vs.zipIdx.foldl (fun cs (c, j) => cs.setIfInBounds (off + j) c) cells = next := by
  apply Array.ext_getElem?
  intro i
  have := fold_set off vs.toList 0 cells i (by simpa using hf)
  simp only [Nat.add_zero, Array.length_toList, Array.getElem?_toList] at this
  rw [← Array.foldl_toList, Array.toList_zipIdx]
  refine Eq.trans this ?_
  by_cases hi : i < cells.size
  · exact (h i hi).symm
  · rw [if_neg (by omega), Array.getElem?_eq_none (by omega), Array.getElem?_eq_none (by omega)]
set_option maxRecDepth 100000 in
theorem placesL : (match Try.prog.underlying 85 with | some (.struct fields) => fields.toList.mapM (fun f => (Try.prog.info? f.type).map fun i => (f.offset, i.size)) | _ => none) = some [(0, 1), (1, 8), (9, 64), (73, 64), (137, 64), (201, 1), (202, 1)] := by kernel_rfl
set_option maxRecDepth 100000 in
theorem builtL (n : Nat) (r : Nat → Nat → Bool) (j m : Nat → Nat → Nat) :
    Try.prog.built 85 [(0, .int .i64 (n : Nat)), (2, .agg (relA r)), (3, .agg (chA j)), (4, .agg (chA m))] = some (latA n (fun _ => ByteArray.empty) r j m 0 0) := by
  have hz := zeroL
  have hp := placesL
  unfold Program.built
  rw [Try.underlying85] at hp ⊢
  cases hi : Try.prog.info? 85 with
  | none => simp [hi] at hz
  | some it =>
    simp only [hi, Option.map_some, Option.some.injEq, Prod.mk.injEq] at hz
    dsimp only at hp ⊢
    simp only [hz.1, hp]
    refine (fill_cons (off := 0) (size := 1) (next := latA n (fun _ => ByteArray.empty) (fun _ _ => false) (fun _ _ => 0) (fun _ _ => 0) 0 0) rfl rfl (by simp [Value.cells, latA_size]) ?_).trans ?_
    · refine fold_next (by simp [Value.cells, latA_size]) (by simp [Value.cells, latA_size]) fun i hi => ?_
      simp only [Value.cells, latA_size] at hi ⊢
      unfold latA
      rw [get_range hi, get_range hi]
      by_cases h : i = 0
      · subst h; rfl
      · have h' : ¬ (0 ≤ i ∧ i < 0 + #[Value.int IntKind.i64 (n : Nat)].size) := by
          show ¬ (0 ≤ i ∧ i < 0 + 1)
          omega
        refine Eq.trans ?_ (if_neg h').symm
        simp only [h, if_false]
    refine (fill_cons (off := 9) (size := 64) (next := latA n (fun _ => ByteArray.empty) r (fun _ _ => 0) (fun _ _ => 0) 0 0) rfl (by exact relA_size r) (by simp [latA_size]) ?_).trans ?_
    · refine fold_next (by simp [Value.cells, relA_size, latA_size]) (by simp [latA_size]) fun i hi => ?_
      simp only [Value.cells, latA_size, relA_size] at hi ⊢
      unfold latA
      rw [get_range hi, get_range hi]
      by_cases h : 9 ≤ i ∧ i < 9 + 64
      · rw [if_pos h, relA, get_range (by omega)]
        simp only [show ¬ i = 0 by omega, show ¬ i < 9 by omega, show i < 73 by omega, if_true, if_false]
      · rw [if_neg h]
        by_cases h2 : i < 9
        · simp only [h2, if_true]
        · simp only [h2, show ¬ i < 73 by omega, if_false]
    refine (fill_cons (off := 73) (size := 64) (next := latA n (fun _ => ByteArray.empty) r j (fun _ _ => 0) 0 0) rfl (by exact chA_size j) (by simp [latA_size]) ?_).trans ?_
    · refine fold_next (by simp [Value.cells, chA_size, latA_size]) (by simp [latA_size]) fun i hi => ?_
      simp only [Value.cells, latA_size, chA_size] at hi ⊢
      unfold latA
      rw [get_range hi, get_range hi]
      by_cases h : 73 ≤ i ∧ i < 73 + 64
      · rw [if_pos h, chA, get_range (by omega)]
        simp only [show ¬ i = 0 by omega, show ¬ i < 9 by omega, show ¬ i < 73 by omega, show i < 137 by omega, if_true, if_false]
      · rw [if_neg h]
        by_cases h2 : i < 73
        · simp only [h2, if_true]
        · simp only [h2, show ¬ i < 137 by omega, if_false]
    refine (fill_cons (off := 137) (size := 64) (next := latA n (fun _ => ByteArray.empty) r j m 0 0) rfl (by exact chA_size m) (by simp [latA_size]) ?_).trans rfl
    refine fold_next (by simp [Value.cells, chA_size, latA_size]) (by simp [latA_size]) fun i hi => ?_
    simp only [Value.cells, latA_size, chA_size] at hi ⊢
    unfold latA
    rw [get_range hi, get_range hi]
    by_cases h : 137 ≤ i ∧ i < 137 + 64
    · rw [if_pos h, chA, get_range (by omega)]
      simp only [show ¬ i = 0 by omega, show ¬ i < 9 by omega, show ¬ i < 73 by omega, show ¬ i < 137 by omega, show i < 201 by omega, if_true, if_false]
    · rw [if_neg h]
      by_cases h2 : i < 137
      · simp only [h2, if_true]
      · simp only [h2, show ¬ i < 201 by omega, if_false]
set_option maxRecDepth 100000 in
theorem wpList_buildL {ops : Array Oper} {rest : List Oper} {o : Oper} {a : Act} {w : World} {Q : Exit → Act → World → Prop} (hgd : o.guard = none) (x0 x2 x3 x4 : Operand)
    (ho : o.op = .build 85 #[(0, x0), (2, x2), (3, x3), (4, x4)]) (n : Nat) (r : Nat → Nat → Bool) (j m : Nat → Nat → Nat) (h0 : a.eval x0 = .int .i64 (n : Nat)) (h2 : a.eval x2 = .agg (relA r)) (h3 : a.eval x3 = .agg (chA j)) (h4 : a.eval x4 = .agg (chA m))
    (h : wpList Try.prog ops Q rest (a.put o.dst (.agg (latA n (fun _ => ByteArray.empty) r j m 0 0))) w) : wpList Try.prog ops Q (o :: rest) a w := by
  have e : (#[(0, x0), (2, x2), (3, x3), (4, x4)].map fun (i, x) => (i, a.eval x)).toList = [(0, .int .i64 (n : Nat)), (2, .agg (relA r)), (3, .agg (chA j)), (4, .agg (chA m))] := by
    simp [h0, h2, h3, h4]
  refine wpList_build hgd _ _ ho ?_ ?_
  · rw [e, builtL]; rfl
  · rw [e, builtL]; exact h
def nmOf (ss : List ByteArray) : Nat → ByteArray := fun i => ss.getD i ByteArray.empty
set_option maxRecDepth 100000 in
/-- the names, laid over the lattice's -/
theorem step_copyL {ops : Array Oper} {o : Oper} {a : Act} {w : World} {K : Act → World → Prop} {Q : Exit → Act → World → Prop} {E : Prop} (hgd : o.guard = none) (d s : Operand)
    (ho : o.op = .call { callee := .builtin .copy, args := #[d, s], argTypes := #[25, 25] })
    (g b off sCap : Nat) (ss : List ByteArray) (n : Nat) (r : Nat → Nat → Bool) (j m : Nat → Nat → Nat) (bot top : Nat) (hlen : ss.length ≤ 8)
    (hd : a.eval d = .slice (some ⟨g, 1, none⟩) 8 8) (hs : a.eval s = .slice (some ⟨b, off, none⟩) ss.length sCap)
    (hg : w.heap[g]? = some (.cells (latA n (fun _ => ByteArray.empty) r j m bot top) 85 (0, 0)))
    (hsrc : ∀ i x, ss[i]? = some x → w.cell? ⟨b, off + i, none⟩ = some (.string x))
    (h : K (a.put o.dst (goInt ss.length)) (w.setRow g (latA n (nmOf ss) r j m bot top))) :
    if Region.wanted o (yielded ops a.tmps) = true then Oper.wp Try.prog o a w K Q else E := by
  have hw : Region.wanted o (yielded ops a.tmps) = true := by simp [Region.wanted, hgd]
  rw [if_pos hw]
  have hrun := run_copy_row (P := Try.prog) w 25 25 o.type 9 g 1 8 8 ⟨b, off, none⟩ ss.length sCap (latA n (fun _ => ByteArray.empty) r j m bot top) 85 (ss.map .string) Try.underlying25 (by kernel_rfl) hg
    (by simp only [List.length_map]; exact (Nat.min_eq_left hlen).symm) (fun i v hv => by
      rw [List.getElem?_map] at hv
      cases hx : ss[i]? with
      | none => simp [hx] at hv
      | some x =>
        simp only [hx, Option.map_some, Option.some.injEq] at hv
        subst hv
        rw [Addr.add_mid]
        exact hsrc i x hx) (by simp only [List.length_map, latA_size]; omega) (fun v hv => by
      simp only [List.mem_map] at hv
      obtain ⟨x, _, rfl⟩ := hv
      rfl)
  have hrow : ((latA n (fun _ => ByteArray.empty) r j m bot top).toList.take 1 ++ ss.map Value.string ++ (latA n (fun _ => ByteArray.empty) r j m bot top).toList.drop (1 + (ss.map Value.string).length)).toArray = latA n (nmOf ss) r j m bot top := by
    apply Array.ext_getElem?
    intro i
    have hz := latA_size n (fun _ => ByteArray.empty) r j m bot top
    simp only [List.getElem?_toArray]
    rw [List.getElem?_append, List.getElem?_append]
    simp only [List.length_append, List.length_take, List.length_map, Array.length_toList, hz, List.getElem?_take, List.getElem?_map, List.getElem?_drop, Array.getElem?_toList]
    by_cases hi : i < 203
    · by_cases h0 : i = 0
      · subst h0
        rw [if_pos (by omega), if_pos (by omega), if_pos (by omega), lat_n, lat_n]
      · by_cases h1 : i < 1 + ss.length
        · rw [if_pos (by omega), if_neg (by omega)]
          obtain ⟨k, rfl⟩ : ∃ k, i = 1 + k := ⟨i - 1, by omega⟩
          rw [lat_nm _ _ _ _ _ _ _ _ (by omega), show 1 + k - min 1 203 = k by omega, List.getElem?_eq_getElem (by omega)]
          simp [nmOf, List.getD, List.getElem?_eq_getElem (show k < ss.length by omega)]
        · rw [if_neg (by omega), show 1 + ss.length + (i - (min 1 203 + ss.length)) = i by omega]
          unfold latA
          rw [get_range hi, get_range hi]
          by_cases h9 : i < 9
          · have : ss[i - 1]? = none := List.getElem?_eq_none (by omega)
            simp only [h0, h9, if_true, if_false, nmOf, List.getD, this, Option.getD_none]
          · simp only [h9, if_false]
    · rw [if_neg (by omega), Array.getElem?_eq_none (by rw [latA_size]; omega), Array.getElem?_eq_none (by rw [latA_size]; omega)]
  rw [hrow] at hrun
  unfold Oper.wp
  simp [execOp, ho, resolve, invoke, builtin, hd, hs, hrun, Result.andThen]
  exact h
end Lv
end Go.Proofs.Ytelladgeehlkpaa
namespace Go.Proofs.Ytelladgeehlkpaa
open Go.RowKit
namespace Lv
def leastO (r : Nat → Nat → Bool) (n a b : Nat) : Option Nat := (List.range n).find? fun c => r a c && r b c && bbB r n a b c
theorem find_range {p : Nat → Bool} {n k : Nat} (hk : k < n) (h1 : p k = true) (h0 : ∀ d, d < k → p d = false) : (List.range n).find? p = some k := by
  rw [List.find?_eq_some_iff_append]
  refine ⟨h1, List.range k, List.range' (k + 1) (n - (k + 1)), ?_, ?_⟩
  · rw [List.range_eq_range', List.range_eq_range']
    have : k :: List.range' (k + 1) (n - (k + 1)) = List.range' k (n - k) := by
      rw [show n - k = (n - (k + 1)) + 1 by omega, List.range'_succ]
    rw [this]
    have e := List.range'_append_1 (s := 0) (m := k) (n := n - k)
    rw [Nat.zero_add] at e
    rw [e]
    congr 1
    omega
  · intro d hd
    simp [h0 d (by simpa using hd)]
theorem find_range_none {p : Nat → Bool} {n : Nat} (h0 : ∀ d, d < n → p d = false) : (List.range n).find? p = none := by
  rw [List.find?_eq_none]
  intro d hd
  simp [h0 d (by simpa using hd)]
theorem snocF {p : Nat → Bool} {k : Nat} (H : ∀ d, d < k → p d = false) (h : p k = false) : ∀ d, d < k + 1 → p d = false := by
  intro d hd
  by_cases e : d < k
  · exact H d e
  · obtain rfl : d = k := by omega
    exact h
set_option maxHeartbeats 400000 in
theorem least_any (r : Nat → Nat → Bool) (n a b : Nat) (w : World) (hn : n ≤ 8) (ha : a < 8) (hb : b < 8) :
    Calls Try.prog 63 #[.agg (relA r), .int .i64 n, .int .i64 a, .int .i64 b] w fun e w' => e = .returned (.tuple #[.int .i64 ((leastO r n a b).getD 0 : Nat), .bool (leastO r n a b).isSome]) ∧ Below w.heap.size w w' := by
  go_enter Try.func63, Try.ntmps63
  go_wp2
  go_loopw [10, 12] (fun _ i wr => ∃ k : Nat, k ≤ n ∧ i = .int .i64 k ∧ Below w.heap.size w wr ∧ wr.heap[w.heap.size]? = some (.cells (relA r) 81) ∧ ∀ d, d < k → (r a d && r b d && bbB r n a b d) = false) (fun _ i _ => n - (intOf i).toNat)
  case atStart => exact ⟨0, by omega, rfl, (Below.refl _ _).alloc (Nat.le_refl _) _, al_new _ _, fun d h => by omega⟩
  case round =>
    obtain ⟨k, hk, rfl, hbw, hblk, hall⟩ := hrel
    have H := Lib.hid hall
    have HB := Lib.hid hblk
    clear hall hblk
    by_cases hlt : k < n
    · have e1 := relA_at r a k ha (by omega)
      have e2 := relA_at r b k hb (by omega)
      have c1 := (cell_of_row wr w.heap.size (a * 8 + k) _ _ _ HB.out).trans e1
      have c2 := (cell_of_row wr w.heap.size (b * 8 + k) _ _ _ HB.out).trans e2
      clear e1 e2
      cases h1 : r a k
      · rw [h1] at c1
        go_wp2
        go_roundw
        case rel => exact ⟨k + 1, by omega, by go_num, hbw, HB.out, snocF H.out (by simp [h1])⟩
        case measure => simp [intOf]; omega
      · cases h2 : r b k
        · rw [h1] at c1
          rw [h2] at c2
          go_wp2
          go_roundw
          case rel => exact ⟨k + 1, by omega, by go_num, hbw, HB.out, snocF H.out (by simp [h2])⟩
          case measure => simp [intOf]; omega
        · rw [h1] at c1
          rw [h2] at c2
          cases h3 : bbB r n a b k
          · go_wp2_with (first | (refine wpList_loadR rfl _ rfl _ rfl r _ _ HB.out ?_) | (go_at_call 76; refine (below_any r n a b k _ hn ha hb (by omega)).mono ?_; rintro e w1 ⟨rfl, hb1⟩))
            go_roundw
            case rel => exact ⟨k + 1, by omega, by go_num, bt hbw hb1, bkeep hb1 HB.out, snocF H.out (by simp [h3])⟩
            case measure => simp [intOf]; omega
          · go_wp2_with (first | (refine wpList_loadR rfl _ rfl _ rfl r _ _ HB.out ?_) | (go_at_call 76; refine (below_any r n a b k _ hn ha hb (by omega)).mono ?_; rintro e w1 ⟨rfl, hb1⟩))
            go_ret2
            have hf : leastO r n a b = some k := find_range hlt (by simp [h1, h2, h3]) H.out
            exact ⟨by rw [hf]; rfl, bt hbw hb1⟩
    · go_wp2
      go_ret2
      have hf : leastO r n a b = none := find_range_none fun d hd => H.out d (by omega)
      exact ⟨by rw [hf]; rfl, hbw⟩
end Lv
end Go.Proofs.Ytelladgeehlkpaa
namespace Go.Proofs.Ytelladgeehlkpaa
open Go.RowKit
namespace Lv
/-- the join of each two levels that are there, 0 elsewhere -/
def joinT (r : Nat → Nat → Bool) (n : Nat) : Nat → Nat → Nat := fun a b => if a < n ∧ b < n then (leastO r n a b).getD 0 else 0
/-- has each two levels a join? -/
def AllL (r : Nat → Nat → Bool) (n : Nat) : Prop := ∀ a b, a < n → b < n → (leastO r n a b).isSome = true
structure LsTo (r : Nat → Nat → Bool) (n : Nat) (j : Nat → Nat → Nat) (a b : Nat) : Prop where
  val : ∀ x y, x < 8 → y < 8 → j x y = if (x < a ∨ x = a ∧ y < b) ∧ x < n ∧ y < n then (leastO r n x y).getD 0 else 0
  all : ∀ x y, x < n → y < n → (x < a ∨ x = a ∧ y < b) → (leastO r n x y).isSome = true
theorem LsTo.start (r : Nat → Nat → Bool) (n : Nat) : LsTo r n (fun _ _ => 0) 0 0 := ⟨fun x y _ _ => by rw [if_neg (by omega)], fun x y _ _ h => by omega⟩
theorem LsTo.put {r : Nat → Nat → Bool} {n : Nat} {j : Nat → Nat → Nat} {a b k : Nat} (h : LsTo r n j a b) (ha : a < n) (hb : b < n) (hk : leastO r n a b = some k) : LsTo r n (upd j a b k) a (b + 1) :=
  ⟨fun x y hx hy => by
    by_cases e : x = a ∧ y = b
    · obtain ⟨rfl, rfl⟩ := e
      rw [upd_same, if_pos (by omega), hk]; rfl
    · rw [upd_other _ _ _ _ _ _ e, h.val x y hx hy]
      by_cases c : (x < a ∨ x = a ∧ y < b) ∧ x < n ∧ y < n
      · rw [if_pos c, if_pos (by omega)]
      · rw [if_neg c, if_neg (by omega)], fun x y hx hy hh => by
    by_cases e : x = a ∧ y = b
    · obtain ⟨rfl, rfl⟩ := e
      rw [hk]; rfl
    · exact h.all x y hx hy (by omega)⟩
theorem LsTo.row {r : Nat → Nat → Bool} {n : Nat} {j : Nat → Nat → Nat} {a : Nat} (h : LsTo r n j a n) : LsTo r n j (a + 1) 0 :=
  ⟨fun x y hx hy => by
    rw [h.val x y hx hy]
    by_cases c : (x < a ∨ x = a ∧ y < n) ∧ x < n ∧ y < n
    · rw [if_pos c, if_pos (by omega)]
    · rw [if_neg c, if_neg (by omega)], fun x y hx hy hh => h.all x y hx hy (by omega)⟩
theorem LsTo.fin {r : Nat → Nat → Bool} {n : Nat} {j : Nat → Nat → Nat} (h : LsTo r n j n 0) : chA j = chA (joinT r n) ∧ AllL r n :=
  ⟨chA_congr fun x y hx hy => by
    rw [h.val x y hx hy]
    unfold joinT
    by_cases c : x < n ∧ y < n
    · rw [if_pos c, if_pos (by omega)]
    · rw [if_neg c, if_neg (by omega)], fun x y hx hy => h.all x y hx hy (by omega)⟩
structure MemL (w wr : World) (r : Nat → Nat → Bool) (j : Nat → Nat → Nat) : Prop where
  below : Below w.heap.size w wr
  b0 : wr.heap[w.heap.size]? = some (.cells (relA r) 81)
  b1 : ∃ z, wr.heap[w.heap.size + 1]? = some (.cells (chA z) 83)
  b2 : wr.heap[w.heap.size + 1 + 1]? = some (.cells (chA j) 83)
theorem MemL.put {w wr : World} {r : Nat → Nat → Bool} {s : Nat → Nat → Nat} (h : MemL w wr r s) (a c v : Nat) (hc : c < 8) : MemL w (wr.setCell ⟨w.heap.size + 1 + 1, a * 8 + c, none⟩ (.int .i64 (v : Nat))) r (upd s a c v) :=
  ⟨h.below.setCell (by dsimp only; omega) _, (heap_setCell_other _ _ _ _ (by dsimp only; omega)).trans h.b0, h.b1.elim fun z hz => ⟨z, (heap_setCell_other _ _ _ _ (by dsimp only; omega)).trans hz⟩, putC a c v hc h.b2⟩
theorem MemL.go {w wr w1 : World} {r : Nat → Nat → Bool} {s : Nat → Nat → Nat} (h : MemL w wr r s) (hb : Below wr.heap.size wr w1) : MemL w w1 r s :=
  ⟨bt h.below hb, bkeep hb h.b0, h.b1.elim fun z hz => ⟨z, bkeep hb hz⟩, bkeep hb h.b2⟩
theorem MemL.start (w : World) (r : Nat → Nat → Bool) : MemL w (((w.alloc (.cells (relA r) 81)).alloc (.cells (chA fun _ _ => 0) 83)).alloc (.cells (chA fun _ _ => 0) 83)) r (fun _ _ => 0) := by
  have s1 : (w.alloc (.cells (relA r) 81)).heap.size = w.heap.size + 1 := by simp
  have s2 : ((w.alloc (.cells (relA r) 81)).alloc (.cells (chA fun _ _ => 0) 83)).heap.size = w.heap.size + 1 + 1 := by simp
  refine ⟨(((Below.refl _ _).alloc (Nat.le_refl _) _).alloc (by simp) _).alloc (by simp; omega) _, ?_, ⟨fun _ _ => 0, ?_⟩, ?_⟩
  · rw [al_old _ _ _ (by rw [s2]; omega), al_old _ _ _ (by rw [s1]; omega), al_new]
  · rw [al_old _ _ _ (by rw [s2]; omega), ← s1, al_new]
  · rw [← s2, al_new]
/-- what leasts hands back -/
def LsPost (r : Nat → Nat → Bool) (n : Nat) (w : World) (e : Ending) (w' : World) : Prop :=
  Below w.heap.size w w' ∧ ((AllL r n ∧ e = .returned (.tuple #[.agg (chA (joinT r n)), .bool true])) ∨ (¬ AllL r n ∧ e = .returned (.tuple #[.agg (chA fun _ _ => 0), .bool false])))
set_option maxHeartbeats 1000000 in
theorem leasts_any (r : Nat → Nat → Bool) (n : Nat) (w : World) (hn : n ≤ 8) :
    Calls Try.prog 47 #[.agg (relA r), .int .i64 n] w (LsPost r n w) := by
  go_enter Try.func47, Try.ntmps47
  go_wp2
  rw [zeroC]
  go_loopw [7, 12] (fun _ i wr => ∃ (a : Nat) (j : Nat → Nat → Nat), a ≤ n ∧ i = .int .i64 a ∧ MemL w wr r j ∧ LsTo r n j a 0) (fun _ i _ => n - (intOf i).toNat)
  case atStart => exact ⟨0, _, by omega, rfl, MemL.start w r, LsTo.start r n⟩
  case round =>
    obtain ⟨a, j, ha, rfl, hm, hd⟩ := hrel
    obtain ⟨wo, rfl⟩ : ∃ wo : World, wo = wr := ⟨_, rfl⟩
    by_cases hlt : a < n
    · go_wp2
      go_loopw [8, 16] (fun _ i wr => ∃ (b : Nat) (j : Nat → Nat → Nat), b ≤ n ∧ i = .int .i64 b ∧ MemL w wr r j ∧ LsTo r n j a b) (fun _ i _ => n - (intOf i).toNat)
      case atStart => exact ⟨0, j, by omega, rfl, hm, hd⟩
      case round =>
        clear hm hd
        obtain ⟨b, j, hb, rfl, hm, hd⟩ := hrel
        by_cases hlt : b < n
        · cases h0 : leastO r n a b with
          | none =>
            have H0 := Lib.hid h0
            clear h0
            go_wp2_with (first | (refine wpList_loadR rfl _ rfl _ rfl r _ _ hm.b0 ?_) | (go_at_call 63; refine (least_any r n a b _ hn (by omega) (by omega)).mono ?_; rw [H0.out]; rintro e w1 ⟨rfl, hb1⟩; have hm1 := hm.go hb1; obtain ⟨z, hz⟩ := hm1.b1; have HZ := Lib.hid hz; clear hz) | (refine wpList_storeC rfl _ _ rfl _ z _ rfl (congrArg Value.agg zeroC) _ HZ.out ?_))
            refine bodyPost_ret (v := .tuple #[.agg (chA fun _ _ => 0), .bool false]) (resultC2 rfl _ _ _ _ (fun _ _ => 0) _ _ rfl rfl (setRow_heap _ _ _ _ _ _ HZ.out)) rfl ⟨below_setRow hm1.below (by omega) _, .inr ⟨fun h => by have := h a b (by omega) hlt; rw [H0.out] at this; simp at this, rfl⟩⟩
          | some k =>
            have H0 := Lib.hid h0
            clear h0
            go_wp2_with (first | (refine wpList_loadR rfl _ rfl _ rfl r _ _ hm.b0 ?_) | (go_at_call 63; refine (least_any r n a b _ hn (by omega) (by omega)).mono ?_; rw [H0.out]; rintro e w1 ⟨rfl, hb1⟩; have hm1 := hm.go hb1; have c3 := (cell_of_row w1 (w.heap.size + 1 + 1) (a * 8 + b) _ _ _ hm1.b2).trans (chA_at j a b (by omega) (by omega)); have c4 := frozen_of_row w1 (w.heap.size + 1 + 1) (a * 8 + b) _ _ hm1.b2))
            go_roundw
            case rel => exact ⟨b + 1, _, by omega, by go_num, hm1.put a b k (by omega), hd.put (by omega) hlt H0.out⟩
            case measure => simp [intOf]; omega
        · obtain rfl : b = n := by omega
          go_wp2
          go_roundw
          case rel => exact ⟨a + 1, j, by omega, by go_num, hm, hd.row⟩
          case measure => simp [intOf]; omega
    · obtain rfl : a = n := by omega
      obtain ⟨z, hz⟩ := hm.b1
      have HZ := Lib.hid hz
      clear hz
      go_wp2_with (first | (refine wpList_loadC rfl _ rfl _ rfl j _ _ hm.b2 ?_) | (refine wpList_storeC rfl _ _ rfl _ z j rfl rfl _ HZ.out ?_))
      refine bodyPost_ret (v := .tuple #[.agg (chA j), .bool true]) (resultC2 rfl _ _ _ _ j _ _ rfl rfl (setRow_heap _ _ _ _ _ _ HZ.out)) rfl ⟨below_setRow hm.below (by omega) _, .inl ⟨hd.fin.2, by rw [hd.fin.1]⟩⟩
end Lv
end Go.Proofs.Ytelladgeehlkpaa
namespace Go.Proofs.Ytelladgeehlkpaa
open Go.RowKit
namespace Lv
def trn (r : Nat → Nat → Bool) : Nat → Nat → Bool := fun a b => r b a
def shr (r s : Nat → Nat → Bool) : Nat → Nat → Bool := fun a b => r a b && s a b
structure FillTo (f s : Nat → Nat → Bool) (a b : Nat) : Prop where
  val : ∀ x y, x < 8 → y < 8 → (x < a ∨ x = a ∧ y < b) → s x y = f x y
theorem FillTo.start (f : Nat → Nat → Bool) : FillTo f (fun _ _ => false) 0 0 := ⟨fun x y _ _ h => by omega⟩
theorem FillTo.put {f s : Nat → Nat → Bool} {a b : Nat} (h : FillTo f s a b) : FillTo f (upd s a b (f a b)) a (b + 1) :=
  ⟨fun x y hx hy hh => by
    by_cases e : x = a ∧ y = b
    · obtain ⟨rfl, rfl⟩ := e
      rw [upd_same]
    · rw [upd_other _ _ _ _ _ _ e]
      exact h.val x y hx hy (by omega)⟩
theorem FillTo.row {f s : Nat → Nat → Bool} {a : Nat} (h : FillTo f s a 8) : FillTo f s (a + 1) 0 := ⟨fun x y hx hy hh => h.val x y hx hy (by omega)⟩
theorem FillTo.fin {f s : Nat → Nat → Bool} (h : FillTo f s 8 0) : relA s = relA f := relA_congr fun a b ha hb => h.val a b ha hb (by omega)
/-- what turned has filled stands turned about -/
structure TurnTo (r s : Nat → Nat → Bool) (a b : Nat) : Prop where
  val : ∀ x y, x < 8 → y < 8 → (x < a ∨ x = a ∧ y < b) → s y x = r x y
theorem TurnTo.start (f : Nat → Nat → Bool) : TurnTo f (fun _ _ => false) 0 0 := ⟨fun x y _ _ h => by omega⟩
theorem TurnTo.put {f s : Nat → Nat → Bool} {a b : Nat} (h : TurnTo f s a b) : TurnTo f (upd s b a (f a b)) a (b + 1) :=
  ⟨fun x y hx hy hh => by
    by_cases e : y = b ∧ x = a
    · obtain ⟨rfl, rfl⟩ := e
      rw [upd_same]
    · rw [upd_other _ _ _ _ _ _ e]
      exact h.val x y hx hy (by omega)⟩
theorem TurnTo.row {f s : Nat → Nat → Bool} {a : Nat} (h : TurnTo f s a 8) : TurnTo f s (a + 1) 0 := ⟨fun x y hx hy hh => h.val x y hx hy (by omega)⟩
theorem TurnTo.fin {f s : Nat → Nat → Bool} (h : TurnTo f s 8 0) : relA s = relA (trn f) := relA_congr fun a b ha hb => h.val b a hb ha (by omega)
set_option maxHeartbeats 1000000 in
theorem turned_any (r : Nat → Nat → Bool) (w : World) :
    Calls Try.prog 45 #[.agg (relA r)] w fun e w' => e = .returned (.agg (relA (trn r))) ∧ Below w.heap.size w w' := by
  go_enter Try.func45, Try.ntmps45
  go_wp2
  rw [zeroR]
  go_loopw [4, 6] (fun _ i wr => ∃ (a : Nat) (s : Nat → Nat → Bool), a ≤ 8 ∧ i = .int .i64 a ∧ Mem3 w wr r s ∧ TurnTo r s a 0) (fun _ i _ => 8 - (intOf i).toNat)
  case atStart => exact ⟨0, _, by omega, rfl, Mem3.start w r, TurnTo.start r⟩
  case round =>
    obtain ⟨a, s, ha, rfl, hm, hd⟩ := hrel
    obtain ⟨wo, rfl⟩ : ∃ wo : World, wo = wr := ⟨_, rfl⟩
    by_cases hlt : a < 8
    · go_wp2
      go_loopw [5, 9] (fun _ i wr => ∃ (b : Nat) (s : Nat → Nat → Bool), b ≤ 8 ∧ i = .int .i64 b ∧ Mem3 w wr r s ∧ TurnTo r s a b) (fun _ i _ => 8 - (intOf i).toNat)
      case atStart => exact ⟨0, s, by omega, rfl, hm, hd⟩
      case round =>
        clear hm hd
        obtain ⟨b, s, hb, rfl, hm, hd⟩ := hrel
        by_cases hlt : b < 8
        · have c1 := (cell_of_row wr w.heap.size (a * 8 + b) _ _ _ hm.b0).trans (relA_at r a b (by omega) (by omega))
          have c3 := (cell_of_row wr (w.heap.size + 1 + 1) (b * 8 + a) _ _ _ hm.b2).trans (relA_at s b a (by omega) (by omega))
          have c4 := frozen_of_row wr (w.heap.size + 1 + 1) (b * 8 + a) _ _ hm.b2
          go_wp2
          go_region
          go_wp2
          go_roundw
          case rel => exact ⟨b + 1, _, by omega, by go_num, (hm.put b a _ (by omega)).drew, hd.put⟩
          case measure => simp [intOf]; omega
        · obtain rfl : b = 8 := by omega
          go_wp2
          go_roundw
          case rel => exact ⟨a + 1, s, by omega, by go_num, hm, hd.row⟩
          case measure => simp [intOf]; omega
    · obtain rfl : a = 8 := by omega
      obtain ⟨z, hz⟩ := hm.b1
      have HZ := Lib.hid hz
      clear hz
      go_wp2_with (first | (refine wpList_loadR rfl _ rfl _ rfl s _ _ hm.b2 ?_) | (refine wpList_storeR rfl _ _ rfl _ z s rfl rfl _ HZ.out ?_))
      refine bodyPost_ret (v := .agg (relA s)) (resultR rfl _ _ _ _ s _ rfl (setRow_heap _ _ _ _ _ _ HZ.out)) rfl ⟨by rw [hd.fin], below_setRow hm.below (by omega) _⟩
/-- four tables -/
structure Mem4 (w wr : World) (r q s : Nat → Nat → Bool) : Prop where
  below : Below w.heap.size w wr
  b0 : wr.heap[w.heap.size]? = some (.cells (relA r) 81)
  bq : wr.heap[w.heap.size + 1]? = some (.cells (relA q) 81)
  b1 : ∃ z, wr.heap[w.heap.size + 1 + 1]? = some (.cells (relA z) 81)
  b2 : wr.heap[w.heap.size + 1 + 1 + 1]? = some (.cells (relA s) 81)
theorem Mem4.put {w wr : World} {r q s : Nat → Nat → Bool} (h : Mem4 w wr r q s) (a c : Nat) (v : Bool) (hc : c < 8) : Mem4 w (wr.setCell ⟨w.heap.size + 1 + 1 + 1, a * 8 + c, none⟩ (.bool v)) r q (upd s a c v) :=
  ⟨h.below.setCell (by dsimp only; omega) _, (heap_setCell_other _ _ _ _ (by dsimp only; omega)).trans h.b0, (heap_setCell_other _ _ _ _ (by dsimp only; omega)).trans h.bq, h.b1.elim fun z hz => ⟨z, (heap_setCell_other _ _ _ _ (by dsimp only; omega)).trans hz⟩, putR a c v hc h.b2⟩
theorem Mem4.drew {w wr : World} {r q s : Nat → Nat → Bool} (h : Mem4 w wr r q s) : Mem4 w wr.drew r q s := ⟨h.below.drew, h.b0, h.bq, h.b1, h.b2⟩
theorem Mem4.start (w : World) (r q : Nat → Nat → Bool) : Mem4 w ((((w.alloc (.cells (relA r) 81)).alloc (.cells (relA q) 81)).alloc (.cells (relA fun _ _ => false) 81)).alloc (.cells (relA fun _ _ => false) 81)) r q (fun _ _ => false) := by
  generalize hA : w.alloc (.cells (relA r) 81) = w1
  have s1 : w1.heap.size = w.heap.size + 1 := by rw [← hA]; exact al_size _ _
  have g1 : w1.heap[w.heap.size]? = some (.cells (relA r) 81) := by rw [← hA]; exact al_new _ _
  have k1 : Below w.heap.size w w1 := by rw [← hA]; exact (Below.refl _ _).alloc (Nat.le_refl _) _
  have h3 := Mem3.start w1 q
  have e0 : w1.heap.size = w.heap.size + 1 := s1
  refine ⟨bt k1 h3.below, bkeep h3.below g1, ?_, ?_, ?_⟩
  · have := h3.b0
    rwa [s1] at this
  · obtain ⟨z, hz⟩ := h3.b1
    rw [s1] at hz
    exact ⟨z, hz⟩
  · have := h3.b2
    rwa [s1] at this
set_option maxHeartbeats 1000000 in
theorem shared_any (r q : Nat → Nat → Bool) (w : World) :
    Calls Try.prog 46 #[.agg (relA r), .agg (relA q)] w fun e w' => e = .returned (.agg (relA (shr r q))) ∧ Below w.heap.size w w' := by
  go_enter Try.func46, Try.ntmps46
  go_wp2
  rw [zeroR]
  go_loopw [6, 8] (fun _ i wr => ∃ (a : Nat) (s : Nat → Nat → Bool), a ≤ 8 ∧ i = .int .i64 a ∧ Mem4 w wr r q s ∧ FillTo (shr r q) s a 0) (fun _ i _ => 8 - (intOf i).toNat)
  case atStart => exact ⟨0, _, by omega, rfl, Mem4.start w r q, FillTo.start _⟩
  case round =>
    obtain ⟨a, s, ha, rfl, hm, hd⟩ := hrel
    obtain ⟨wo, rfl⟩ : ∃ wo : World, wo = wr := ⟨_, rfl⟩
    by_cases hlt : a < 8
    · go_wp2
      go_loopw [7, 11] (fun _ i wr => ∃ (b : Nat) (s : Nat → Nat → Bool), b ≤ 8 ∧ i = .int .i64 b ∧ Mem4 w wr r q s ∧ FillTo (shr r q) s a b) (fun _ i _ => 8 - (intOf i).toNat)
      case atStart => exact ⟨0, s, by omega, rfl, hm, hd⟩
      case round =>
        clear hm hd
        obtain ⟨b, s, hb, rfl, hm, hd⟩ := hrel
        by_cases hlt : b < 8
        · have c1 := (cell_of_row wr w.heap.size (a * 8 + b) _ _ _ hm.b0).trans (relA_at r a b (by omega) (by omega))
          have c2 := (cell_of_row wr (w.heap.size + 1) (a * 8 + b) _ _ _ hm.bq).trans (relA_at q a b (by omega) (by omega))
          have c3 := (cell_of_row wr (w.heap.size + 1 + 1 + 1) (a * 8 + b) _ _ _ hm.b2).trans (relA_at s a b (by omega) (by omega))
          have c4 := frozen_of_row wr (w.heap.size + 1 + 1 + 1) (a * 8 + b) _ _ hm.b2
          have hput : ∀ v, v = shr r q a b → FillTo (shr r q) (upd s a b v) a (b + 1) := fun v hv => by rw [hv]; exact hd.put
          have HP := Lib.hid hput
          clear hput
          cases h1 : r a b
          · rw [h1] at c1
            go_wp2
            go_region
            go_wp2
            go_roundw
            case rel => exact ⟨b + 1, _, by omega, by go_num, (hm.put a b _ (by omega)).drew, HP.out _ (by simp [shr, h1])⟩
            case measure => simp [intOf]; omega
          · rw [h1] at c1
            go_wp2
            go_region
            go_wp2
            go_roundw
            case rel => exact ⟨b + 1, _, by omega, by go_num, (hm.put a b _ (by omega)).drew, HP.out _ (by simp [shr, h1])⟩
            case measure => simp [intOf]; omega
        · obtain rfl : b = 8 := by omega
          go_wp2
          go_roundw
          case rel => exact ⟨a + 1, s, by omega, by go_num, hm, hd.row⟩
          case measure => simp [intOf]; omega
    · obtain rfl : a = 8 := by omega
      obtain ⟨z, hz⟩ := hm.b1
      have HZ := Lib.hid hz
      clear hz
      go_wp2_with (first | (refine wpList_loadR rfl _ rfl _ rfl s _ _ hm.b2 ?_) | (refine wpList_storeR rfl _ _ rfl _ z s rfl rfl _ HZ.out ?_))
      refine bodyPost_ret (v := .agg (relA s)) (resultR rfl _ _ _ _ s _ rfl (setRow_heap _ _ _ _ _ _ HZ.out)) rfl ⟨by rw [hd.fin], below_setRow hm.below (by omega) _⟩
end Lv
end Go.Proofs.Ytelladgeehlkpaa
namespace Go.Proofs.Ytelladgeehlkpaa
open Go.RowKit
namespace Lv
def eqR (r s : Nat → Nat → Bool) : Bool := (List.range 8).all fun a => (List.range 8).all fun b => r a b == s a b
set_option maxRecDepth 100000 in
theorem eqR_iff {r s : Nat → Nat → Bool} : eqR r s = true ↔ relA r = relA s := by
  unfold eqR
  simp only [List.all_eq_true, List.mem_range, beq_iff_eq]
  constructor
  · exact fun h => relA_congr fun a b ha hb => h a ha b hb
  · exact fun h a ha b hb => relA_inj h a b ha hb
set_option maxRecDepth 100000 in
theorem run_items {P : Program} (d : Nat) (e : TypeId) (c : Nat) (xs ys : Array Value) (w : World) (q : Nat → Bool) : ∀ (is : List Nat),
    (∀ i, i ∈ is → ∃ a b, (part e xs (i * c)).run P w = .ok a w ∧ (part e ys (i * c)).run P w = .ok b w ∧ (Op.equalIn d e a b).run P w = .ok (q i) w) →
    (Op.eqItems d e c xs ys is).run P w = .ok (is.all q) w
  | [], _ => by simp [Op.eqItems]
  | i :: is, h => by
    obtain ⟨a, b, h1, h2, h3⟩ := h i (by simp)
    have ih := run_items d e c xs ys w q is (fun j hj => h j (by simp [hj]))
    simp only [Op.eqItems, Sem.run_bind, h1, h2, h3, Result.andThen_ok]
    cases hq : q i
    · simp [hq]
    · simp [hq, ih]
set_option maxRecDepth 100000 in
theorem cells56 : Try.prog.cellsOf 79 = 8 := by kernel_rfl
set_option maxRecDepth 100000 in
theorem cells4 : Try.prog.cellsOf 4 = 1 := by kernel_rfl
set_option maxRecDepth 100000 in
theorem row_at (r : Nat → Nat → Bool) (a b : Nat) (ha : a < 8) (hb : b < 8) : ((relA r).extract (a * 8) (a * 8 + 8))[b]? = some (.bool (r a b)) := by
  rw [Array.getElem?_extract]
  rw [if_pos (by rw [relA_size]; omega)]
  exact relA_at r a b ha hb
set_option maxRecDepth 100000 in
theorem run_eqRow (d : Nat) (r s : Nat → Nat → Bool) (a : Nat) (ha : a < 8) (w : World) :
    (Op.equalIn (d + 1 + 1) 79 (.agg ((relA r).extract (a * 8) (a * 8 + 8))) (.agg ((relA s).extract (a * 8) (a * 8 + 8)))).run Try.prog w = .ok ((List.range 8).all fun b => r a b == s a b) w := by
  rw [run_equalIn_array w (d + 1) _ _ Try.underlying79 Try.type4, cells4]
  refine run_items _ _ _ _ _ _ _ _ fun b hb => ⟨.bool (r a b), .bool (s a b), ?_, ?_, ?_⟩
  · simp [part, Try.isAgg4, row_at r a b ha (by simpa using hb)]
  · simp [part, Try.isAgg4, row_at s a b ha (by simpa using hb)]
  · exact run_equalIn_bool' w d _ _ _ Try.underlying4
set_option maxRecDepth 100000 in
theorem run_eqR (w : World) (r s : Nat → Nat → Bool) :
    (Op.equalIn 10000 81 (.agg (relA r)) (.agg (relA s))).run Try.prog w = .ok (eqR r s) w := by
  rw [show (10000 : Nat) = 9999 + 1 from rfl, run_equalIn_array w 9999 _ _ Try.underlying81 Try.type79, cells56]
  refine run_items _ _ _ _ _ _ _ _ fun a ha => ⟨.agg ((relA r).extract (a * 8) (a * 8 + 8)), .agg ((relA s).extract (a * 8) (a * 8 + 8)), ?_, ?_, ?_⟩
  · simp [part, Try.isAgg79, Try.sizeOf79]
  · simp [part, Try.isAgg79, Try.sizeOf79]
  · exact run_eqRow 9997 r s a (by simpa using ha) w
end Lv
end Go.Proofs.Ytelladgeehlkpaa
