/- Layer 13: the token ahead in a row of bytes, by what num and utf answer; no program. -/
import Derived.Test.YtpddkchnogfjkaaGreatDoorLxPa
import Derived.Test.YtpddkchnogfjkaaGreatDoorNmParse
import Derived.Test.YtpddkchnogfjkaaGreatDoorUtUnq
import Derived.Laws.AppendOwn
import Derived.Laws.AppendOwnNone
namespace Go.Proofs.YtpddkchnogfjkaaGreatDoor
open Go.RowKit
namespace Lx
open _root_.Go.Proofs.YtpddkchnogfjkaaGreatDoor.Nm (prs nv)
open _root_.Go.Proofs.YtpddkchnogfjkaaGreatDoor.Ut (ansV rdO)
theorem ans_form (o : Option (Int × Nat)) : ∃ (c s : Int) (e : Nat), Nm.ans o = .tuple #[.agg #[.int .i64 c, .int .i64 s], .int .i64 (e : Nat)] := by
  cases o with
  | none => exact ⟨0, 0, 8, rfl⟩
  | some p => exact ⟨_, _, 0, rfl⟩
theorem prs_form (l : List UInt8) : ∃ (c s : Int) (e : Nat), prs l = .tuple #[.agg #[.int .i64 c, .int .i64 s], .int .i64 (e : Nat)] := by
  unfold prs
  split
  · exact ⟨0, 0, 3, rfl⟩
  · dsimp only
    split
    · exact ⟨0, 0, 0, rfl⟩
    · exact ans_form _
def numN (l : List UInt8) : Int × Int × Nat := match prs l with
  | .tuple #[.agg #[.int _ c, .int _ s], .int _ e] => (c, s, e.toNat)
  | _ => (0, 0, 0)
def strS (l : List UInt8) : List UInt8 × Nat := match ansV (rdO ⟨l.toArray⟩) with
  | .tuple #[.string b, .int _ e] => (b.data.toList, e.toNat)
  | _ => ([], 0)
abbrev tokL := tok numN strS
def tkV (i : Nat) : Except Nat (Nat × List UInt8 × (Int × Int) × Nat) → Value
  | .error e => .agg #[.int .i64 0, .string ByteArray.empty, .int .i64 0, .int .i64 0, .int .i64 0, .int .i64 0, .int .i64 (e : Nat)]
  | .ok (k, t, n, m) => .agg #[.int .i64 (k : Nat), .string ⟨t.toArray⟩, .int .i64 n.1, .int .i64 n.2, .int .i64 (i : Nat), .int .i64 (m : Nat), .int .i64 0]
theorem ex_sub (s : ByteArray) (a b : Nat) : s.extract a b = ⟨((s.data.toList.drop a).take (b - a)).toArray⟩ := by
  apply ByteArray.ext
  rw [ByteArray.data_extract]
  apply Array.toList_inj.1
  simp
theorem ret_v {a b : Value} (h : a = b) : Ending.returned a = .returned b := by rw [h]
theorem dl_0 {c : UInt8} (h : c.toNat ≠ 36) : dl c = 0 := by unfold dl; rw [if_neg h]
theorem dl_1 {c : UInt8} (h : c.toNat = 36) : dl c = 1 := by unfold dl; rw [if_pos h]
theorem tok_name {s : ByteArray} {i n : Nat} (hi : i < s.size) (hL : isLn s[i].toNat = true) (hn : nmE s i = i + n) :
    tokL (s.data.toList.drop i) = if 16 < n then .error 14 else .ok (1, (s.data.toList.drop i).take n, (0, 0), n) := by
  have h36 : s[i].toNat ≠ 36 := by intro g; rw [g] at hL; cases hL
  have h0 : 0 < n := by
    have e := nmE_run hi hL
    rw [run_go hi (by rw [isW_n, hL]; rfl)] at e
    have := run_ge isW s (i + 1)
    omega
  have hm : nm (s.data.toList.drop i) = n := by unfold nmE at hn; omega
  have hd := at_drop s i hi
  unfold tokL tok
  rw [hd] at hm ⊢
  simp only [isL_n, hL, true_or, if_true, dl_0 h36, List.drop_zero, hm, Nat.add_zero, Nat.zero_add]
  by_cases g : 16 < n
  · rw [if_pos (Or.inr g), if_pos g]
  · rw [if_neg (by omega), if_neg g]
theorem tok_var {s : ByteArray} {i n : Nat} (hi : i < s.size) (hc : s[i].toNat = 36) (hn : nmE s (i + 1) = i + 1 + n) :
    tokL (s.data.toList.drop i) = if n = 0 ∨ 16 < n then .error 14 else .ok (2, (s.data.toList.drop (i + 1)).take n, (0, 0), 1 + n) := by
  have hm : nm (s.data.toList.drop (i + 1)) = n := by unfold nmE at hn; omega
  have hd := at_drop s i hi
  unfold tokL tok
  rw [hd]
  simp only [hc, or_true, if_true, dl_1 hc, List.drop_succ_cons, List.drop_zero, hm]
theorem not_L {c : Nat} (h : isLn c = false) {d : UInt8} (hd : d.toNat = c) (h36 : c ≠ 36) : ¬ (isL d = true ∨ d.toNat = 36) := by
  rw [isL_n, hd, h]; simp [h36]
theorem tok_num {s : ByteArray} {i n : Nat} (hi : i < s.size) (hL : isLn s[i].toNat = false) (h36 : s[i].toNat ≠ 36) (hD : isDn s[i].toNat = true) (hn : numE s i = i + n) :
    tokL (s.data.toList.drop i) = if (numN ((s.data.toList.drop i).take n)).2.2 ≠ 0 then .error (numN ((s.data.toList.drop i).take n)).2.2 else .ok (3, (s.data.toList.drop i).take n, ((numN ((s.data.toList.drop i).take n)).1, (numN ((s.data.toList.drop i).take n)).2.1), n) := by
  have hm : numL (s.data.toList.drop i) = n := by rw [numE_is] at hn; omega
  have hd := at_drop s i hi
  unfold tokL tok
  rw [hd] at hm ⊢
  simp only [if_neg (not_L hL rfl h36), isD_n, hD, if_true, hm]
theorem tok_str {s : ByteArray} {i : Nat} (hi : i < s.size) (hc : s[i].toNat = 34) :
    tokL (s.data.toList.drop i) = match strO s (i + 1) with
      | none => .error 14
      | some n => if (strS ((s.data.toList.drop i).take (n - i))).2 = 3 then .error 14 else if (strS ((s.data.toList.drop i).take (n - i))).2 ≠ 0 then .error (strS ((s.data.toList.drop i).take (n - i))).2 else .ok (4, (strS ((s.data.toList.drop i).take (n - i))).1, (0, 0), n - i) := by
  have hL : isLn s[i].toNat = false := by rw [hc]; rfl
  have hD : isDn s[i].toNat = false := by rw [hc]; rfl
  have hd := at_drop s i hi
  have hN := not_L hL rfl (show s[i].toNat ≠ 36 by omega)
  unfold tokL tok strO
  rw [hd]
  simp only [if_neg hN, isD_n, hD, Bool.false_eq_true, if_false]
  rw [if_pos hc]
  cases strE (s.data.toList.drop (i + 1)) with
  | none => rfl
  | some n =>
    simp only [Option.map_some, show i + 1 + n - i = n + 1 by omega]
theorem tok_sign {s : ByteArray} {i : Nat} (hi : i < s.size) (hL : isLn s[i].toNat = false) (h36 : s[i].toNat ≠ 36) (hD : isDn s[i].toNat = false) (h34 : s[i].toNat ≠ 34) :
    tokL (s.data.toList.drop i) = if twos.contains ((s.data.toList.drop i).take 2) then .ok (5, (s.data.toList.drop i).take 2, (0, 0), 2) else if ones.contains s[i] then .ok (5, [s[i]], (0, 0), 1) else .error 14 := by
  have hd := at_drop s i hi
  unfold tokL tok
  rw [hd]
  simp only [if_neg (not_L hL rfl h36), isD_n, hD, if_neg h34]
  simp
theorem nmE_ge (s : ByteArray) (i : Nat) : i ≤ nmE s i := by unfold nmE; omega
theorem nmE_le {s : ByteArray} {i : Nat} (hi : i ≤ s.size) : nmE s i ≤ s.size := by
  have := nm_le (s.data.toList.drop i)
  rw [List.length_drop] at this
  have e : s.data.toList.length = s.size := by simp
  unfold nmE; omega
theorem ex_size {s : ByteArray} {a b : Nat} (h : b ≤ s.size) : (s.extract a b).size ≤ s.size := by rw [ByteArray.size_extract]; omega
theorem ansV_form (o : Option (Option (List Nat))) : ∃ (b : ByteArray) (e : Nat), ansV o = .tuple #[.string b, .int .i64 (e : Nat)] := by
  unfold ansV
  split
  · exact ⟨_, 3, rfl⟩
  · exact ⟨_, 7, rfl⟩
  · split
    · exact ⟨_, 0, rfl⟩
    · exact ⟨_, 7, rfl⟩
theorem strO_le {s : ByteArray} {k n : Nat} (h : strO s k = some n) : n ≤ s.size ∧ k < n := by
  unfold strO at h
  obtain ⟨m, hm, rfl⟩ := Option.map_eq_some_iff.1 h
  have := strE_le _ _ hm
  rw [List.length_drop] at this
  have e : s.data.toList.length = s.size := by simp
  omega
theorem two_no {s : ByteArray} {i : Nat} (h : s.size < i + 2) : twos.contains ((s.data.toList.drop i).take 2) = false := by
  have hl : ((s.data.toList.drop i).take 2).length < 2 := by
    rw [List.length_take, List.length_drop]
    have e : s.data.toList.length = s.size := by simp
    omega
  generalize (s.data.toList.drop i).take 2 = t at hl
  cases hc : twos.contains t with
  | false => rfl
  | true =>
    have := List.contains_iff_mem.1 hc
    simp only [twos, List.mem_cons, List.not_mem_nil, or_false] at this
    rcases this with rfl | rfl | rfl | rfl | rfl <;> simp at hl
end Lx
end Go.Proofs.YtpddkchnogfjkaaGreatDoor
namespace Go.Proofs.YtpddkchnogfjkaaGreatDoor
open Go.RowKit
namespace Lx
/-- the five cells of a token stand at a place -/
def At5 (w : World) (b p : Nat) (x : Tk) : Prop :=
  w.cell? ⟨b, p, none⟩ = some (.int .i64 (x.k : Nat)) ∧ w.cell? ⟨b, p + 1, none⟩ = some (.string ⟨x.t.toArray⟩) ∧ w.cell? ⟨b, p + 2, none⟩ = some (.int .i64 x.c) ∧
  w.cell? ⟨b, p + 3, none⟩ = some (.int .i64 x.s) ∧ w.cell? ⟨b, p + 4, none⟩ = some (.int .i64 (x.p : Nat))
theorem At5.on {a w : World} {b p : Nat} {x : Tk} (h : At5 a b p x) (hk : b < a.heap.size) (hb : Below a.heap.size a w) : At5 w b p x := by
  obtain ⟨h0, h1, h2, h3, h4⟩ := h
  exact ⟨(hb.cell (p := ⟨b, _, none⟩) hk).trans h0, (hb.cell (p := ⟨b, _, none⟩) hk).trans h1, (hb.cell (p := ⟨b, _, none⟩) hk).trans h2,
    (hb.cell (p := ⟨b, _, none⟩) hk).trans h3, (hb.cell (p := ⟨b, _, none⟩) hk).trans h4⟩
/-- a slice of tokens that reads as a list -/
def Tks (w : World) (v : Value) (l : List Tk) : Prop :=
  ∃ ao cap, v = .slice ao l.length cap ∧ l.length ≤ cap ∧ (0 < l.length → ∃ k o, ao = some ⟨k, o, none⟩ ∧ k < w.heap.size ∧ ∀ j x, l[j]? = some x → At5 w k (o + j * 5) x)
theorem Tks.nil0 (w : World) (ao : Option Addr) (cap : Nat) : Tks w (.slice ao 0 cap) [] := ⟨ao, cap, rfl, Nat.zero_le _, fun h => absurd h (by simp)⟩
theorem Tks.on {a b : World} {v : Value} {l : List Tk} (h : Tks a v l) (hb : Below a.heap.size a b) : Tks b v l := by
  obtain ⟨ao, cap, h1, h2, h⟩ := h
  exact ⟨ao, cap, h1, h2, fun h0 => by
    obtain ⟨k, o, h5, hk, h⟩ := h h0
    exact ⟨k, o, h5, Nat.lt_of_lt_of_le hk hb.size, fun j d hj => (h j d hj).on hk hb⟩⟩
theorem below_drewN {B : Nat} (a : World) (n : Nat) : Below B a (a.drewN n) := ⟨rfl, rfl, rfl, Nat.le_refl _, fun _ _ => rfl⟩
theorem Tks.drewN {a : World} {v : Value} {l : List Tk} (h : Tks a v l) (n : Nat) : Tks (a.drewN n) v l := h.on (below_drewN a n)
/-- what Tokens answers: the tokens, a place, an error's number -/
def ansT (q : ByteArray) : List Tk × Nat × Nat :=
  if 4096 < q.size then ([], 0, 5) else match lxs numN strS 0 q.data.toList with
    | .error (p, e) => ([], p, e)
    | .ok l => (l, 0, 0)
def TokP (q : ByteArray) (w : World) (e : Ending) (w' : World) : Prop :=
  Below w.heap.size w w' ∧ ∃ v, e = .returned (.tuple #[v, .int .i64 ((ansT q).2.1 : Nat), .int .i64 ((ansT q).2.2 : Nat)]) ∧ Tks w' v (ansT q).1
theorem tok_err {N : List UInt8 → Int × Int × Nat} {S : List UInt8 → List UInt8 × Nat} {r : List UInt8} {e : Nat} (h : tok N S r = .error e) : e ≠ 0 := by
  intro h0
  subst h0
  cases r with
  | nil => simp [tok] at h
  | cons c l =>
    simp only [tok] at h
    split at h
    · split at h <;> cases h
    · split at h
      · split at h
        · rename_i hn
          have := Except.error.inj h
          exact hn this
        · cases h
      · split at h
        · split at h
          · cases h
          · split at h
            · cases h
            · split at h
              · rename_i hn
                exact hn (Except.error.inj h)
              · cases h
        · split at h
          · cases h
          · split at h <;> cases h
/-- a block that holds a token -/
def Ub (w : World) (k : Nat) (cs : Array Value) : Prop := w.heap[k]? = some (.cells cs 31 (0, 0))
theorem Ub.lt {w : World} {k : Nat} {cs : Array Value} (h : Ub w k cs) : k < w.heap.size := (Array.getElem?_eq_some_iff.1 h).1
theorem Ub.new (w : World) (cs : Array Value) : Ub (w.alloc (.cells cs 31)) w.heap.size cs := heap_alloc_new w _
theorem Ub.on {a b : World} {k : Nat} {cs : Array Value} (h : Ub a k cs) (hb : Below a.heap.size a b) : Ub b k cs := (hb.block k h.lt).trans h
theorem Ub.set {a : World} {k : Nat} {cs : Array Value} (h : Ub a k cs) (i : Nat) (u : Value) : Ub (a.setCell ⟨k, i, none⟩ u) k (cs.setIfInBounds i u) := by
  unfold Ub at h ⊢
  simp [World.setCell, Array.getElem?_modify, h]
theorem Ub.cell {w : World} {k : Nat} {cs : Array Value} (h : Ub w k cs) (i : Nat) : w.cell? ⟨k, i, none⟩ = cs[i]? := cell_of_row w k i cs _ _ h
theorem Ub.free {w : World} {k : Nat} {cs : Array Value} (h : Ub w k cs) (i : Nat) : w.frozen? ⟨k, i, none⟩ = false := by
  unfold Ub at h
  simp [World.frozen?, h]
theorem Ub.put {w : World} {k : Nat} {x0 x1 x2 x3 x4 : Value} (h : Ub w k #[x0, x1, x2, x3, x4]) (u0 u1 u2 u3 u4 : Value) :
    Ub (((((w.setCell ⟨k, 0, none⟩ u0).setCell ⟨k, 1, none⟩ u1).setCell ⟨k, 2, none⟩ u2).setCell ⟨k, 3, none⟩ u3).setCell ⟨k, 4, none⟩ u4) k #[u0, u1, u2, u3, u4] := by
  have h0 : Ub _ k #[u0, x1, x2, x3, x4] := h.set 0 u0
  have h1 : Ub _ k #[u0, u1, x2, x3, x4] := h0.set 1 u1
  have h2 : Ub _ k #[u0, u1, u2, x3, x4] := h1.set 2 u2
  have h3 : Ub _ k #[u0, u1, u2, u3, x4] := h2.set 3 u3
  exact h3.set 4 u4
theorem Ub.five {w : World} {k : Nat} {x0 x1 x2 x3 x4 : Value} (h : Ub w k #[x0, x1, x2, x3, x4]) : w.cell? ⟨k, 0, none⟩ = some x0 ∧ w.cell? ⟨k, 1, none⟩ = some x1 ∧ w.cell? ⟨k, 2, none⟩ = some x2 ∧ w.cell? ⟨k, 3, none⟩ = some x3 ∧ w.cell? ⟨k, 4, none⟩ = some x4 :=
  ⟨h.cell 0, h.cell 1, h.cell 2, h.cell 3, h.cell 4⟩
end Lx
end Go.Proofs.YtpddkchnogfjkaaGreatDoor
namespace Go.Proofs.YtpddkchnogfjkaaGreatDoor
open Go.RowKit
namespace Lx
open _root_.Go.Proofs.YtpddkchnogfjkaaGreatDoor.Nm (bT)
def five (x : Tk) : List Value := [.int .i64 (x.k : Nat), .string ⟨x.t.toArray⟩, .int .i64 x.c, .int .i64 x.s, .int .i64 (x.p : Nat)]
theorem info5 : (Tryz.prog.info? 31).map (fun i => (i.zero, i.size, i.bytes)) = some (some (.agg #[.int .i64 0, .string ⟨#[]⟩, .int .i64 0, .int .i64 0, .int .i64 0]), 5, 48) := by kernel_rfl
/-- a row of tokens of the call's own -/
def Own5 (B : Nat) (w : World) (v : Value) (l : List Tk) : Prop := w.ownsRow B 31 5 v l.length (l.flatMap five)
theorem Own5.nil (w : World) (B : Nat) : Own5 B w (.slice none 0 0) [] := World.ownsRow_nil w B 31 5
theorem Own5.on {B : Nat} {w w' : World} {v : Value} {l : List Tk} (h : Own5 B w v l) (hb : Below w.heap.size w w') : Own5 B w' v l := by
  obtain ⟨h0, h1⟩ := h
  refine ⟨h0, ?_⟩
  rcases h1 with h1 | ⟨g, cap, cur, h1, h2, h3, h4⟩
  · exact Or.inl h1
  · exact Or.inr ⟨g, cap, cur, h1, h2, (hb.block g (Array.getElem?_eq_some_iff.1 h3).1).trans h3, h4⟩
theorem Own5.set {B k : Nat} {w : World} {v : Value} {l : List Tk} (h : Own5 B w v l) (i : Nat) (u : Value) (hk : k < B) : Own5 B (w.setCell ⟨k, i, none⟩ u) v l := by
  obtain ⟨h0, h1⟩ := h
  refine ⟨h0, ?_⟩
  rcases h1 with h1 | ⟨g, cap, cur, h1, h2, h3, h4⟩
  · exact Or.inl h1
  · refine Or.inr ⟨g, cap, cur, h1, h2, ?_, h4⟩
    rw [RowKit.Below.heap_setCell _ _ _ _ (by show g ≠ k; omega)]
    exact h3
theorem one5 {l : List Tk} : ∀ u ∈ l.flatMap five, u.oneCell' = true := by
  intro u hu
  obtain ⟨y, hy, hu⟩ := List.mem_flatMap.1 hu
  simp only [five, List.mem_cons, List.not_mem_nil, or_false] at hu
  rcases hu with rfl | rfl | rfl | rfl | rfl <;> rfl
theorem Own5.form {B : Nat} {w : World} {v : Value} {l : List Tk} (h : Own5 B w v l) : ∃ ao cap, v = .slice ao l.length cap := by
  rcases h.2 with ⟨h1, h2⟩ | ⟨g, cap, cur, h1, _⟩
  · exact ⟨none, 0, by rw [h1, h2]⟩
  · exact ⟨_, cap, h1⟩
theorem flat5_get : ∀ (l : List Tk) (j i : Nat) (x : Tk) (u : Value), l[j]? = some x → (five x)[i]? = some u → (l.flatMap five)[j * 5 + i]? = some u := by
  intro l
  induction l with
  | nil => intro j i x u h _; simp at h
  | cons y l ih =>
    intro j i x u h hu
    have hi : i < 5 := (List.getElem?_eq_some_iff.1 hu).1
    cases j with
    | zero =>
      simp only [List.getElem?_cons_zero, Option.some.injEq] at h
      subst h
      rw [List.flatMap_cons, List.getElem?_append_left (by show 0 * 5 + i < 5; omega), Nat.zero_mul, Nat.zero_add]
      exact hu
    | succ j =>
      rw [List.getElem?_cons_succ] at h
      rw [List.flatMap_cons, List.getElem?_append_right (by show 5 ≤ _; omega)]
      rw [show (j + 1) * 5 + i - (five y).length = j * 5 + i by show _ - 5 = _; omega]
      exact ih j i x u h hu
theorem Own5.tks {B : Nat} {w : World} {v : Value} {l : List Tk} (h : Own5 B w v l) : Tks w v l := by
  rcases h.2 with ⟨rfl, h2⟩ | ⟨g, cap, cur, rfl, hB, hg, hn, _⟩
  · obtain rfl : l = [] := List.length_eq_zero_iff.1 h2
    exact Tks.nil0 w none 0
  · refine ⟨_, cap, rfl, hn, fun _ => ⟨g, 0, rfl, (Array.getElem?_eq_some_iff.1 hg).1, fun j x hj => ?_⟩⟩
    have hc := World.ownsRow.cells h (g := g) rfl
    have hat : ∀ i u, (five x)[i]? = some u → w.cell? ⟨g, 0 + j * 5 + i, none⟩ = some u := fun i u hu => by
      have := hc (j * 5 + i) u (flat5_get l j i x u hj hu)
      rw [Go.WideShapes.add_plain] at this
      rw [show 0 + j * 5 + i = 0 + (j * 5 + i) by omega]
      exact this
    exact ⟨hat 0 _ rfl, hat 1 _ rfl, hat 2 _ rfl, hat 3 _ rfl, hat 4 _ rfl⟩
/-- one token is put behind a row of the call's own -/
theorem app5 {B : Nat} {w : World} {v : Value} {l : List Tk} {y : Tk} {b : Nat} (ty : TypeId) (h : Own5 B w v l) (hy : w.heap[b]? = some (.cells (five y).toArray 31 (0, 0))) (hn : l.length ≤ 1000000000) (hB : B ≤ w.heap.size) :
    ∃ v' w', (Builtin.append_ #[22, 22] ty #[v, .slice (some ⟨b, 0, none⟩) 1 1]).run Tryz.prog w = .ok v' w' ∧ Own5 B w' v' (l ++ [y]) ∧ (∀ k, k < w.heap.size → v.ownBlock ≠ some k → w'.heap[k]? = w.heap[k]?) ∧ Below B w w' ∧ (v'.ownBlock = v.ownBlock ∨ v'.ownBlock = some w.heap.size) := by
  obtain ⟨i0, hi, hz0, hz1, hz2⟩ := info_parts info5
  obtain ⟨v', w', hr, g1, g2, _, g4⟩ := run_append_own_at (P := Tryz.prog) w B 22 ty 31 i0 _ 5 48 Tryz.underlying22 hi hz0 hz1 hz2 rfl (by decide) v l.length _ h ⟨b, 0, none⟩ 1 1 (five y) rfl (fun j u hj => by
    rw [Go.WideShapes.add_plain, Nat.zero_add, cell_of_row w b j _ _ _ hy]
    simpa using hj) (fun u hu => one5 (l := [y]) u (by simpa using hu)) (by unfold maxLen; omega) (by omega) hB
  refine ⟨v', w', hr, ?_, fun k hk hne => g2.block k hk (fun e => hne e.symm), ⟨g2.os, g2.tape, g2.output, g2.size, fun k hk => g2.block k (by omega) (fun e => ?_)⟩, g4⟩
  · unfold Own5
    rw [List.length_append, List.flatMap_append]
    simpa using g1
  · have := (h.lt k e.symm).1
    omega
theorem wpList_app5 {ops : Array Oper} {rest : List Oper} {o : Oper} {a : Act} {w : World} {Q : Exit → Act → World → Prop} (hgd : o.guard = none) (s x : Operand)
    (hop : o.op = Op.call { callee := Callee.builtin Builtin.append, args := #[s, x], argTypes := #[22, 22] }) (B b : Nat) (v : Value) (l : List Tk) (y : Tk) (hs : a.eval s = v) (hx : a.eval x = .slice (some ⟨b, 0, none⟩) 1 1)
    (h : Own5 B w v l) (hy : w.heap[b]? = some (.cells (five y).toArray 31 (0, 0))) (hn : l.length ≤ 1000000000) (hB : B ≤ w.heap.size)
    (hK : ∀ v' w', Own5 B w' v' (l ++ [y]) → Below B w w' → wpList Tryz.prog ops Q rest (a.put o.dst v') w') :
    wpList Tryz.prog ops Q (o :: rest) a w := by
  refine wpList_plain hgd fun K hK' => ?_
  obtain ⟨v', w', hrun, r1, r2, r3, r4⟩ := app5 o.type h hy hn hB
  unfold Oper.wp
  simp [execOp, hop, resolve, invoke, builtin, hs, hx, hrun, Result.andThen]
  exact hK' _ _ (hK v' w' r1 r3)
end Lx
end Go.Proofs.YtpddkchnogfjkaaGreatDoor
