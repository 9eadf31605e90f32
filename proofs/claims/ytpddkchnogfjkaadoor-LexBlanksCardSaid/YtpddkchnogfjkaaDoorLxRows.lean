/- Layer 13: rows of tokens in memory, and what Tokens answers of every query. -/
import Derived.Test.YtpddkchnogfjkaaDoorLxTokM
namespace Go.Proofs.YtpddkchnogfjkaaDoor
open Go.RowKit
namespace Lx
/-- the five cells of a token stand at a place -/
def At5 (w : World) (b p : Nat) (x : Tk) : Prop :=
  w.cell? ⟨b, p, none⟩ = some (.int .i64 (x.k : Nat)) ∧ w.cell? ⟨b, p + 1, none⟩ = some (.string ⟨x.t.toArray⟩) ∧ w.cell? ⟨b, p + 2, none⟩ = some (.int .i64 x.c) ∧
  w.cell? ⟨b, p + 3, none⟩ = some (.int .i64 x.s) ∧ w.cell? ⟨b, p + 4, none⟩ = some (.int .i64 (x.p : Nat))
theorem At5.on {a w : World} {b p : Nat} {x : Tk} (h : At5 a b p x) (hk : b < a.heap.size) (hb : Below a.heap.size a w) : At5 w b p x := by
  obtain ⟨h0, h1, h2, h3, h4⟩ := h
  exact ⟨(hb.cell (p := ⟨b, _, none⟩) hk).trans h0, (hb.cell (p := ⟨b, _, none⟩) hk).trans h1, (hb.cell (p := ⟨b, _, none⟩) hk).trans h2,
    (hb.cell (p := ⟨b, _, none⟩) hk).trans h3, (hb.cell (p := ⟨b, _, none⟩) hk).trans h4⟩
/-- a slice of tokens that reads as a list -/
def Tks (w : World) (v : Value) (l : List Tk) : Prop :=
  ∃ ao cap, v = .slice ao l.length cap ∧ l.length ≤ cap ∧ (0 < l.length → ∃ k o, ao = some ⟨k, o, none⟩ ∧ k < w.heap.size ∧ ∀ j x, l[j]? = some x → At5 w k (o + j * 5) x)
theorem Tks.nil0 (w : World) (ao : Option Addr) (cap : Nat) : Tks w (.slice ao 0 cap) [] := ⟨ao, cap, rfl, Nat.zero_le _, fun h => absurd h (by simp)⟩
theorem Tks.on {a b : World} {v : Value} {l : List Tk} (h : Tks a v l) (hb : Below a.heap.size a b) : Tks b v l := by
  obtain ⟨ao, cap, h1, h2, h⟩ := h
  exact ⟨ao, cap, h1, h2, fun h0 => by
    obtain ⟨k, o, h5, hk, h⟩ := h h0
    exact ⟨k, o, h5, Nat.lt_of_lt_of_le hk hb.size, fun j d hj => (h j d hj).on hk hb⟩⟩
theorem below_drewN {B : Nat} (a : World) (n : Nat) : Below B a (a.drewN n) := ⟨rfl, rfl, rfl, Nat.le_refl _, fun _ _ => rfl⟩
theorem Tks.drewN {a : World} {v : Value} {l : List Tk} (h : Tks a v l) (n : Nat) : Tks (a.drewN n) v l := h.on (below_drewN a n)
/-- what Tokens answers: the tokens, a place, an error's number -/
def ansT (q : ByteArray) : List Tk × Nat × Nat :=
  if 4096 < q.size then ([], 0, 5) else match lxs numN strS 0 q.data.toList with
    | .error (p, e) => ([], p, e)
    | .ok l => (l, 0, 0)
def TokP (q : ByteArray) (w : World) (e : Ending) (w' : World) : Prop :=
  Below w.heap.size w w' ∧ ∃ v, e = .returned (.tuple #[v, .int .i64 ((ansT q).2.1 : Nat), .int .i64 ((ansT q).2.2 : Nat)]) ∧ Tks w' v (ansT q).1
theorem tok_err {N : List UInt8 → Int × Int × Nat} {S : List UInt8 → List UInt8 × Nat} {r : List UInt8} {e : Nat} (h : tok N S r = .error e) : e ≠ 0 := by
  intro h0
  subst h0
  cases r with
  | nil => simp [tok] at h
  | cons c l =>
    simp only [tok] at h
    split at h
    · split at h <;> cases h
    · split at h
      · split at h
        · rename_i hn
          have := Except.error.inj h
          exact hn this
        · cases h
      · split at h
        · split at h
          · cases h
          · split at h
            · cases h
            · split at h
              · rename_i hn
                exact hn (Except.error.inj h)
              · cases h
        · split at h
          · cases h
          · split at h <;> cases h
/-- a block that holds a token -/
def Ub (w : World) (k : Nat) (cs : Array Value) : Prop := w.heap[k]? = some (.cells cs 34 (0, 0))
theorem Ub.lt {w : World} {k : Nat} {cs : Array Value} (h : Ub w k cs) : k < w.heap.size := (Array.getElem?_eq_some_iff.1 h).1
theorem Ub.new (w : World) (cs : Array Value) : Ub (w.alloc (.cells cs 34)) w.heap.size cs := heap_alloc_new w _
theorem Ub.on {a b : World} {k : Nat} {cs : Array Value} (h : Ub a k cs) (hb : Below a.heap.size a b) : Ub b k cs := (hb.block k h.lt).trans h
theorem Ub.set {a : World} {k : Nat} {cs : Array Value} (h : Ub a k cs) (i : Nat) (u : Value) : Ub (a.setCell ⟨k, i, none⟩ u) k (cs.setIfInBounds i u) := by
  unfold Ub at h ⊢
  simp [World.setCell, Array.getElem?_modify, h]
theorem Ub.cell {w : World} {k : Nat} {cs : Array Value} (h : Ub w k cs) (i : Nat) : w.cell? ⟨k, i, none⟩ = cs[i]? := cell_of_row w k i cs _ _ h
theorem Ub.free {w : World} {k : Nat} {cs : Array Value} (h : Ub w k cs) (i : Nat) : w.frozen? ⟨k, i, none⟩ = false := by
  unfold Ub at h
  simp [World.frozen?, h]
theorem Ub.put {w : World} {k : Nat} {x0 x1 x2 x3 x4 : Value} (h : Ub w k #[x0, x1, x2, x3, x4]) (u0 u1 u2 u3 u4 : Value) :
    Ub (((((w.setCell ⟨k, 0, none⟩ u0).setCell ⟨k, 1, none⟩ u1).setCell ⟨k, 2, none⟩ u2).setCell ⟨k, 3, none⟩ u3).setCell ⟨k, 4, none⟩ u4) k #[u0, u1, u2, u3, u4] := by
  have h0 : Ub _ k #[u0, x1, x2, x3, x4] := h.set 0 u0
  have h1 : Ub _ k #[u0, u1, x2, x3, x4] := h0.set 1 u1
  have h2 : Ub _ k #[u0, u1, u2, x3, x4] := h1.set 2 u2
  have h3 : Ub _ k #[u0, u1, u2, u3, x4] := h2.set 3 u3
  exact h3.set 4 u4
theorem Ub.five {w : World} {k : Nat} {x0 x1 x2 x3 x4 : Value} (h : Ub w k #[x0, x1, x2, x3, x4]) : w.cell? ⟨k, 0, none⟩ = some x0 ∧ w.cell? ⟨k, 1, none⟩ = some x1 ∧ w.cell? ⟨k, 2, none⟩ = some x2 ∧ w.cell? ⟨k, 3, none⟩ = some x3 ∧ w.cell? ⟨k, 4, none⟩ = some x4 :=
  ⟨h.cell 0, h.cell 1, h.cell 2, h.cell 3, h.cell 4⟩
end Lx
end Go.Proofs.YtpddkchnogfjkaaDoor
