/- The document's Flat and Size, of every value. -/
import Derived.Test.YtelladgeehlkpaaPb
import Derived.StillTailTactics
import Derived.Deep.QuietTactic
import Derived.BigQuiet
import Derived.Deep.RegionHeld
import Derived.Deep.RegionHeld3
namespace Go.Proofs.Ytelladgeehlkpaa
open Go.RowKit
namespace Jv
open _root_.Go.Proofs.Ytelladgeehlkpaa.Nm
/-- is nothing deeper than so? (one more than the document counts) -/
def flatB : Nat → JV → Bool
  | 0, _ => false
  | n + 1, t => t.items.all (flatB n)
mutual
/-- how many values there are -/
def JV.cnt : JV → Nat
  | .mk _ _ _ _ items _ => 1 + cntL items
def cntL : List JV → Nat
  | [] => 0
  | x :: xs => x.cnt + cntL xs
end
theorem cnt_is (t : JV) : t.cnt = 1 + cntL t.items := by obtain ⟨k, c, s, st, i, ks⟩ := t; simp [JV.cnt, JV.items]
theorem cntL_snoc (l : List JV) (x : JV) : cntL (l ++ [x]) = cntL l + x.cnt := by
  induction l with
  | nil => simp [cntL]
  | cons y l ih => simp [cntL, ih]; omega
theorem cntL_len (l : List JV) : l.length ≤ cntL l := by
  induction l with
  | nil => simp
  | cons y l ih => have := cnt_is y; simp [cntL]; omega
theorem cntL_le (l : List JV) (x : JV) (h : x ∈ l) : x.cnt ≤ cntL l := by
  induction l with
  | nil => simp at h
  | cons y l ih =>
    simp only [List.mem_cons] at h
    rcases h with rfl | h
    · simp [cntL]
    · have := ih h; simp [cntL]; omega
/-- a value whose box stands in memory -/
theorem Vb.newS (w : World) (x : Six) : Vb (w.alloc (.cells x.cells.toArray 62)) w.heap.size x.cells.toArray := Vb.new w _
end Jv
end Go.Proofs.Ytelladgeehlkpaa
namespace Go.Proofs.Ytelladgeehlkpaa
open Go.RowKit
namespace Jv
open _root_.Go.Proofs.Ytelladgeehlkpaa.Nm
set_option maxRecDepth 100000 in
theorem run_eqN (a b c d : Int) (w : World) : (Op.equalIn 10000 23 (.agg #[.int .i64 a, .int .i64 b]) (.agg #[.int .i64 c, .int .i64 d])).run Try.prog w = .ok (a == c && b == d) w := by
  by_cases h : a = c <;> by_cases h' : b = d <;> simp [go_sem, h, h']
theorem str_same (a : ByteArray) : (a.toList == a.toList) = true := by simp
theorem bN {w a : World} (h : Below w.heap.size w a) (n : Nat) : Below w.heap.size w (a.drewN n) := by
  cases n with
  | zero => exact h
  | succ n =>
    have e : (a.drewN n).drew = a.drewN (n + 1) := by rfl
    rw [← e]
    exact (bN h n).drew
theorem Vb.drewN {w : World} {k : Nat} {cs : Array Value} (h : Vb w k cs) (n : Nat) : Vb (w.drewN n) k cs := h.on (bN (Below.refl _ _) n)
theorem At6.drewN {w : World} {b p n : Nat} {x : Six} (h : At6 w b p x) (hk : b < w.heap.size) : At6 (w.drewN n) b p x := h.on hk (bN (Below.refl _ _) n)
end Jv
end Go.Proofs.Ytelladgeehlkpaa
namespace Go.Proofs.Ytelladgeehlkpaa
open Go.RowKit
namespace Jv
open _root_.Go.Proofs.Ytelladgeehlkpaa.Nm
/-- cells that are known, and what was there before stands -/
def Sx (B : Nat) (o : World) (fx : List (Addr × Value)) (w : World) : Prop := Below B o w ∧ ∀ t ∈ fx, t.1.block < w.heap.size ∧ w.cell? t.1 = some t.2
section
variable {B : Nat} {o a b : World} {fx : List (Addr × Value)}
theorem Sx.drew (h : Sx B o fx a) : Sx B o fx a.drew := ⟨h.1.drew, h.2⟩
theorem Sx.call (h : Sx B o fx a) (k : Below a.heap.size a b) (hB : B ≤ o.heap.size) : Sx B o fx b :=
  ⟨h.1.trans (k.mono (Nat.le_trans hB h.1.size)), fun t ht => ⟨Nat.lt_of_lt_of_le (h.2 t ht).1 k.size, (k.cell (p := t.1) (h.2 t ht).1).trans (h.2 t ht).2⟩⟩
theorem Sx.get {p : Addr} {v : Value} (hm : (p, v) ∈ fx) : ∀ w, Sx B o fx w → w.cell? p = some v := fun _ h => (h.2 _ hm).2
theorem Sx.mk {p : Addr} {v : Value} (h : a.cell? p = some v) : p.block < a.heap.size ∧ a.cell? p = some v := ⟨World.block_lt_of_cell? a _ h, h⟩
end
theorem take_put {P : Program} {md : Region.Mode} {ops : Array Oper} {Q : Exit → Act → World → Prop} {S : World → Prop} {i d : Nat} {oi : Oper} {v : Value} {fuel : Nat} {listed : Array Bool} {a : Act} {w : World} (hi : ops[i]? = some oi) (hd : oi.dst = some d)
    (hs : Region.noSelect ops = true) (hf : Region.free md ops listed i = true) (hr : (Region.ready md ops listed).contains i = true)
    (hQ : ∀ c a w, Q (.panic c) (a.put (some d) v) w → Q (.panic c) a w) (hy : YieldsIf P ops S oi v a) (hS : S w)
    (h : wpAnyH P md ops Q S fuel (listed.setIfInBounds i true) (a.put (some d) v) w) : wpAnyH P md ops Q S (fuel + 1) listed a w :=
  wpAnyH_take hi hs hf hr (by rw [hd]; exact hQ) hy hS (by rw [hd]; exact h)
end Jv
end Go.Proofs.Ytelladgeehlkpaa
