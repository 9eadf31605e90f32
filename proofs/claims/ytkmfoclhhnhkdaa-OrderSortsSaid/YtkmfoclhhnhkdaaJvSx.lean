/- Regions that draw their order and only read what stands: known cells stay known. -/
import Derived.Test.YtkmfoclhhnhkdaaJvSame
import Derived.Deep.RegionHeld
import Derived.Deep.RegionHeld3
namespace Go.Proofs.Ytkmfoclhhnhkdaa
open Go.RowKit
namespace Jv
open _root_.Go.Proofs.Ytkmfoclhhnhkdaa.Nm
/-- cells that are known, and what was there before stands -/
def Sx (B : Nat) (o : World) (fx : List (Addr × Value)) (w : World) : Prop := Below B o w ∧ ∀ t ∈ fx, t.1.block < w.heap.size ∧ w.cell? t.1 = some t.2
section
variable {B : Nat} {o a b : World} {fx : List (Addr × Value)}
theorem Sx.drew (h : Sx B o fx a) : Sx B o fx a.drew := ⟨h.1.drew, h.2⟩
theorem Sx.call (h : Sx B o fx a) (k : Below a.heap.size a b) (hB : B ≤ o.heap.size) : Sx B o fx b :=
  ⟨h.1.trans (k.mono (Nat.le_trans hB h.1.size)), fun t ht => ⟨Nat.lt_of_lt_of_le (h.2 t ht).1 k.size, (k.cell (p := t.1) (h.2 t ht).1).trans (h.2 t ht).2⟩⟩
theorem Sx.get {p : Addr} {v : Value} (hm : (p, v) ∈ fx) : ∀ w, Sx B o fx w → w.cell? p = some v := fun _ h => (h.2 _ hm).2
theorem Sx.mk {p : Addr} {v : Value} (h : a.cell? p = some v) : p.block < a.heap.size ∧ a.cell? p = some v := ⟨World.block_lt_of_cell? a _ h, h⟩
end
theorem take_put {P : Program} {md : Region.Mode} {ops : Array Oper} {Q : Exit → Act → World → Prop} {S : World → Prop} {i d : Nat} {oi : Oper} {v : Value} {fuel : Nat} {listed : Array Bool} {a : Act} {w : World} (hi : ops[i]? = some oi) (hd : oi.dst = some d)
    (hs : Region.noSelect ops = true) (hf : Region.free md ops listed i = true) (hr : (Region.ready md ops listed).contains i = true)
    (hQ : ∀ c a w, Q (.panic c) (a.put (some d) v) w → Q (.panic c) a w) (hy : YieldsIf P ops S oi v a) (hS : S w)
    (h : wpAnyH P md ops Q S fuel (listed.setIfInBounds i true) (a.put (some d) v) w) : wpAnyH P md ops Q S (fuel + 1) listed a w :=
  wpAnyH_take hi hs hf hr (by rw [hd]; exact hQ) hy hS (by rw [hd]; exact h)
end Jv
end Go.Proofs.Ytkmfoclhhnhkdaa
