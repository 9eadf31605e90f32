/- Two tables of 8 by 8 bools, compared as one. No condition. -/
import Derived.Test.YtmfdclnepmgmlaaLvRows
namespace Go.Proofs.Ytmfdclnepmgmlaa
open Go.RowKit
namespace Lv
def eqR (r s : Nat → Nat → Bool) : Bool := (List.range 8).all fun a => (List.range 8).all fun b => r a b == s a b
theorem eqR_iff {r s : Nat → Nat → Bool} : eqR r s = true ↔ relA r = relA s := by
  unfold eqR
  simp only [List.all_eq_true, List.mem_range, beq_iff_eq]
  constructor
  · exact fun h => relA_congr fun a b ha hb => h a ha b hb
  · exact fun h a ha b hb => relA_inj h a b ha hb
theorem run_items {P : Program} (d : Nat) (e : TypeId) (c : Nat) (xs ys : Array Value) (w : World) (q : Nat → Bool) : ∀ (is : List Nat),
    (∀ i, i ∈ is → ∃ a b, (part e xs (i * c)).run P w = .ok a w ∧ (part e ys (i * c)).run P w = .ok b w ∧ (Op.equalIn d e a b).run P w = .ok (q i) w) →
    (Op.eqItems d e c xs ys is).run P w = .ok (is.all q) w
  | [], _ => by simp [Op.eqItems]
  | i :: is, h => by
    obtain ⟨a, b, h1, h2, h3⟩ := h i (by simp)
    have ih := run_items d e c xs ys w q is (fun j hj => h j (by simp [hj]))
    simp only [Op.eqItems, Sem.run_bind, h1, h2, h3, Result.andThen_ok]
    cases hq : q i
    · simp [hq]
    · simp [hq, ih]
theorem cells56 : Try.prog.cellsOf 56 = 8 := by kernel_rfl
theorem cells4 : Try.prog.cellsOf 4 = 1 := by kernel_rfl
theorem row_at (r : Nat → Nat → Bool) (a b : Nat) (ha : a < 8) (hb : b < 8) : ((relA r).extract (a * 8) (a * 8 + 8))[b]? = some (.bool (r a b)) := by
  rw [Array.getElem?_extract]
  rw [if_pos (by rw [relA_size]; omega)]
  exact relA_at r a b ha hb
theorem run_eqRow (d : Nat) (r s : Nat → Nat → Bool) (a : Nat) (ha : a < 8) (w : World) :
    (Op.equalIn (d + 1 + 1) 56 (.agg ((relA r).extract (a * 8) (a * 8 + 8))) (.agg ((relA s).extract (a * 8) (a * 8 + 8)))).run Try.prog w = .ok ((List.range 8).all fun b => r a b == s a b) w := by
  rw [run_equalIn_array w (d + 1) _ _ Try.underlying56 Try.type4, cells4]
  refine run_items _ _ _ _ _ _ _ _ fun b hb => ⟨.bool (r a b), .bool (s a b), ?_, ?_, ?_⟩
  · simp [part, Try.isAgg4, row_at r a b ha (by simpa using hb)]
  · simp [part, Try.isAgg4, row_at s a b ha (by simpa using hb)]
  · exact run_equalIn_bool' w d _ _ _ Try.underlying4
theorem run_eqR (w : World) (r s : Nat → Nat → Bool) :
    (Op.equalIn 10000 58 (.agg (relA r)) (.agg (relA s))).run Try.prog w = .ok (eqR r s) w := by
  rw [show (10000 : Nat) = 9999 + 1 from rfl, run_equalIn_array w 9999 _ _ Try.underlying58 Try.type56, cells56]
  refine run_items _ _ _ _ _ _ _ _ fun a ha => ⟨.agg ((relA r).extract (a * 8) (a * 8 + 8)), .agg ((relA s).extract (a * 8) (a * 8 + 8)), ?_, ?_, ?_⟩
  · simp [part, Try.isAgg56, Try.sizeOf56]
  · simp [part, Try.isAgg56, Try.sizeOf56]
  · exact run_eqRow 9997 r s a (by simpa using ha) w
end Lv
end Go.Proofs.Ytmfdclnepmgmlaa
