/- More of a policy's reading: a slice that is nil has no room; the principals are a slice. -/
import Derived.Test.YtblmjhnkjbhdmaaLvOpen
namespace Go.Proofs.Ytblmjhnkjbhdmaa
open Go.ChangeShapes Go.WideShapes Go.ChangeAt Go.RowKit
namespace Lv
theorem policy_more {H : Type} {enc : TypeId × Value → H} {w : World} {spare : Nat → Bool} {held : Bool} {r : Reach} {b0 : Nat} {vn vb vp : Value} {d : DataW H} {p : List MemPlace}
    (hv : Value.okWide Try.prog w r b0 26 (.agg #[vn, vb, vp])) (h : DataW.Trod enc Try.prog w 0 spare held 26 (.agg #[vn, vb, vp]) d p) :
    (∀ n cap, vb = .slice none n cap → cap = 0) ∧ ∃ a n c, vp = .slice a n c := by
  obtain ⟨v0, v1, v2, y0, y1, y2, n, he, _, _, _, h1, h2⟩ := Joins.open_agg3 Try.underlying26 (by kernel_rfl) (by kernel_rfl) hv h
  cases he
  constructor
  · intro n cap hn
    rcases Deep.open_slice Try.underlying23 h1 with ⟨hv, _⟩ | ⟨a, len, cap', m, n', D, Pl, hv, _⟩
    · simp only [List.cons.injEq, and_true] at hv
      rw [hv] at hn
      cases hn
      rfl
    · simp only [List.cons.injEq, and_true] at hv
      rw [hv] at hn
      cases hn
  · rcases Deep.open_slice Try.underlying24 h2 with ⟨hv, _⟩ | ⟨a, len, cap', m, n', D, Pl, hv, _⟩
    · simp only [List.cons.injEq, and_true] at hv
      exact ⟨_, _, _, hv⟩
    · simp only [List.cons.injEq, and_true] at hv
      exact ⟨_, _, _, hv⟩
end Lv
end Go.Proofs.Ytblmjhnkjbhdmaa
