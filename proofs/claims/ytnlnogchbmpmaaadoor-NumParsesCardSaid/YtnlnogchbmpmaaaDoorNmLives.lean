/- lives answers true. -/
import Derived.Test.YtnlnogchbmpmaaaDoorNmParse
import Derived.Test.YtnlnogchbmpmaaaDoorNmText
import Derived.Test.YtnlnogchbmpmaaaDoorNmDiv
import Derived.KernelRfl
namespace Go.Proofs.YtnlnogchbmpmaaaDoor
open Go.RowKit
namespace Nm
theorem prs_15 : prs [49, 46, 53, 48, 101, 49] = .tuple #[.agg #[.int .i64 15, .int .i64 0], .int .i64 0] := by kernel_rfl
theorem prs_no : prs [49, 101, 45, 49, 48] = .tuple #[.agg #[.int .i64 0, .int .i64 0], .int .i64 8] := by kernel_rfl
theorem div_18 : ans (divO 1 0 8 0) = .tuple #[.agg #[.int .i64 125, .int .i64 3], .int .i64 0] := by kernel_rfl
theorem dec_125 : Lib.decDigits 125 = [49, 50, 53] := by
  rw [Lib.decDigits, dif_neg (by decide), Lib.decDigits, dif_neg (by decide), Lib.decDigits, dif_pos (by decide)]; rfl
theorem txt_125 : txt 125 3 = [48, 46, 49, 50, 53] := by
  unfold txt
  rw [show (125 : Int).natAbs = 125 from rfl, dec_125]; rfl
set_option maxRecDepth 100000 in
set_option maxHeartbeats 4000000 in
theorem lives_any {B : Nat} (w : World) (hT : Tab B w) (hB : B ≤ w.heap.size) :
    Calls Tryd.prog 4 #[] w fun e w' => e = .returned (.bool true) ∧ Below w.heap.size w w' := by
  have h1 : ∀ w, Calls Tryd.prog 5 #[.string ⟨#[49, 46, 53, 48, 101, 49]⟩] w fun e w' => e = .returned (.tuple #[.agg #[.int .i64 15, .int .i64 0], .int .i64 0]) ∧ Below w.heap.size w w' := fun w => by
    rw [← prs_15]; exact parse_any ⟨#[49, 46, 53, 48, 101, 49]⟩ w (by decide)
  have h2 : ∀ w, Calls Tryd.prog 5 #[.string ⟨#[49, 101, 45, 49, 48]⟩] w fun e w' => e = .returned (.tuple #[.agg #[.int .i64 0, .int .i64 0], .int .i64 8]) ∧ Below w.heap.size w w' := fun w => by
    rw [← prs_no]; exact parse_any ⟨#[49, 101, 45, 49, 48]⟩ w (by decide)
  have h3 : ∀ w, Calls Tryd.prog 7 #[.agg #[.int .i64 1, .int .i64 0], .agg #[.int .i64 8, .int .i64 0]] w fun e w' => e = .returned (.tuple #[.agg #[.int .i64 125, .int .i64 3], .int .i64 0]) ∧ Below w.heap.size w w' := fun w => by
    rw [← div_18]
    have := div_any 1 0 8 0 w
    rw [if_pos (by decide)] at this
    exact this
  have hT0 : ∀ w', Hid (Below w.heap.size w w') → Tab B w' := fun w' h => hT.on (h.out.mono hB)
  have h4 : ∀ w', Hid (Below w.heap.size w w') → Calls Tryd.prog 8 #[.agg #[.int .i64 125, .int .i64 3]] w' fun e w'' => e = .returned (.string ⟨#[48, 46, 49, 50, 53]⟩) ∧ Below w'.heap.size w' w'' := fun w' h => by
    have := text_any 125 3 w' (hT0 w' h) (Nat.le_trans hB h.out.size)
    rw [if_pos (by decide)] at this
    rw [show ((3 : Int)).toNat = 3 from rfl, txt_125] at this
    exact this
  go_enter Tryd.func4, Tryd.ntmps4
  go_upto_region 2 with (go_at_call 5; refine (h1 _).mono ?_; rintro e w1 ⟨rfl, b1⟩)
  go_upto_region 3 with (go_at_call 5; refine (h2 _).mono ?_; rintro e w2 ⟨rfl, b2⟩; obtain ⟨p0, p1, p2, p3⟩ := boxed b2 w1.heap.size (.int .i64 15) (.int .i64 0) (by simp [go_sem]) (by simp [go_sem]) (by simp [go_sem]) (by simp [go_sem]); have bel2 := bT (b1.alloc b1.size _) b2)
  go_wp2_with (first | (go_at_call 7; refine (h3 _).mono ?_; rintro e w3 ⟨rfl, b3⟩; obtain ⟨q0, q1, q2, q3⟩ := Bx.on (Bx.alloc (⟨p0, p1, p2, p3⟩ : Bx _ _ _ _) _) b3; have bel3 := bT (bel2.alloc bel2.size _) b3; have hkq := kl q0) | (go_at_call 8; refine (h4 _ (Lib.hid (bel3.alloc bel3.size _))).mono ?_; rintro e w4 ⟨rfl, b4⟩; have bel4 := bT (bel3.alloc bel3.size _) b4))
  go_ret
  exact ⟨rfl, bel4⟩
end Nm
end Go.Proofs.YtnlnogchbmpmaaaDoor
