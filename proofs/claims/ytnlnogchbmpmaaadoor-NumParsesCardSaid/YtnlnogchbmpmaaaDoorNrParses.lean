/- NumParses answers true for every text. -/
import Derived.Test.YtnlnogchbmpmaaaDoorNrParse
import Derived.Test.YtnlnogchbmpmaaaDoorNmLives
import Derived.Test.YtnlnogchbmpmaaaDoorNmOpen
namespace Go.Proofs.YtnlnogchbmpmaaaDoor
open Go.RowKit
namespace Nm
theorem run_eqP (a b : Int) (w : World) : (Op.equalIn 10000 24 (.agg #[.int .i64 a, .int .i64 b]) (.agg #[.int .i64 a, .int .i64 b])).run Tryd.prog w = .ok true w := by
  simp [go_sem]
theorem ansE_form (o : Option (Int × Nat)) : ∃ c s e : Int, ans o = .tuple #[.agg #[.int .i64 c, .int .i64 s], .int .i64 e] := by
  rcases ans_split o with ⟨c, s, _, _, h⟩ | ⟨_, h⟩
  · exact ⟨c, s, 0, h⟩
  · exact ⟨0, 0, 8, h⟩
theorem prs_form (l : List UInt8) : ∃ c s e : Int, prs l = .tuple #[.agg #[.int .i64 c, .int .i64 s], .int .i64 e] := by
  unfold prs
  split
  · exact ⟨0, 0, 3, rfl⟩
  · dsimp only
    split
    · exact ⟨0, 0, 0, rfl⟩
    · exact ansE_form _
set_option maxRecDepth 100000 in
set_option maxHeartbeats 4000000 in
theorem numParses_any (s : ByteArray) (w : World) (hT : Tab w.heap.size w) :
    Calls Tryd.prog 3 #[.string s] w fun e w' => e = .returned (.bool true) ∧ Below w.heap.size w w' := by
  have hlv : ∀ w', Hid (Below w.heap.size w w') → Calls Tryd.prog 4 #[] w' fun e w'' => e = .returned (.bool true) ∧ Below w'.heap.size w' w'' := fun w' h => lives_any w' (hT.on h.out) h.out.size
  by_cases hl : s.size ≤ 300
  · obtain ⟨c, sc, er, hp⟩ := prs_form s.data.toList
    have h1 := fun w => parse_any s w (by omega)
    have h2 := fun w => refParse_any s w hl
    rw [hp] at h1
    rw [refP_is _ (by rw [← Lib.size_eq]; omega), hp] at h2
    have heq := fun w => run_eqP c sc w
    have hl2 : ¬ (300 < (s.size : Int)) := by omega
    clear hp hT
    go_enter Tryd.func3, Tryd.ntmps3
    go_upto_region 5 with (first | (go_at_call 6; refine (h2 _).mono ?_; rintro e w2 ⟨rfl, b2⟩; obtain ⟨p0, p1, p2, p3⟩ := boxed b2 w1.heap.size (.int .i64 c) (.int .i64 sc) (by simp [go_sem]) (by simp [go_sem]) (by simp [go_sem]) (by simp [go_sem]); have bel2 := bT (b1.alloc b1.size _) b2) | (go_at_call 5; refine (h1 _).mono ?_; rintro e w1 ⟨rfl, b1⟩))
    have hq := Bx.alloc (⟨p0, p1, p2, p3⟩ : Bx _ _ _ _) (Obj.cells #[.int .i64 c, .int .i64 sc] 24)
    obtain ⟨q0, q1, q2, q3⟩ := hq
    obtain ⟨r0, r1, r2, r3⟩ := bxNew w2 (.int .i64 c) (.int .i64 sc) 24
    have HB := Lib.hid (bel2.alloc bel2.size (Obj.cells #[.int .i64 c, .int .i64 sc] 24))
    clear p0 p1 p2 p3 bel2 b1 b2 h1 h2
    go_wp2_with (go_at_call 4; refine (hlv _ HB).mono ?_; rintro e w4 ⟨rfl, b4⟩)
    go_ret
    exact ⟨rfl, bT HB.out b4⟩
  · have hl2 : 300 < (s.size : Int) := by omega
    clear hT
    go_enter Tryd.func3, Tryd.ntmps3
    go_wp2_with (go_at_call 4; refine (hlv _ (Lib.hid (Below.refl _ _))).mono ?_; rintro e w4 ⟨rfl, b4⟩)
    go_ret
    exact ⟨rfl, b4⟩
end Nm
end Go.Proofs.YtnlnogchbmpmaaaDoor
