/- jval.Name, of every int. -/
import Derived.Test.YtbfmgjgdpbffdaaJvInt
namespace Go.Proofs.Ytbfmgjgdpbffdaa
open Go.RowKit
namespace Jv
set_option maxRecDepth 100000 in
set_option maxHeartbeats 2000000 in
theorem name_v (k : Int) (w : World) : Calls Try.prog 18 #[.int .i64 k] w fun e w' => e = .returned (.string (kname k)) ∧ w = w' := by
  obtain ⟨r, hr⟩ : ∃ r, kname k = r := ⟨_, rfl⟩
  rw [hr]
  have HR := Lib.hid hr
  clear hr
  by_cases h0 : k = 0
  · subst h0; obtain rfl := HR.out; go_enter Try.func18, Try.ntmps18; go_wp2; go_ret; exact ⟨rfl, rfl⟩
  by_cases h1 : k = 1
  · subst h1; obtain rfl := HR.out; go_enter Try.func18, Try.ntmps18; go_wp2; go_ret; exact ⟨rfl, rfl⟩
  by_cases h2 : k = 2
  · subst h2; obtain rfl := HR.out; go_enter Try.func18, Try.ntmps18; go_wp2; go_ret; exact ⟨rfl, rfl⟩
  by_cases h3 : k = 3
  · subst h3; obtain rfl := HR.out; go_enter Try.func18, Try.ntmps18; go_wp2; go_ret; exact ⟨rfl, rfl⟩
  by_cases h4 : k = 4
  · subst h4; obtain rfl := HR.out; go_enter Try.func18, Try.ntmps18; go_wp2; go_ret; exact ⟨rfl, rfl⟩
  by_cases h5 : k = 5
  · subst h5; obtain rfl := HR.out; go_enter Try.func18, Try.ntmps18; go_wp2; go_ret; exact ⟨rfl, rfl⟩
  by_cases h6 : k = 6
  · subst h6; obtain rfl := HR.out; go_enter Try.func18, Try.ntmps18; go_wp2; go_ret; exact ⟨rfl, rfl⟩
  by_cases h7 : k = 7
  · subst h7; obtain rfl := HR.out; go_enter Try.func18, Try.ntmps18; go_wp2; go_ret; exact ⟨rfl, rfl⟩
  obtain rfl : r = ⟨#[]⟩ := by rw [← HR.out]; unfold kname; rw [if_neg h0, if_neg (by omega), if_neg h3, if_neg h4, if_neg h5, if_neg h6, if_neg h7]
  have e0 : (k == 0) = false := by simp; exact h0
  have e1 : (k == 1) = false := by simp; exact h1
  have e2 : (k == 2) = false := by simp; exact h2
  have e3 : (k == 3) = false := by simp; exact h3
  have e4 : (k == 4) = false := by simp; exact h4
  have e5 : (k == 5) = false := by simp; exact h5
  have e6 : (k == 6) = false := by simp; exact h6
  have e7 : (k == 7) = false := by simp; exact h7
  clear HR
  go_enter Try.func18, Try.ntmps18
  go_wp2
  go_ret
  exact ⟨rfl, rfl⟩
end Jv
end Go.Proofs.Ytbfmgjgdpbffdaa
