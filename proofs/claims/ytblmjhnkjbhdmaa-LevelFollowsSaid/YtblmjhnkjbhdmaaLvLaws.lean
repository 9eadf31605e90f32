/- What the law LevelLaws does: it answers true. -/
import Derived.Test.YtblmjhnkjbhdmaaLvMath
import Derived.Deep.QuietTactic
import Derived.BigQuiet
namespace Go.Proofs.Ytblmjhnkjbhdmaa
open Go.RowKit
namespace Lv
theorem inI_nat {n x : Nat} (hx : x < n) : inI (x : Int) n = true := by simp [inI, hx]
section
variable {w : World} {g n : Nat} {nm : Nat → ByteArray} {r : Nat → Nat → Bool} {j m : Nat → Nat → Nat} {bo tp : Nat} (h : LatAt w g n nm r j m bo tp) (hn : n ≤ 8)
include h hn
theorem join_is (x y z : Nat) (hx : x < n) (hy : y < n) (hz : j x y = z) :
    Calls Try.prog 17 #[.pointer (some ⟨g, 0, none⟩), .int .i64 x, .int .i64 y] w fun e w' => e = .returned (.int .i64 (z : Nat)) ∧ w = w' := by
  have := join_any w g n nm r j m bo tp x y h hn
  rwa [show joinV n j tp x y = z by simp [joinV, inI_nat hx, inI_nat hy, hz]] at this
theorem meet_is (x y z : Nat) (hx : x < n) (hy : y < n) (hz : m x y = z) :
    Calls Try.prog 19 #[.pointer (some ⟨g, 0, none⟩), .int .i64 x, .int .i64 y] w fun e w' => e = .returned (.int .i64 (z : Nat)) ∧ w = w' := by
  have := meet_any w g n nm r j m bo tp x y h hn
  rwa [show meetV n m bo x y = z by simp [meetV, inI_nat hx, inI_nat hy, hz]] at this
theorem leq_is (x y : Nat) (z : Bool) (hx : x < n) (hy : y < n) (hz : r x y = z) :
    Calls Try.prog 16 #[.pointer (some ⟨g, 0, none⟩), .int .i64 x, .int .i64 y] w fun e w' => e = .returned (.bool z) ∧ w = w' := by
  have := leq_any w g n nm r j m bo tp x y h hn
  rwa [show leqB n r x y = z by simp [leqB, inI_nat hx, inI_nat hy, hz]] at this
end
set_option maxHeartbeats 1000000 in
set_option maxRecDepth 100000 in
theorem laws_bad (vn vb vp : Value) (ss : List ByteArray) (ps : List (Int × Int)) (x y z : Int) (w : World) (hs : NamesAt w vn ss) (hp : PairsAt w vb ps) (hl : ss.length ≤ maxLen) (hl2 : ps.length ≤ maxLen) (hg : ¬ Good ss ps) :
    Calls Try.prog 6 #[.agg #[vn, vb, vp], .agg #[.int .i64 x, .int .i64 y, .int .i64 z]] w fun e w' => e = .returned (.bool true) ∧ Below w.heap.size w w' := by
  have HE := Lib.hid (errOf_ne hg)
  go_enter Try.func6, Try.ntmps6
  go_wp2_with fail
  have hb : Below w.heap.size w ((w.alloc (Obj.cells #[vn, vb, vp] 26)).alloc (Obj.cells #[Value.int .i64 x, Value.int .i64 y, Value.int .i64 z] 50)) := ((Below.refl _ _).alloc (Nat.le_refl _) _).alloc (by simp) _
  refine (new_any vn vb vp ss ps _ (hs.go hb) (hp.go hb) hl hl2).mono ?_
  rintro e w2 ⟨hb2, h⟩
  have k2 := bt hb hb2
  clear hb hb2
  rcases h with ⟨h, _⟩ | ⟨_, rfl⟩
  · exact absurd h hg
  · generalize errOf ss ps = er at HE
    have g1 : (er != 0) = true := by simpa using HE.out
    go_wp2_with fail
    refine (lives_any _).mono ?_
    rintro e w3 ⟨rfl, hb3⟩
    go_wp2
    go_ret
    exact ⟨rfl, bt k2 hb3⟩
theorem mod_in (x : Int) (n : Nat) (h1 : 1 ≤ n) (h8 : n ≤ 8) : ∃ a : Nat, a < n ∧ (wrap64 (x.tmod n + n)).tmod n = a := by
  have e1 : -(n : Int) < x.tmod n ∧ x.tmod n < n := by
    have h0 : (0 : Int) < n := by omega
    rcases Int.le_total 0 x with hx | hx
    · rw [Int.tmod_eq_emod_of_nonneg hx]
      have := Int.emod_nonneg x (show (n : Int) ≠ 0 by omega)
      have := Int.emod_lt_of_pos x h0
      omega
    · have e : x.tmod n = -((-x).tmod n) := by rw [Int.neg_tmod]; omega
      rw [e, Int.tmod_eq_emod_of_nonneg (by omega)]
      have := Int.emod_nonneg (-x) (show (n : Int) ≠ 0 by omega)
      have := Int.emod_lt_of_pos (-x) h0
      omega
  rw [IntWalk.wrap64_in _ ⟨by omega, by omega⟩]
  generalize x.tmod n = y at e1
  obtain ⟨k, hk⟩ := Int.eq_ofNat_of_zero_le (show 0 ≤ y + n by omega)
  rw [hk]
  refine ⟨k % n, Nat.mod_lt _ h1, ?_⟩
  rw [Int.tmod_eq_emod_of_nonneg (by omega)]
  rfl
set_option maxHeartbeats 2000000 in
set_option maxRecDepth 100000 in
theorem laws_good (vn vb vp : Value) (ss : List ByteArray) (ps : List (Int × Int)) (x y z : Int) (w : World) (hs : NamesAt w vn ss) (hp : PairsAt w vb ps) (hl : ss.length ≤ maxLen) (hl2 : ps.length ≤ maxLen) (hg : Good ss ps) :
    Calls Try.prog 6 #[.agg #[vn, vb, vp], .agg #[.int .i64 x, .int .i64 y, .int .i64 z]] w fun e w' => e = .returned (.bool true) ∧ Below w.heap.size w w' := by
  have n8 := hg.names.2.1
  have n1 := hg.names.1
  go_enter Try.func6, Try.ntmps6
  go_wp2_with fail
  have hb : Below w.heap.size w ((w.alloc (Obj.cells #[vn, vb, vp] 26)).alloc (Obj.cells #[Value.int .i64 x, Value.int .i64 y, Value.int .i64 z] 50)) := ((Below.refl _ _).alloc (Nat.le_refl _) _).alloc (by simp) _
  have fx : ((w.alloc (Obj.cells #[vn, vb, vp] 26)).alloc (Obj.cells #[Value.int .i64 x, Value.int .i64 y, Value.int .i64 z] 50)).heap[w.heap.size + 1]? = some (Obj.cells #[Value.int .i64 x, Value.int .i64 y, Value.int .i64 z] 50) := by
    have := al_new (w.alloc (Obj.cells #[vn, vb, vp] 26)) (Obj.cells #[Value.int .i64 x, Value.int .i64 y, Value.int .i64 z] 50)
    rwa [al_size] at this
  refine (new_any vn vb vp ss ps _ (hs.go hb) (hp.go hb) hl hl2).mono ?_
  rintro e w2 ⟨hb2, h⟩
  have k2 := bt hb hb2
  have FX := Lib.hid (bkeep hb2 fx)
  clear hb hb2 fx
  rcases h with ⟨_, g, rfl, _, hL⟩ | ⟨h, _⟩
  · have hord := good_ord hg
    have hJ := good_j hg
    have hM := good_m hg
    have hL : LatAt w2 g ss.length (nmOf ss) (cl ps ss.length) (joinT (cl ps ss.length) ss.length) (joinT (trn (cl ps ss.length)) ss.length) _ _ := hL
    generalize cl ps ss.length = c at hord hJ hM hL
    generalize foldT (joinT (trn c) ss.length) ss.length = bo at hL
    generalize foldT (joinT c ss.length) ss.length = tp at hL
    generalize joinT (trn c) ss.length = m at hM hL
    generalize joinT c ss.length = j at hJ hL
    generalize nmOf ss = nm at hL
    clear hs hp hl hl2 hg
    generalize ss.length = n at *
    have HL := Lib.hid hL
    clear hL
    have q1 : ((n : Int) == 0) = false := by simp; omega
    have x0 := cell_of_row w2 (w.heap.size + 1) 0 _ _ _ FX.out
    have x1 := cell_of_row w2 (w.heap.size + 1) 1 _ _ _ FX.out
    have x2 := cell_of_row w2 (w.heap.size + 1) 2 _ _ _ FX.out
    go_wp2_with (go_at_call 15; refine (size_any _ _ _ _ _ _ _ _ _ HL.out).mono ?_; rintro e w' ⟨rfl, rfl⟩)
    go_quiet (fail)
    obtain ⟨a, ha, ea⟩ := mod_in x n n1 n8
    obtain ⟨b, hb, eb⟩ := mod_in y n n1 n8
    obtain ⟨d, hd, ed⟩ := mod_in z n n1 n8
    rw [ea, eb, ed]
    clear ea eb ed x0 x1 x2 FX
    have HL3 : LatAt (w2.drewN nq) g n nm c j m bo tp := HL.out
    have k3 := below_drewN k2 nq
    clear HL k2
    generalize w2.drewN nq = w3 at HL3 k3
    have HL := Lib.hid HL3
    clear HL3
    have hJ' := fun p q hp hq => hJ.lt p q hp hq
    obtain ⟨ab, e_ab⟩ : ∃ t, j a b = t := ⟨_, rfl⟩
    obtain ⟨bd, e_bd⟩ : ∃ t, j b d = t := ⟨_, rfl⟩
    obtain ⟨abd, e_abd⟩ : ∃ t, j a bd = t := ⟨_, rfl⟩
    obtain ⟨mab, f_ab⟩ : ∃ t, m a b = t := ⟨_, rfl⟩
    obtain ⟨mbd, f_bd⟩ : ∃ t, m b d = t := ⟨_, rfl⟩
    obtain ⟨mabd, f_abd⟩ : ∃ t, m a mbd = t := ⟨_, rfl⟩
    have lab : ab < n := e_ab ▸ hJ.lt a b ha hb
    have lbd : bd < n := e_bd ▸ hJ.lt b d hb hd
    have lmab : mab < n := f_ab ▸ hM.lt a b ha hb
    have lmbd : mbd < n := f_bd ▸ hM.lt b d hb hd
    have labd : abd < n := e_abd ▸ hJ.lt a bd ha lbd
    have lmabd : mabd < n := f_abd ▸ hM.lt a mbd ha lmbd
    have e_ba : j b a = ab := (j_comm hord hJ a b ha hb).trans e_ab
    have e_abd' : j ab d = abd := by rw [← e_ab, j_assoc hord hJ a b d ha hb hd, e_bd, e_abd]
    have f_abd' : m mab d = mabd := by rw [← f_ab, j_assoc hord.turn hM a b d ha hb hd, f_bd, f_abd]
    have a1 : j a mab = a := by rw [← f_ab]; exact j_absorb hord hJ hM a b ha hb
    have a2 : m a ab = a := by rw [← e_ab]; exact j_absorb hord.turn hM hJ a b ha hb
    have a3 : j a a = a := j_idem hord hJ a ha
    have a4 : m a a = a := j_idem hord.turn hM a ha
    have a5 : c a ab = true := by rw [← e_ab]; exact hJ.left a b ha hb
    have a6 : c mab b = true := by rw [← f_ab]; exact hM.right a b ha hb
    have a7 : c a b = ((ab : Int) == (b : Int)) := by
      rw [Bool.eq_iff_iff, j_leq hord hJ a b ha hb, e_ab, beq_iff_eq]
      omega
    have a8 : c a b = ((mab : Int) == (a : Int)) := by
      have h1 := j_leq hord.turn hM b a hb ha
      rw [j_comm hord.turn hM a b ha hb, f_ab] at h1
      rw [Bool.eq_iff_iff, beq_iff_eq]
      exact h1.trans (by omega)
    have He_ab := Lib.hid e_ab
    have He_bd := Lib.hid e_bd
    have He_abd := Lib.hid e_abd
    have Hf_ab := Lib.hid f_ab
    have Hf_bd := Lib.hid f_bd
    have Hf_abd := Lib.hid f_abd
    have He_ba := Lib.hid e_ba
    have He_abd' := Lib.hid e_abd'
    have Hf_abd' := Lib.hid f_abd'
    have Ha1 := Lib.hid a1
    have Ha2 := Lib.hid a2
    have Ha3 := Lib.hid a3
    have Ha4 := Lib.hid a4
    have Ha5 := Lib.hid a5
    have Ha6 := Lib.hid a6
    have Ha7 := Lib.hid a7
    have Ha8 := Lib.hid a8
    clear e_ab e_bd e_abd f_ab f_bd f_abd e_ba e_abd' f_abd' a1 a2 a3 a4 a5 a6 a7 a8 hJ' hord hJ hM
    go_wp2_with (first | (go_at_call 17; (with_reducible refine (join_is HL.out n8 a b ab ha hb He_ab.out).mono ?_); rintro e w' ⟨rfl, rfl⟩) | (go_at_call 17; (with_reducible refine (join_is HL.out n8 b a ab hb ha He_ba.out).mono ?_); rintro e w' ⟨rfl, rfl⟩) | (go_at_call 17; (with_reducible refine (join_is HL.out n8 b d bd hb hd He_bd.out).mono ?_); rintro e w' ⟨rfl, rfl⟩) | (go_at_call 17; (with_reducible refine (join_is HL.out n8 a bd abd ha lbd He_abd.out).mono ?_); rintro e w' ⟨rfl, rfl⟩) | (go_at_call 17; (with_reducible refine (join_is HL.out n8 ab d abd lab hd He_abd'.out).mono ?_); rintro e w' ⟨rfl, rfl⟩) | (go_at_call 19; (with_reducible refine (meet_is HL.out n8 a b mab ha hb Hf_ab.out).mono ?_); rintro e w' ⟨rfl, rfl⟩) | (go_at_call 19; (with_reducible refine (meet_is HL.out n8 b d mbd hb hd Hf_bd.out).mono ?_); rintro e w' ⟨rfl, rfl⟩) | (go_at_call 19; (with_reducible refine (meet_is HL.out n8 a mbd mabd ha lmbd Hf_abd.out).mono ?_); rintro e w' ⟨rfl, rfl⟩) | (go_at_call 19; (with_reducible refine (meet_is HL.out n8 mab d mabd lmab hd Hf_abd'.out).mono ?_); rintro e w' ⟨rfl, rfl⟩) | (go_at_call 17; (with_reducible refine (join_is HL.out n8 a mab a ha lmab Ha1.out).mono ?_); rintro e w' ⟨rfl, rfl⟩) | (go_at_call 19; (with_reducible refine (meet_is HL.out n8 a ab a ha lab Ha2.out).mono ?_); rintro e w' ⟨rfl, rfl⟩) | (go_at_call 17; (with_reducible refine (join_is HL.out n8 a a a ha ha Ha3.out).mono ?_); rintro e w' ⟨rfl, rfl⟩) | (go_at_call 19; (with_reducible refine (meet_is HL.out n8 a a a ha ha Ha4.out).mono ?_); rintro e w' ⟨rfl, rfl⟩))
    refine (leq_is HL.out n8 a b _ ha hb Ha7.out).mono ?_
    rintro e w' ⟨rfl, rfl⟩
    go_wp2_with fail
    refine (join_is HL.out n8 a b ab ha hb He_ab.out).mono ?_
    rintro e w' ⟨rfl, rfl⟩
    go_wp2_with fail
    refine (leq_is HL.out n8 a b _ ha hb Ha8.out).mono ?_
    rintro e w' ⟨rfl, rfl⟩
    go_wp2_with fail
    refine (meet_is HL.out n8 a b mab ha hb Hf_ab.out).mono ?_
    rintro e w' ⟨rfl, rfl⟩
    go_wp2_with fail
    refine (join_is HL.out n8 a b ab ha hb He_ab.out).mono ?_
    rintro e w' ⟨rfl, rfl⟩
    go_wp2_with fail
    refine (leq_is HL.out n8 a ab true ha lab Ha5.out).mono ?_
    rintro e w' ⟨rfl, rfl⟩
    go_wp2_with fail
    refine (meet_is HL.out n8 a b mab ha hb Hf_ab.out).mono ?_
    rintro e w' ⟨rfl, rfl⟩
    go_wp2_with fail
    refine (leq_is HL.out n8 mab b true lmab hb Ha6.out).mono ?_
    rintro e w' ⟨rfl, rfl⟩
    go_wp2_with fail
    refine (lives_any _).mono ?_
    rintro e w4 ⟨rfl, hb4⟩
    go_wp2
    go_ret
    exact ⟨rfl, bt k3 hb4⟩
  · exact absurd hg h
end Lv
end Go.Proofs.Ytblmjhnkjbhdmaa
