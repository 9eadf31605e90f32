/- Rows of digits in memory: what keyholeref04 reckons with. -/
import Derived.Test.YtpddkchnogfjkaaGreatDoorNmRefMath
import Derived.Laws.AppendOwn
import Derived.Laws.AppendOwnNone
import Derived.Laws.Cells
namespace Go.Proofs.YtpddkchnogfjkaaGreatDoor
open Go.RowKit
namespace Nm
/-- digits as cells -/
def dcel (l : List Nat) : List Value := l.map fun x => Value.int .i64 (x : Nat)
theorem dcel_len (l : List Nat) : (dcel l).length = l.length := by unfold dcel; simp
theorem dcel_app (a b : List Nat) : dcel (a ++ b) = dcel a ++ dcel b := by unfold dcel; simp
theorem dcel_one (l : List Nat) : ∀ u ∈ dcel l, u.oneCell' = true := by
  intro u hu
  unfold dcel at hu
  obtain ⟨x, _, rfl⟩ := List.mem_map.1 hu
  rfl
theorem dcel_get {l : List Nat} {j d : Nat} (h : l[j]? = some d) : (dcel l)[j]? = some (.int .i64 (d : Nat)) := by
  unfold dcel; rw [List.getElem?_map, h]; rfl
/-- a slice that reads as a row -/
def Rw (w : World) (v : Value) (l : List Nat) : Prop :=
  (v = .slice none 0 0 ∧ l = []) ∨ ∃ k o cap, v = .slice (some ⟨k, o, none⟩) l.length cap ∧ l.length ≤ cap ∧ k < w.heap.size ∧ ∀ j d, l[j]? = some d → w.cell? ⟨k, o + j, none⟩ = some (.int .i64 (d : Nat))
theorem Rw.nil (w : World) : Rw w (.slice none 0 0) [] := Or.inl ⟨rfl, rfl⟩
theorem Rw.on {a b : World} {v : Value} {l : List Nat} (h : Rw a v l) (hb : Below a.heap.size a b) : Rw b v l := by
  rcases h with h | ⟨k, o, cap, rfl, hc, hk, h⟩
  · exact Or.inl h
  · refine Or.inr ⟨k, o, cap, rfl, hc, Nat.lt_of_lt_of_le hk hb.size, fun j d hj => ?_⟩
    exact (hb.cell (p := ⟨k, o + j, none⟩) hk).trans (h j d hj)
theorem Rw.of_own {w : World} {B : Nat} {v : Value} {l : List Nat} (h : w.ownsRow B 3 1 v l.length (dcel l)) : Rw w v l := by
  have hh := h
  rcases hh.2 with ⟨rfl, h0⟩ | ⟨g, cap, cur, rfl, hB, hg, hn, _⟩
  · exact Or.inl ⟨rfl, List.length_eq_zero_iff.1 h0⟩
  · refine Or.inr ⟨g, 0, cap, rfl, hn, (Array.getElem?_eq_some_iff.1 hg).1, fun j d hj => ?_⟩
    have := h.cells (g := g) rfl j _ (dcel_get hj)
    have hadd : (⟨g, 0, none⟩ : Addr).add j = ⟨g, 0 + j, none⟩ := by unfold Addr.add; split <;> simp_all
    rw [hadd] at this
    exact this
/-- its form, nil or not -/
theorem Rw.form {w : World} {v : Value} {l : List Nat} (h : Rw w v l) : ∃ ao cap, v = .slice ao l.length cap ∧ l.length ≤ cap ∧ (0 < l.length → ∃ k o, ao = some ⟨k, o, none⟩ ∧ k < w.heap.size ∧ ∀ j d, l[j]? = some d → w.cell? ⟨k, o + j, none⟩ = some (.int .i64 (d : Nat))) := by
  rcases h with ⟨rfl, rfl⟩ | ⟨k, o, cap, rfl, hc, hk, h⟩
  · exact ⟨none, 0, rfl, Nat.le_refl _, fun h => absurd h (by simp)⟩
  · exact ⟨_, cap, rfl, hc, fun _ => ⟨k, o, rfl, hk, h⟩⟩
theorem Rw.sl {w : World} {v : Value} {l : List Nat} (h : Rw w v l) : ∃ ao n cap, v = .slice ao n cap := by
  obtain ⟨ao, cap, e, _⟩ := h.form
  exact ⟨ao, _, cap, e⟩
/-- a beginning of a row -/
theorem Rw.take {w : World} {k o cap n : Nat} {l : List Nat} (hc : l.length ≤ cap) (hk : k < w.heap.size) (h : ∀ j d, l[j]? = some d → w.cell? ⟨k, o + j, none⟩ = some (.int .i64 (d : Nat))) (hn : n ≤ l.length) :
    Rw w (.slice (some ⟨k, o, none⟩) n cap) (l.take n) := by
  refine Or.inr ⟨k, o, cap, by rw [List.length_take, Nat.min_eq_left hn], by rw [List.length_take]; omega, hk, fun j d hj => h j d ?_⟩
  rw [List.getElem?_take] at hj
  split at hj
  · exact hj
  · cases hj
/-- is it below 0? nought isn't -/
def ng (b : Bool) (n : Nat) : Bool := b && n != 0
theorem ng_zero (b : Bool) : ng b 0 = false := by cases b <;> rfl
theorem ng_pos {b : Bool} {n : Nat} (h : n ≠ 0) : ng b n = b := by cases b <;> simp [ng, h]
/-- what answers a whole number without bound: whether it is below 0, its size -/
def LongIs (b : Bool) (n : Nat) (w : World) (e : Ending) (w' : World) : Prop := ∃ v, e = .returned (.agg #[.bool (ng b n), v]) ∧ Rw w' v (dgs n) ∧ Below w.heap.size w w'
theorem LongIs.of {b x : Bool} {n : Nat} {w w' : World} {v : Value} (hx : x = ng b n) (hr : Rw w' v (dgs n)) (hb : Below w.heap.size w w') : LongIs b n w (.returned (.agg #[.bool x, v])) w' := ⟨v, by rw [hx], hr, hb⟩
/-- what answers a row -/
def RowIs (P : List Nat → Prop) (w : World) (e : Ending) (w' : World) : Prop := ∃ v l, e = .returned v ∧ P l ∧ Rw w' v l ∧ Below w.heap.size w w'
theorem bS (w : World) (o : Obj) (p : Addr) (hp : w.heap.size ≤ p.block) (v : Value) : Below w.heap.size w ((w.alloc o).setCell p v) := (bA1 w o).setCell hp v
set_option maxRecDepth 100000 in
set_option maxHeartbeats 1000000 in
theorem trim_any (b : Bool) (v : Value) (l : List Nat) (w : World) (hr : Rw w v l) (hd : Dg l) (hl : l.length ≤ 1000000000) :
    Calls Tryz.prog 26 #[.agg #[.bool b, v]] w (LongIs b (dv l) w) := by
  rcases hr with ⟨rfl, rfl⟩ | ⟨g, o, cap, rfl, hc, hk, h⟩
  · have HZ : Hid (ng b (dv []) = false ∧ dgs (dv []) = []) := Lib.hid ⟨ng_zero b, dgs_zero⟩
    go_enter Tryz.func26, Tryz.ntmps26
    go_wp2
    go_loop [3] (fun n => n = .int .i64 0) (fun _ => 0)
    case atStart => rfl
    case round =>
      subst hrel
      go_wp2
      exact bodyPost_ret (v := .agg #[.bool false, .slice none 0 0]) (by simp [results, Tryz.results26, go_sem]) rfl (LongIs.of HZ.out.1.symm (by rw [HZ.out.2]; exact Rw.nil _) (bA2 _ _ _))
  have H := Lib.hid h
  have HD := Lib.hid hd
  clear h hd
  go_enter Tryz.func26, Tryz.ntmps26
  go_wp2
  go_loop [3] (fun n => ∃ k : Nat, n = .int .i64 (k : Nat) ∧ k ≤ l.length ∧ Hid (dv (l.take k) = dv l)) (fun n => (intOf n).toNat)
  case atStart => exact ⟨l.length, rfl, Nat.le_refl _, Lib.hid (by rw [List.take_length])⟩
  case round =>
    obtain ⟨k, rfl, hkl, HV⟩ := hrel
    by_cases k0 : k = 0
    · subst k0
      have HZ : Hid (dv l = 0) := Lib.hid (by rw [← HV.out]; rfl)
      go_wp2
      refine bodyPost_ret (v := .agg #[.bool false, .slice (some ⟨g, o, none⟩) 0 cap]) (by simp [results, Tryz.results26, go_sem]) rfl (LongIs.of (by rw [HZ.out, ng_zero]) ?_ ?_)
      · rw [HZ.out, dgs_zero]
        exact (Rw.take (n := 0) hc hk H.out (by omega)).on (bA2 _ _ _)
      · exact bA2 _ _ _
    · obtain ⟨m, rfl⟩ : ∃ m, k = m + 1 := ⟨k - 1, by omega⟩
      obtain ⟨d, hd⟩ : ∃ d, l[m]? = some d := ⟨l[m], List.getElem?_eq_getElem (by omega)⟩
      have hcl : w.cell? ⟨g, o + m, none⟩ = some (.int .i64 (d : Nat)) := H.out m d hd
      have HM := Lib.hid hd
      clear hd
      by_cases d0 : d = 0
      · subst d0
        have HV' : Hid (dv (l.take m) = dv l) := Lib.hid (by
          have e := dv_less (l := l) (n := m) (by omega) (List.getElem?_eq_some_iff.1 HM.out).2
          rw [← e]; exact HV.out)
        clear HV
        go_wp2
        go_round
        case rel => exact ⟨m, rfl, by omega, HV'⟩
        case measure => simp [intOf]
      · have HZ : Hid (ng b (dv l) = b ∧ dgs (dv l) = l.take (m + 1)) := Lib.hid (by
          obtain ⟨h1, h2⟩ := List.getElem?_eq_some_iff.1 HM.out
          have ht : Tm (l.take (m + 1)) := Tm_take h1 (by omega)
          have e := dgs_of (HD.out.take (m + 1)) ht
          rw [HV.out] at e
          refine ⟨ng_pos (fun h0 => ?_), e.symm⟩
          rw [h0, dgs_zero] at e
          have h3 : (l.take (m + 1)).length = 0 := by rw [e]; rfl
          rw [List.length_take] at h3
          omega)
        clear HV
        go_wp2
        refine bodyPost_ret (v := .agg #[.bool b, .slice (some ⟨g, o, none⟩) (m + 1) cap]) (by simp [results, Tryz.results26, go_sem]) rfl (LongIs.of HZ.out.1.symm ?_ ?_)
        · rw [HZ.out.2]
          exact (Rw.take (n := m + 1) hc hk H.out (by omega)).on (bA2 _ _ _)
        · exact bA2 _ _ _
end Nm
end Go.Proofs.YtpddkchnogfjkaaGreatDoor
