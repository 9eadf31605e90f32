/- Layer 13: key words, and names that are none, as the document has them. -/
import Derived.Test.YtpddkchnogfjkaaDoorLxRef
namespace Go.Proofs.YtpddkchnogfjkaaDoor
open Go.RowKit
namespace Lx
/-- the key words -/
def keyB : List ByteArray := [⟨#[100, 101, 102]⟩, ⟨#[105, 102]⟩, ⟨#[116, 104, 101, 110]⟩, ⟨#[101, 108, 115, 101]⟩, ⟨#[101, 110, 100]⟩, ⟨#[116, 114, 121]⟩, ⟨#[99, 97, 116, 99, 104]⟩, ⟨#[114, 101, 100, 117, 99, 101]⟩, ⟨#[102, 111, 114, 101, 97, 99, 104]⟩, ⟨#[97, 115]⟩, ⟨#[108, 97, 98, 101, 108]⟩, ⟨#[98, 114, 101, 97, 107]⟩, ⟨#[97, 110, 100]⟩, ⟨#[111, 114]⟩, ⟨#[116, 114, 117, 101]⟩, ⟨#[102, 97, 108, 115, 101]⟩, ⟨#[110, 117, 108, 108]⟩, ⟨#[101, 109, 112, 116, 121]⟩, ⟨#[114, 101, 108, 101, 97, 115, 101]⟩, ⟨#[114, 97, 110, 103, 101]⟩]
/-- a slice of texts, as long as its row -/
def Tx (w : World) (v : Value) (l : List ByteArray) : Prop :=
  ∃ b, v = .slice (some ⟨b, 0, none⟩) l.length l.length ∧ b < w.heap.size ∧ ∀ (j : Nat) (x : ByteArray), l[j]? = some x → w.cell? ⟨b, j, none⟩ = some (.string x)
theorem Tx.on {a b : World} {v : Value} {l : List ByteArray} (h : Tx a v l) (hb : Below a.heap.size a b) : Tx b v l := by
  obtain ⟨k, h1, h2, h3⟩ := h
  exact ⟨k, h1, Nat.lt_of_lt_of_le h2 hb.size, fun j x hj => (hb.cell (p := ⟨k, j, none⟩) h2).trans (h3 j x hj)⟩
theorem Tx.drewN {a : World} {v : Value} {l : List ByteArray} (h : Tx a v l) (n : Nat) : Tx (a.drewN n) v l := h.on ((Below.refl _ _).trans ⟨rfl, rfl, rfl, Nat.le_refl _, fun _ _ => rfl⟩)
theorem str_row (l : List ByteArray) (w : World) (t : TypeId) : Tx (w.alloc (.cells (l.map Value.string).toArray t)) (.slice (some ⟨w.heap.size, 0, none⟩) l.length l.length) l := by
  refine ⟨w.heap.size, rfl, by simp, fun j x hj => ?_⟩
  have hh := heap_alloc_new w (.cells (l.map Value.string).toArray t)
  rw [cell_of_row _ _ j _ _ _ hh, List.getElem?_toArray, List.getElem?_map, hj]; rfl
set_option maxRecDepth 100000 in
set_option maxHeartbeats 1000000 in
theorem rkeys_any (w : World) : Calls Tryd.prog 7 #[] w fun e w' => ∃ v, e = .returned v ∧ Tx w' v keyB ∧ Below w.heap.size w w' := by
  go_enter Tryd.func7, Tryd.ntmps7
  go_wp2
  go_ret
  exact ⟨_, rfl, str_row keyB w _, (Below.refl _ _).alloc (Nat.le_refl _) _⟩
/-- is it a key word -/
def keyIs (s : ByteArray) : Bool := decide (s.data.toList ∈ keyB.map fun x => x.data.toList)
/-- is it a name that is no key word -/
def identB (s : ByteArray) : Bool := !keyIs s && !decide (s.size = 0) && decide (s.size ≤ 16) && decide (nmE s 0 = s.size)
theorem st_eq {a b : ByteArray} (h : a = b) : (a.toList == b.toList) = true := by rw [h]; simp
theorem st_ne {a b : ByteArray} (h : a ≠ b) : (a.toList == b.toList) = false := by
  rw [Bool.eq_false_iff]; intro g
  apply h
  apply ByteArray.ext
  apply Array.toList_inj.1
  have := beq_iff_eq.1 g
  rwa [ByteArray.toList_eq, ByteArray.toList_eq] at this
theorem name0_c (s : ByteArray) (w : World) (hs : s.size ≤ 1000000000) (R : Nat) (hR : nmE s 0 = R) :
    Calls Tryd.prog 14 #[.string s, .int .i64 0] w fun e w' => e = .returned (.int .i64 (R : Nat)) ∧ w = w' := by
  rw [← hR]; exact rname_any s 0 w hs (by omega)
theorem key_no {s : ByteArray} {k : Nat} (hk : ¬ k < keyB.length) (h : ∀ q, q < k → keyB[q]? ≠ some s) : keyIs s = false := by
  apply decide_eq_false
  intro g
  obtain ⟨x, hx, he⟩ := List.mem_map.1 g
  obtain ⟨q, hq⟩ := List.mem_iff_getElem?.1 hx
  have h1 := (List.getElem?_eq_some_iff.1 hq).1
  refine h q (by omega) (hq.trans (congrArg some ?_))
  exact ByteArray.ext (Array.toList_inj.1 he)
theorem key_yes {s : ByteArray} {k : Nat} (h : keyB[k]? = some s) : keyIs s = true := decide_eq_true (List.mem_map.2 ⟨s, List.mem_of_getElem? h, rfl⟩)
theorem emp_is (s : ByteArray) : s.toList.isEmpty = decide (s.size = 0) := by
  rw [ByteArray.toList_eq, Bool.eq_iff_iff, decide_eq_true_eq, List.isEmpty_iff_length_eq_zero]
  simp
set_option maxRecDepth 100000 in
set_option maxHeartbeats 1000000 in
theorem rident_any (s : ByteArray) (w : World) (hs : s.size ≤ 1000000000) :
    Calls Tryd.prog 9 #[.string s] w fun e w' => e = .returned (.bool (identB s)) ∧ Below w.heap.size w w' := by
  obtain ⟨R, hR⟩ : ∃ R, identB s = R := ⟨_, rfl⟩
  rw [hR]
  have HR := Lib.hid hR
  clear hR
  have hk := rkeys_any
  go_enter Tryd.func9, Tryd.ntmps9
  go_wp2_with (go_at_call 7; refine (hk _).mono ?_; rintro e w1 ⟨v, rfl, ht, b1⟩; have HB := Lib.hid b1; have HT := Lib.hid ht; obtain ⟨kb, rfl, -, -⟩ := ht; clear b1)
  clear hk
  rw [show keyB.length = 20 from rfl] at HT ⊢
  go_loopw [4] (fun j wr => ∃ k : Nat, j = .int .i64 (k : Nat) ∧ k ≤ 20 ∧ Hid (Below w.heap.size w wr) ∧ Hid (Tx wr (.slice (some ⟨kb, 0, none⟩) 20 20) keyB) ∧ Hid (∀ q, q < k → keyB[q]? ≠ some s)) (fun j _ => 20 - (intOf j).toNat)
  case atStart => exact ⟨0, rfl, by omega, HB, HT, Lib.hid (fun q hq => by omega)⟩
  case round =>
    clear HB HT
    obtain ⟨k, rfl, hk, HB, HT, HK⟩ := hrel
    by_cases h20 : k < 20
    · obtain ⟨x, hx⟩ : ∃ x, keyB[k]? = some x := ⟨keyB[k], List.getElem?_eq_getElem h20⟩
      have hcell : wr.cell? ⟨kb, k, none⟩ = some (.string x) := by
        obtain ⟨kb', h1, _, h3⟩ := HT.out
        cases h1
        exact h3 k x hx
      have HX := Lib.hid hx
      clear hx
      by_cases he : x = s
      · have he2 := st_eq he
        have HF : Hid (R = false) := Lib.hid (by
          rw [← HR.out]; unfold identB; rw [key_yes (by rw [HX.out, he])]; rfl)
        clear HR HK HX
        go_wp2_with fail
        go_ret
        exact ⟨by rw [HF.out]; rfl, HB.out⟩
      · have he2 := st_ne he
        have HN : Hid (∀ q, q < k + 1 → keyB[q]? ≠ some s) := Lib.hid (fun q hq => by
          by_cases e : q = k
          · subst e
            rw [HX.out]
            intro g
            exact he (Option.some.inj g)
          · exact HK.out q (by omega))
        clear HR HK HX
        go_wp2_with fail
        go_roundw
        case rel => exact ⟨k + 1, by go_num, by omega, HB, HT, HN⟩
        case measure => simp [intOf]; omega
    · have HN : Hid (keyIs s = false) := Lib.hid (key_no (by show ¬ k < 20; exact h20) HK.out)
      obtain ⟨m, hm⟩ : ∃ m, nmE s 0 = m := ⟨_, rfl⟩
      have h3 := fun w => name0_c s w hs m hm
      have HF : Hid (R = (!decide (s.size = 0) && decide (s.size ≤ 16) && decide (m = s.size))) := Lib.hid (by
        rw [← HR.out]; unfold identB; rw [HN.out, hm]; rfl)
      have HE := Lib.hid (emp_is s)
      clear HR HK HN hm
      go_wp2_with (go_at_call 14; refine (h3 _).mono ?_; rintro e w2 ⟨rfl, rfl⟩)
      all_goals go_ret
      all_goals
        refine ⟨?_, HB.out⟩
        rw [HF.out]
        apply ret_b
        (try rw [HE.out])
        rw [Bool.eq_iff_iff]
        simp only [Bool.and_eq_true, Bool.not_eq_true', decide_eq_true_eq, decide_eq_false_iff_not, beq_iff_eq, Bool.false_eq_true]
        first
        | omega
        | (refine ⟨fun h => h.elim, fun h => ?_⟩
           have h0 := HE.out
           rw [‹s.toList = []›] at h0
           exact h.1.1 (of_decide_eq_true h0.symm))
        | (refine ⟨fun h => h.elim, fun h => ?_⟩
           have h1 := h.1.2
           omega)
end Lx
end Go.Proofs.YtpddkchnogfjkaaDoor
