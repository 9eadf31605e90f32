/- Principals behind a slice; what the finders of principals do. -/
import Derived.Test.YtmfdclnepmgmlaaLvMeth
import Derived.Test.YtmfdclnepmgmlaaLvMem
import Derived.Test.YtmfdclnepmgmlaaLvNames
namespace Go.Proofs.Ytmfdclnepmgmlaa
open Go.RowKit
namespace Lv
/-- a slice of ints that holds l -/
structure OverAt (w : World) (v : Value) (l : List Int) : Prop where
  form : ∃ a cap, v = .slice a l.length cap ∧ l.length ≤ maxLen ∧ ∀ i x, l[i]? = some x → ∃ b off, a = some ⟨b, off, none⟩ ∧ w.cell? ⟨b, off + i, none⟩ = some (.int .i64 x)
theorem OverAt.go {w w1 : World} {v : Value} {l : List Int} (h : OverAt w v l) (hb : Below w.heap.size w w1) : OverAt w1 v l := by
  obtain ⟨a, cap, hv, hl, hc⟩ := h.form
  refine ⟨a, cap, hv, hl, fun i x hx => ?_⟩
  obtain ⟨b, off, ha, h1⟩ := hc i x hx
  exact ⟨b, off, ha, cellB hb h1⟩
abbrev Prin := ByteArray × List Int
/-- a slice of principals that holds ps -/
structure PrinsAt (w : World) (v : Value) (ps : List Prin) : Prop where
  form : ∃ a cap, v = .slice a ps.length cap ∧ ps.length ≤ cap ∧ ∀ i x, ps[i]? = some x → ∃ b off u, a = some ⟨b, off, none⟩ ∧ w.cell? ⟨b, off + i * 2, none⟩ = some (.string x.1) ∧ w.cell? ⟨b, off + i * 2 + 1, none⟩ = some u ∧ OverAt w u x.2 ∧ x.1.size ≤ maxLen
theorem PrinsAt.go {w w1 : World} {v : Value} {ps : List Prin} (h : PrinsAt w v ps) (hb : Below w.heap.size w w1) : PrinsAt w1 v ps := by
  obtain ⟨a, cap, hv, hl, hc⟩ := h.form
  refine ⟨a, cap, hv, hl, fun i x hx => ?_⟩
  obtain ⟨b, off, u, ha, h1, h2, h3, h4⟩ := hc i x hx
  exact ⟨b, off, u, ha, cellB hb h1, cellB hb h2, h3.go hb, h4⟩
/-- the place of the first principal with a name -/
def fnd (ps : List Prin) (s : ByteArray) : Option Nat := ps.findIdx? fun x => x.1.toList == s.toList
theorem fnd_none {ps : List Prin} {s : ByteArray} (h : ∀ i x, i < ps.length → ps[i]? = some x → (x.1.toList == s.toList) = false) : fnd ps s = none := by
  unfold fnd
  rw [List.findIdx?_eq_none_iff]
  intro x hx
  obtain ⟨i, hi⟩ := List.getElem?_of_mem hx
  exact h i x (List.getElem?_eq_some_iff.1 hi).1 hi
theorem fnd_some {ps : List Prin} {s : ByteArray} {k : Nat} {x : Prin} (hx : ps[k]? = some x) (h1 : (x.1.toList == s.toList) = true) (h : ∀ i y, i < k → ps[i]? = some y → (y.1.toList == s.toList) = false) : fnd ps s = some k := by
  unfold fnd
  rw [List.findIdx?_eq_some_iff_getElem]
  obtain ⟨hk, hx⟩ := List.getElem?_eq_some_iff.1 hx
  refine ⟨hk, by rw [hx]; exact h1, fun j hj => ?_⟩
  rw [h j ps[j] hj (List.getElem?_eq_getElem (by omega))]
  decide
theorem fnd_is {ps : List Prin} {s : ByteArray} {k : Nat} (h : fnd ps s = some k) : ∃ l, ps[k]? = some (s, l) := by
  unfold fnd at h
  rw [List.findIdx?_eq_some_iff_getElem] at h
  obtain ⟨hk, h1, _⟩ := h
  refine ⟨ps[k].2, ?_⟩
  rw [List.getElem?_eq_getElem hk, ← bytes_eq.1 h1]
def fndI : Option Nat → Int
  | none => -1
  | some k => k
def fndN : Option Nat → Nat
  | none => 0
  | some k => k
theorem ret_int {a b : Int} (h : a = b) : Ending.returned (.int .i64 a) = .returned (.int .i64 b) := by rw [h]
set_option maxHeartbeats 1000000 in
theorem rfind_any (v : Value) (ps : List Prin) (s : ByteArray) (w : World) (hp : PrinsAt w v ps) (hl : ps.length ≤ maxLen) :
    Calls Try.prog 12 #[v, .string s] w fun e w' => e = .returned (.int .i64 (fndI (fnd ps s))) ∧ w = w' := by
  obtain ⟨a, cap, rfl, hcap, hc⟩ := hp.form
  unfold maxLen at hl
  have HC := Lib.hid hc
  clear hc hp
  go_enter Try.func12, Try.ntmps12
  go_wp2
  go_loop [5] (fun i => ∃ k : Nat, k ≤ ps.length ∧ i = .int .i64 k ∧ ∀ i x, i < k → ps[i]? = some x → (x.1.toList == s.toList) = false) (fun i => ps.length - (intOf i).toNat)
  case atStart => exact ⟨0, by omega, rfl, fun i x h => by omega⟩
  case round =>
    obtain ⟨k, hk, rfl, hn⟩ := hrel
    have HN := Lib.hid hn
    clear hn
    by_cases hlt : k < ps.length
    · obtain ⟨⟨t, l⟩, hx⟩ : ∃ x, ps[k]? = some x := ⟨_, List.getElem?_eq_getElem hlt⟩
      obtain ⟨b, off, u, rfl, c1, _, _, hs⟩ := HC.out k _ hx
      have HX := Lib.hid hx
      clear hx
      dsimp only at c1
      cases g : (t.toList == s.toList)
      · go_wp2
        go_round
        case rel =>
          refine ⟨k + 1, by omega, by go_num, fun i x hi hx => ?_⟩
          by_cases e : i < k
          · exact HN.out i x e hx
          · obtain rfl : i = k := by omega
            rw [HX.out] at hx
            cases hx
            exact g
        case measure => simp [intOf]; omega
      · go_wp2
        go_ret
        exact ⟨ret_int (by rw [fnd_some HX.out g HN.out]; rfl), rfl⟩
    · obtain rfl : k = ps.length := by omega
      go_wp2
      go_ret
      exact ⟨ret_int (by rw [fnd_none HN.out]; rfl), rfl⟩
theorem ret_found {a b : Int} {x y : Bool} (h : a = b) (h' : x = y) : Ending.returned (.tuple #[.int .i64 a, .bool x]) = .returned (.tuple #[.int .i64 b, .bool y]) := by rw [h, h']
set_option maxHeartbeats 1000000 in
theorem find_any' (v : Value) (ps : List Prin) (s : ByteArray) (w : World) (hp : PrinsAt w v ps) (hl : ps.length ≤ maxLen) :
    Calls Try.prog 15 #[v, .string s] w fun e w' => e = .returned (.tuple #[.int .i64 (fndN (fnd ps s) : Nat), .bool (fnd ps s).isSome]) ∧ Below w.heap.size w w' := by
  obtain ⟨a, cap, rfl, hcap, hc⟩ := hp.form
  unfold maxLen at hl
  have HC := Lib.hid hc
  clear hc hp
  go_enter Try.func15, Try.ntmps15
  go_wp2
  go_loopw [6, 7, 10] (fun _ _ i wr => ∃ k : Nat, k ≤ ps.length ∧ i = .int .i64 k ∧ Below w.heap.size w wr ∧ ∀ i x, i < k → ps[i]? = some x → (x.1.toList == s.toList) = false) (fun _ _ i _ => ps.length - (intOf i).toNat)
  case atStart => exact ⟨0, by omega, rfl, Below.refl _ _, fun i x h => by omega⟩
  case round =>
    obtain ⟨k, hk, rfl, hb, hn⟩ := hrel
    have HN := Lib.hid hn
    clear hn
    by_cases hlt : k < ps.length
    · obtain ⟨⟨t, l⟩, hx⟩ : ∃ x, ps[k]? = some x := ⟨_, List.getElem?_eq_getElem hlt⟩
      obtain ⟨b, off, u, rfl, c1, c2, hu, hs⟩ := HC.out k _ hx
      obtain ⟨ua, ucap, rfl, _, _⟩ := hu.form
      have HX := Lib.hid hx
      clear hx hu
      have e1 := cellB hb c1
      have e2 := cellB hb c2
      have h0 := block_lt_of_cell c1
      clear c1 c2
      dsimp only at e1 e2 h0
      have hsz := hb.size
      cases g : (t.toList == s.toList)
      · go_wp2
        go_roundw
        case rel =>
          refine ⟨k + 1, by omega, by go_num, hb.alloc hsz _, fun i x hi hx => ?_⟩
          by_cases e : i < k
          · exact HN.out i x e hx
          · obtain rfl : i = k := by omega
            rw [HX.out] at hx
            cases hx
            exact g
        case measure => simp [intOf]; omega
      · go_wp2
        go_ret2
        exact ⟨ret_found (by rw [fnd_some HX.out g HN.out]; rfl) (by rw [fnd_some HX.out g HN.out]; rfl), hb.alloc hsz _⟩
    · obtain rfl : k = ps.length := by omega
      go_wp2
      go_ret2
      exact ⟨ret_found (by rw [fnd_none HN.out]; rfl) (by rw [fnd_none HN.out]; rfl), hb⟩
end Lv
end Go.Proofs.Ytmfdclnepmgmlaa
