/- jval.Get and jval.Put, of every value. -/
import Derived.Test.YtkmfoclhhnhkdaaJvSplice
import Derived.Deep.RegionWith
import Derived.Deep.Slices
import Derived.Deep.DeepCutAuto
namespace Go.Proofs.Ytkmfoclhhnhkdaa
open Go.RowKit
namespace Jv
open _root_.Go.Proofs.Ytkmfoclhhnhkdaa.Nm
theorem Vs.cs {w : World} {v : Value} {l : List Six} (h : Vs w v l) (h1 : ∀ x ∈ l, x.one) : Cs 6 w v l.length (l.flatMap Six.cells) := by
  obtain ⟨ao, cap, rfl, hc, hm, hn, h⟩ := h
  have hlen : ∀ l : List Six, (l.flatMap Six.cells).length = l.length * 6 := fun l => by
    induction l with
    | nil => rfl
    | cons x l ih => rw [List.flatMap_cons, List.length_append, ih, Six.cells_len, List.length_cons]; omega
  have hget : ∀ (l : List Six) (p : Nat) (u : Value), (l.flatMap Six.cells)[p]? = some u → ∃ x, l[p / 6]? = some x ∧ x.cells[p % 6]? = some u := fun l => by
    induction l with
    | nil => intro p u h; simp at h
    | cons x l ih =>
      intro p u h
      rw [List.flatMap_cons] at h
      by_cases hp : p < 6
      · rw [List.getElem?_append_left (by rw [Six.cells_len]; exact hp)] at h
        exact ⟨x, by rw [Nat.div_eq_of_lt hp]; rfl, by rw [Nat.mod_eq_of_lt hp]; exact h⟩
      · rw [List.getElem?_append_right (by rw [Six.cells_len]; omega), Six.cells_len] at h
        obtain ⟨y, h1, h2⟩ := ih (p - 6) u h
        refine ⟨y, ?_, by rw [show p % 6 = (p - 6) % 6 by omega]; exact h2⟩
        rw [show p / 6 = (p - 6) / 6 + 1 by omega, List.getElem?_cons_succ]
        exact h1
  refine ⟨hlen l, fun u hu => ?_, ao, cap, rfl, hc, hm, fun e => ⟨by have := hn e; omega, hn e⟩, fun a ha => ⟨fun p u hp => ?_, fun h0 => ?_⟩⟩
  · obtain ⟨x, hx, hux⟩ := List.mem_flatMap.1 hu
    exact Six.one_cells (h1 x hx) u hux
  · obtain ⟨x, hx, hux⟩ := hget l p u hp
    have hlt := (List.getElem?_eq_some_iff.1 hx).1
    obtain ⟨k, o, rfl, _, hcl⟩ := h (by omega)
    obtain rfl := Option.some.inj ha
    obtain ⟨c0, c1, c2, c3, c4, c5⟩ := hcl _ x hx
    rw [add_at]
    have hm6 := Nat.mod_lt p (show 0 < 6 by decide)
    have e : o + p = o + p / 6 * 6 + p % 6 := by omega
    rw [e]
    generalize p % 6 = q at hux hm6
    match q, hm6, hux with
    | 0, _, hux => rw [← hux]; exact c0
    | 1, _, hux => rw [← hux]; exact c1
    | 2, _, hux => rw [← hux]; exact c2
    | 3, _, hux => rw [← hux]; exact c3
    | 4, _, hux => rw [← hux]; exact c4
    | 5, _, hux => rw [← hux]; exact c5
  · obtain ⟨k, o, rfl, hk, _⟩ := h h0
    obtain rfl := Option.some.inj ha
    exact hk
theorem Cs.vs {w : World} {v : Value} {n : Nat} {l : List Six} (h : Cs 6 w v n (l.flatMap Six.cells)) (hn : n = l.length) : Vs w v l := by
  subst hn
  obtain ⟨h1, _, ao, cap, rfl, hc, hm, hno, h⟩ := h
  refine ⟨ao, cap, rfl, hc, hm, fun e => (hno e).2, fun h0 => ?_⟩
  cases ao with
  | none => have := (hno rfl).1; omega
  | some a =>
    obtain ⟨hcl, hb⟩ := h a rfl
    have hat : ∀ (l' : List Six) (j : Nat) (x : Six) (p : Nat) (u : Value), l'[j]? = some x → x.cells[p]? = some u → (l'.flatMap Six.cells)[j * 6 + p]? = some u := fun l' => by
      induction l' with
      | nil => intro j x p u h; simp at h
      | cons y l' ih =>
        intro j x p u hj hp
        have hp6 : p < 6 := by have := (List.getElem?_eq_some_iff.1 hp).1; rwa [Six.cells_len] at this
        rw [List.flatMap_cons]
        cases j with
        | zero =>
          obtain rfl : y = x := by simpa using hj
          rw [List.getElem?_append_left (by rw [Six.cells_len]; omega), Nat.zero_mul, Nat.zero_add]
          exact hp
        | succ j =>
          rw [List.getElem?_append_right (by rw [Six.cells_len]; omega), Six.cells_len, show (j + 1) * 6 + p - 6 = j * 6 + p by omega]
          exact ih j x p u (by simpa using hj) hp
    obtain ⟨x0, hx0⟩ : ∃ x, l[0]? = some x := ⟨_, List.getElem?_eq_getElem h0⟩
    have hc0 := hcl _ _ (hat l 0 x0 0 _ hx0 rfl)
    obtain ⟨k, o, spot⟩ := a
    have hspot : spot = none := by simpa [Addr.add] using World.cell?_spot hc0
    subst hspot
    refine ⟨k, o, rfl, hb h0, fun j x hx => ?_⟩
    have e : ∀ p, (⟨k, o, none⟩ : Addr).add (j * 6 + p) = ⟨k, o + j * 6 + p, none⟩ := fun p => by rw [add_at, Nat.add_assoc]
    have g := fun p u hp => (e p) ▸ hcl (j * 6 + p) u (hat l j x p u hx hp)
    exact ⟨g 0 _ rfl, g 1 _ rfl, g 2 _ rfl, g 3 _ rfl, g 4 _ rfl, g 5 _ rfl⟩
theorem Ks.cs {w : World} {v : Value} {l : List ByteArray} (h : Ks w v l) : Cs 1 w v l.length (l.map Value.string) := by
  obtain ⟨ao, cap, rfl, hc, hm, hn, h⟩ := h
  refine ⟨by simp, fun u hu => ?_, ao, cap, rfl, hc, hm, fun e => ⟨by have := hn e; omega, hn e⟩, fun a ha => ⟨fun p u hp => ?_, fun h0 => ?_⟩⟩
  · obtain ⟨x, _, rfl⟩ := List.mem_map.1 hu
    rfl
  · rw [List.getElem?_map, Option.map_eq_some_iff] at hp
    obtain ⟨x, hx, rfl⟩ := hp
    have hlt := (List.getElem?_eq_some_iff.1 hx).1
    obtain ⟨k, o, rfl, _, hcl⟩ := h (by omega)
    obtain rfl := Option.some.inj ha
    rw [add_at]
    exact hcl p x hx
  · obtain ⟨k, o, rfl, hk, _⟩ := h h0
    obtain rfl := Option.some.inj ha
    exact hk
theorem Cs.ks {w : World} {v : Value} {n : Nat} {l : List ByteArray} (h : Cs 1 w v n (l.map Value.string)) (hn : n = l.length) : Ks w v l := by
  subst hn
  obtain ⟨h1, _, ao, cap, rfl, hc, hm, hno, h⟩ := h
  refine ⟨ao, cap, rfl, hc, hm, fun e => (hno e).2, fun h0 => ?_⟩
  cases ao with
  | none => have := (hno rfl).1; omega
  | some a =>
    obtain ⟨hcl, hb⟩ := h a rfl
    have hc0 := hcl 0 (.string l[0]) (by rw [List.getElem?_map, List.getElem?_eq_getElem h0]; rfl)
    obtain ⟨k, o, spot⟩ := a
    have hspot : spot = none := by simpa [Addr.add] using World.cell?_spot hc0
    subst hspot
    refine ⟨k, o, rfl, hb h0, fun j x hx => ?_⟩
    have := hcl j (.string x) (by rw [List.getElem?_map, hx]; rfl)
    rwa [add_at] at this
/-- a beginning of a slice -/
theorem Cs.pre {sz n cap i : Nat} {w : World} {ao : Option Addr} {cs : List Value} (h : Cs sz w (.slice ao n cap) n cs) (hi : i ≤ n) (hno : ao = none → i = 0) : Cs sz w (.slice ao i cap) i (cs.take (i * sz)) := by
  obtain ⟨h1, h2, ao', cap', e, hc, hm, hn, h⟩ := h
  injection e with e1 e2 e3
  subst e1 e3
  have := Nat.mul_le_mul_right sz hi
  refine ⟨by rw [List.length_take, h1]; omega, fun u hu => h2 u (List.mem_of_mem_take hu), ao, cap, rfl, by omega, hm, fun e => ⟨hno e, (hn e).2⟩, fun a ha => ⟨fun j u hj => ?_, fun h0 => (h a ha).2 (by omega)⟩⟩
  rw [List.getElem?_take] at hj
  split at hj
  · exact (h a ha).1 j u hj
  · cases hj
/-- an end of a slice -/
theorem Cs.suf {sz n cap i : Nat} {w : World} {a : Addr} {cs : List Value} (h : Cs sz w (.slice (some a) n cap) n cs) (hi : i ≤ n) : Cs sz w (.slice (some (a.add (i * sz))) (n - i) (cap - i)) (n - i) (cs.drop (i * sz)) := by
  obtain ⟨h1, h2, ao', cap', e, hc, hm, hn, h⟩ := h
  injection e with e1 e2 e3
  subst e1 e3
  refine ⟨by rw [List.length_drop, h1, Nat.sub_mul], fun u hu => h2 u (List.mem_of_mem_drop hu), _, _, rfl, by omega, by omega, fun e => (by cases e), fun b hb => ?_⟩
  obtain rfl := Option.some.inj hb
  refine ⟨fun j u hj => ?_, fun h0 => ?_⟩
  · rw [List.getElem?_drop] at hj
    have := (h a rfl).1 _ u hj
    rw [Deep.add_add]
    exact this
  · have := (h a rfl).2 (by omega)
    unfold Addr.add
    split <;> exact this
end Jv
end Go.Proofs.Ytkmfoclhhnhkdaa
