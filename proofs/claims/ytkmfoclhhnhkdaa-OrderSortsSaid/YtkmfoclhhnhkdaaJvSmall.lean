/- jval: keys in memory, slices.Index of them, names of kinds, simple values. -/
import Derived.Test.YtkmfoclhhnhkdaaNmOps
import Derived.Lib.Strings
namespace Go.Proofs.Ytkmfoclhhnhkdaa
open Go.RowKit
namespace Jv
open _root_.Go.Proofs.Ytkmfoclhhnhkdaa.Nm
/-- a slice of texts that reads as a list -/
def Ks (w : World) (v : Value) (l : List ByteArray) : Prop :=
  ∃ ao cap, v = .slice ao l.length cap ∧ l.length ≤ cap ∧ cap ≤ maxLen ∧ (ao = none → cap = 0) ∧ (0 < l.length → ∃ k o, ao = some ⟨k, o, none⟩ ∧ k < w.heap.size ∧ ∀ j s, l[j]? = some s → w.cell? ⟨k, o + j, none⟩ = some (.string s))
theorem Ks.nil0 (w : World) : Ks w (.slice none 0 0) [] := ⟨_, 0, rfl, Nat.le_refl _, by decide, fun _ => rfl, fun h => absurd h (by simp)⟩
theorem Ks.on {a b : World} {v : Value} {l : List ByteArray} (h : Ks a v l) (hb : Below a.heap.size a b) : Ks b v l := by
  obtain ⟨ao, cap, h1, h2, h3, h4, h⟩ := h
  exact ⟨ao, cap, h1, h2, h3, h4, fun h0 => by
    obtain ⟨k, o, h5, hk, h⟩ := h h0
    exact ⟨k, o, h5, Nat.lt_of_lt_of_le hk hb.size, fun j d hj => (hb.cell (p := ⟨k, o + j, none⟩) hk).trans (h j d hj)⟩⟩
theorem Ks.form {w : World} {v : Value} {l : List ByteArray} (h : Ks w v l) : ∃ ao cap, v = .slice ao l.length cap ∧ l.length ≤ cap ∧ (0 < l.length → ∃ k o, ao = some ⟨k, o, none⟩ ∧ k < w.heap.size ∧ ∀ j s, l[j]? = some s → w.cell? ⟨k, o + j, none⟩ = some (.string s)) := by
  obtain ⟨ao, cap, h1, h2, _, _, h⟩ := h
  exact ⟨ao, cap, h1, h2, h⟩
theorem str_ne {a b : ByteArray} (h : ¬ a = b) : (a.toList == b.toList) = false := by
  rw [beq_eq_false_iff_ne]
  intro e
  rw [Lib.toList_data, Lib.toList_data] at e
  exact h (ByteArray.ext (Array.toList_inj.1 e))
/-- where a key stands first, or -1 -/
def idx (l : List ByteArray) (key : ByteArray) : Int := match l.findIdx? (fun x => decide (key = x)) with | some i => i | none => -1
theorem idx_at {l : List ByteArray} {key : ByteArray} {k : Nat} (hk : l[k]? = some key) (h : ∀ j s, j < k → l[j]? = some s → key ≠ s) : idx l key = k := by
  obtain ⟨h1, h2⟩ := List.getElem?_eq_some_iff.1 hk
  have : l.findIdx? (fun x => decide (key = x)) = some k := by
    rw [List.findIdx?_eq_some_iff_getElem]
    refine ⟨h1, by rw [h2]; simp, fun j hj => ?_⟩
    have := h j l[j] hj (List.getElem?_eq_getElem (by omega))
    simpa using this
  unfold idx; rw [this]
theorem idx_no {l : List ByteArray} {key : ByteArray} (h : ∀ j s, j < l.length → l[j]? = some s → key ≠ s) : idx l key = -1 := by
  have : l.findIdx? (fun x => decide (key = x)) = none := by
    rw [List.findIdx?_eq_none_iff]
    intro x hx
    obtain ⟨j, hj, e⟩ := List.getElem_of_mem hx
    have := h j x hj (by rw [List.getElem?_eq_getElem hj, e])
    simpa using this
  unfold idx; rw [this]
set_option maxRecDepth 100000 in
set_option maxHeartbeats 1000000 in
theorem index_any (v : Value) (l : List ByteArray) (key : ByteArray) (w : World) (hv : Ks w v l) (hl : l.length ≤ 9223372036854775807) :
    Calls Try.prog 43 #[v, .string key] w fun e w' => e = .returned (.int .i64 (idx l key)) ∧ w = w' := by
  obtain ⟨ao, cap, rfl, hc, h⟩ := hv.form
  have H := Lib.hid h
  obtain ⟨r, hr⟩ : ∃ r, idx l key = r := ⟨_, rfl⟩
  rw [hr]
  have HR := Lib.hid hr
  clear h hv hr
  go_enter Try.func43, Try.ntmps43
  go_wp2
  go_loop [8] (fun i => ∃ k : Nat, i = .int .i64 (k : Nat) ∧ k ≤ l.length ∧ Hid (∀ j s, j < k → l[j]? = some s → key ≠ s)) (fun i => l.length - (intOf i).toNat)
  case atStart => exact ⟨0, rfl, by omega, Lib.hid (fun j s h => by omega)⟩
  case round =>
    obtain ⟨k, rfl, hk, HA⟩ := hrel
    by_cases hlt : k < l.length
    · obtain ⟨x, hx⟩ : ∃ x, l[k]? = some x := ⟨l[k], List.getElem?_eq_getElem hlt⟩
      obtain ⟨g, o, rfl, hg, hcl⟩ := H.out (by omega)
      have hcx : w.cell? ⟨g, o + k, none⟩ = some (.string x) := hcl k x hx
      have HX := Lib.hid hx
      clear hcl hx
      by_cases he : key = x
      · subst he
        have hv2 : (k : Int) = r := by rw [← HR.out, idx_at HX.out HA.out]
        have HV := Lib.hid hv2
        clear hv2
        go_wp2
        go_ret
        exact ⟨by rw [← HV.out]; rfl, rfl⟩
      · have HA' : Hid (∀ j s, j < k + 1 → l[j]? = some s → key ≠ s) := Lib.hid (fun j s hj hs => by
          by_cases e : j = k
          · subst e
            rw [HX.out] at hs
            obtain rfl := Option.some.inj hs
            exact he
          · exact HA.out j s (by omega) hs)
        have he2 := str_ne he
        clear HA
        go_wp2
        go_round
        case rel => exact ⟨k + 1, by go_num, by omega, HA'⟩
        case measure => simp [intOf]; omega
    · have hv2 : r = -1 := by rw [← HR.out, idx_no (fun j s hj hs => HA.out j s (by omega) hs)]
      subst hv2
      go_wp2
      go_ret
      exact ⟨rfl, rfl⟩
/-- a kind's name -/
def kname (k : Int) : ByteArray :=
  if k = 0 then ⟨#[110, 117, 108, 108]⟩ else if k = 1 ∨ k = 2 then ⟨#[98, 111, 111, 108, 101, 97, 110]⟩ else if k = 3 then ⟨#[110, 117, 109, 98, 101, 114]⟩
  else if k = 4 then ⟨#[115, 116, 114, 105, 110, 103]⟩ else if k = 5 then ⟨#[97, 114, 114, 97, 121]⟩ else if k = 6 then ⟨#[111, 98, 106, 101, 99, 116]⟩ else if k = 7 then ⟨#[101, 114, 114, 111, 114]⟩ else ⟨#[]⟩
end Jv
end Go.Proofs.Ytkmfoclhhnhkdaa
