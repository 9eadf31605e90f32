/- jval.place: where a key that isn't there yet goes. -/
import Derived.Test.YtkmfoclhhnhkdaaJvSmall
namespace Go.Proofs.Ytkmfoclhhnhkdaa
open Go.RowKit
namespace Jv
/-- is a text above another one? -/
def gtB (x y : ByteArray) : Bool := !(Op.bytesLess x.toList y.toList || x.toList == y.toList)
set_option maxRecDepth 100000 in
theorem run_gtB (x y : ByteArray) (w : World) : (binOp .gtr 9 (.string x) (.string y)).run Try.prog w = .ok (.bool (gtB x y)) w := by
  simp [binOp, Op.stringOp, gtB, go_sem]
/-- how many keys stand ahead of the first one that is above -/
def plc (l : List ByteArray) (key : ByteArray) : Nat := (l.findIdx? (fun x => gtB x key)).getD l.length
theorem plc_at {l : List ByteArray} {key x : ByteArray} {k : Nat} (hk : l[k]? = some x) (hx : gtB x key = true) (h : ∀ j s, j < k → l[j]? = some s → gtB s key = false) : plc l key = k := by
  obtain ⟨h1, h2⟩ := List.getElem?_eq_some_iff.1 hk
  have : l.findIdx? (fun x => gtB x key) = some k := by
    rw [List.findIdx?_eq_some_iff_getElem]
    refine ⟨h1, by rw [h2]; exact hx, fun j hj => ?_⟩
    have := h j l[j] hj (List.getElem?_eq_getElem (by omega))
    simpa using this
  unfold plc; rw [this]; rfl
theorem plc_no {l : List ByteArray} {key : ByteArray} (h : ∀ j s, j < l.length → l[j]? = some s → gtB s key = false) : plc l key = l.length := by
  have : l.findIdx? (fun x => gtB x key) = none := by
    rw [List.findIdx?_eq_none_iff]
    intro x hx
    obtain ⟨j, hj, e⟩ := List.getElem_of_mem hx
    exact h j x hj (by rw [List.getElem?_eq_getElem hj, e])
  unfold plc; rw [this]; rfl
set_option maxRecDepth 100000 in
set_option maxHeartbeats 1000000 in
theorem place_any (v : Value) (l : List ByteArray) (key : ByteArray) (w : World) (hv : Ks w v l) (hl : l.length ≤ 9223372036854775807) :
    Calls Try.prog 45 #[v, .string key] w fun e w' => e = .returned (.int .i64 (plc l key : Nat)) ∧ w = w' := by
  obtain ⟨ao, cap, rfl, hc, h⟩ := hv.form
  have H := Lib.hid h
  obtain ⟨r, hr⟩ : ∃ r, plc l key = r := ⟨_, rfl⟩
  rw [hr]
  have HR := Lib.hid hr
  clear h hv hr
  go_enter Try.func45, Try.ntmps45
  go_wp2
  go_loop [9] (fun i => ∃ k : Nat, i = .int .i64 (k : Nat) ∧ k ≤ l.length ∧ Hid (∀ j s, j < k → l[j]? = some s → gtB s key = false)) (fun i => l.length - (intOf i).toNat)
  case atStart => exact ⟨0, rfl, by omega, Lib.hid (fun j s h => by omega)⟩
  case round =>
    obtain ⟨k, rfl, hk, HA⟩ := hrel
    by_cases hlt : k < l.length
    · obtain ⟨x, hx⟩ : ∃ x, l[k]? = some x := ⟨l[k], List.getElem?_eq_getElem hlt⟩
      obtain ⟨g, o, rfl, hg, hcl⟩ := H.out (by omega)
      have hcx : w.cell? ⟨g, o + k, none⟩ = some (.string x) := hcl k x hx
      have HX := Lib.hid hx
      have hgt := fun w => run_gtB x key w
      clear hcl hx
      cases he : gtB x key
      · have HA' : Hid (∀ j s, j < k + 1 → l[j]? = some s → gtB s key = false) := Lib.hid (fun j s hj hs => by
          by_cases e : j = k
          · subst e
            rw [HX.out] at hs
            obtain rfl := Option.some.inj hs
            exact he
          · exact HA.out j s (by omega) hs)
        rw [he] at hgt
        clear HA he
        go_wp2
        go_round
        case rel => exact ⟨k + 1, by go_num, by omega, HA'⟩
        case measure => simp [intOf]; omega
      · have HV : Hid (k = r) := Lib.hid (by rw [← HR.out, plc_at HX.out he HA.out])
        rw [he] at hgt
        clear HA he HR
        go_wp2
        go_ret
        have hv := HV.out
        subst hv
        exact ⟨rfl, rfl⟩
    · have HV : Hid (r = l.length) := Lib.hid (by rw [← HR.out, plc_no (fun j s hj hs => HA.out j s (by omega) hs)])
      clear HA HR
      go_wp2
      go_ret
      have hv := HV.out
      subst hv
      exact ⟨rfl, rfl⟩
end Jv
end Go.Proofs.Ytkmfoclhhnhkdaa
