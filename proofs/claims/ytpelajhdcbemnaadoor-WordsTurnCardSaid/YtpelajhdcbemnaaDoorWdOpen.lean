/- Layer 8: what the lifted proofs need of the program: its listed tables, texts as arguments. -/
import Derived.Test.YtpelajhdcbemnaaDoorWdTimes
import Derived.Test.YtpelajhdcbemnaaDoorRows
import Derived.ProofKit
import Derived.Lay
import Derived.LaidMore
import Derived.Lib.LaidTab
import Derived.Lib.LaidU8
import Derived.SliceStrings
import Derived.ChangeSlices
import Derived.HandedShaped
import Derived.Shelf.Vars
namespace Go.Proofs.YtpelajhdcbemnaaDoor
open Go.ChangeShapes Go.WideShapes Go.ChangeAt Go.RowKit
namespace Wd
theorem own : ownKnob Tryd.prog.godebug = none := by kernel_rfl
theorem laidOut : laidOutB Tryd.prog = true := by kernel_rfl
def laid2 : List (String × DataW Unit) := [("unicode/utf8.acceptRanges", Rows.laid_unicode_utf8_acceptRanges), ("unicode/utf8.first", Rows.laid_unicode_utf8_first)]
theorem u8 : U8Extra Tryd.prog Tryd.lays197_ren := ⟨by kernel_rfl, by kernel_rfl, by kernel_rfl, by kernel_rfl, by kernel_rfl, by kernel_rfl, by kernel_rfl⟩
theorem first_data : (Rows.laid_unicode_utf8_first : DataW Unit) = Lib.firstData := by kernel_rfl
theorem accept_data : (Rows.laid_unicode_utf8_acceptRanges : DataW Unit) = Lib.acceptData := by kernel_rfl
theorem st_of {W : World} (h : laidMetH Tryd.prog laid2 W) (hs : W.ShapedOpen Tryd.prog) : St W := by
  rw [MakeChecks.laidMetH_plain _ _ _ (by kernel_rfl)] at h
  obtain ⟨ps, hl, _⟩ := h
  refine ⟨cell_of_shapedOpen_int (zero := #[.int .i64 0]) (t := 3) hs (of_decide_eq_true (by kernel_rfl)) (by kernel_rfl) rfl (by kernel_rfl) (by kernel_rfl) Tryd.underlying3, ?_⟩
  refine utf8Tabs_of_reads { Tryd.lays197 with } u8 ?_ ?_
  · rw [← first_data]
    exact Lib.LaidVars_reads hl _ _ (by simp [laid2])
  · rw [← accept_data]
    exact Lib.LaidVars_reads hl _ _ (by simp [laid2])
section
variable {H : Type} {enc : TypeId × Value → H}
/-- the lift of a walk that asks what the library's variables hold -/
theorem lift_st {os : Os} {f : FuncId} {fn : Func} {s : ChangeSpec} (started : os.Started) (noInit : Tryd.prog.inits.idxOf? f = none) (hfn : Tryd.prog.funcs[f]? = some fn)
    (witness : ∃ (w : World) (tape : Tape) (i : Input), w.os = os ∧ (w.forCall tape i).Shaped Tryd.prog ∧ i.vars = [] ∧ Input.okWide Tryd.prog (w.forCall tape i) .any w.heap.size f i ∧
      ((s.pre enc Tryd.prog fn [] false (w.forCall tape i).memory i.args ∧ laidMetH Tryd.prog laid2 (w.forCall tape i).memory) ∧ sizedMet enc Tryd.prog fn (OpenSpec.ofChange s) false (w.forCall tape i).memory i.args) ∧ ({} : Assume).holds Tryd.prog (lone (Frame.enter Tryd.prog f i.args .normal) [] (w.forCall tape i)))
    (walk : ∀ (W : World) (base : Nat) (args : Array Value) (ds gs : List (DataW H)) (before : List MemPlace), (∀ (j : Nat) t v, fn.params[j]? = some t → args[j]? = some v → Value.okWide Tryd.prog W .any base t v) →
      DataW.Whole enc Tryd.prog fn.params.toList s.vars false W args.toList ds gs before → St W → Calls Tryd.prog f args W fun e W' => ∃ v, e = .returned v ∧ s.post enc Tryd.prog fn false true false false W args v W') :
    ReturnsInHanded {} Tryd.checked os f .any (fun w args => (s.pre enc Tryd.prog fn [] false w args ∧ laidMetH Tryd.prog laid2 w) ∧ sizedMet enc Tryd.prog fn (OpenSpec.ofChange s) false w args) (s.post enc Tryd.prog fn false true false false) := by
  refine returnsInHanded_of_calls (C := Tryd.checked) own started noInit witness ?_
  rintro w tape i - hsh - ⟨_, _, _, fn', hfn', _, _, _, _, hval⟩ ⟨⟨⟨ds, gs, before, hw, _⟩, hx⟩, hz⟩ _
  obtain rfl := Option.some.inj (hfn'.symm.trans hfn)
  refine (walk (w.forCall tape i) w.heap.size i.args ds gs before hval (DataW.Whole.of_heap (w' := w.forCall tape i) (by rfl) hw) (st_of (hx.of_heap (by rfl)) hsh)).mono ?_
  rintro e W' ⟨v, rfl, hp⟩
  exact ChangeSpec.post_blind hp
variable {w : World} {spare : Nat → Bool} {held : Bool}
theorem spot_none {a : Addr} {v : Value} (h : w.cell? (a.add 0) = some v) : ∃ b off, a = ⟨b, off, none⟩ := by
  obtain ⟨b, off, spot⟩ := a
  have hspot : spot = none := by simpa [Addr.add] using World.cell?_spot h
  exact ⟨b, off, by rw [hspot]⟩
/-- a row of texts as an argument -/
theorem open_texts {r : Reach} {b0 : Nat} {v : Value} {d : DataW H} {p : List MemPlace} (hv : Value.okWide Tryd.prog w r b0 22 v) (h : DataW.Trod enc Tryd.prog w 0 spare held 22 v d p) :
    ∃ l, Ts w v l ∧ (∀ s ∈ l, s.size ≤ maxLen) ∧ l.length ≤ maxLen := by
  obtain ⟨fuel, hf⟩ := h
  obtain ⟨a0, n, c, rfl⟩ := okWide_slice Tryd.underlying22 hv
  rcases open_strings Tryd.underlying22 Tryd.underlying9 (by kernel_rfl) hf with ⟨hv, _⟩ | ⟨a, len, cap, ss, hv, _, hl, hm, hlen, _, hc, hs⟩
  · have hv : Value.slice a0 n c = .slice none 0 0 := by simpa [Value.cells] using hv
    rw [hv]
    exact ⟨[], Ts.nil0 w _ _, (fun s hs => by simp at hs), by decide⟩
  · have hv : Value.slice a0 n c = .slice (some a) len cap := by simpa [Value.cells] using hv
    rw [hv]
    have hge : len ≤ ss.length := by rw [hlen]; split <;> omega
    have hle : (ss.take len).length = len := by simp; omega
    refine ⟨ss.take len, ⟨some a, cap, by rw [hle], by rw [hle]; exact hl, fun h0 => ?_⟩, fun s hs' => hs s (List.mem_of_mem_take hs'), by rw [hle]; omega⟩
    rw [hle] at h0
    obtain ⟨b, off, rfl⟩ := spot_none (hc 0 (by omega))
    have hb := World.block_lt_of_cell? w _ (hc 0 (by omega))
    refine ⟨b, off, rfl, by simpa [Addr.add] using hb, fun j s hj => ?_⟩
    have hi : j < len := by have := (List.getElem?_eq_some_iff.1 hj).1; omega
    have hx' : ss[j]? = some s := by rw [List.getElem?_take, if_pos hi] at hj; exact hj
    have h1 := hc j (by omega)
    rw [Go.WideShapes.add_plain] at h1
    rw [h1]; simp [List.getD, hx']
end
end Wd
end Go.Proofs.YtpelajhdcbemnaaDoor
