/- Layer 8: Join and Times of any texts. -/
import Derived.Test.YtpelajhdcbemnaaDoorWdMem
import Derived.Test.YtpelajhdcbemnaaDoorShelf
namespace Go.Proofs.YtpelajhdcbemnaaDoor
open Go.RowKit
namespace Wd
open _root_.Go.Proofs.YtpelajhdcbemnaaDoor.Ut
theorem jn_cons {x y : List UInt8} {r : List (List UInt8)} {p : List UInt8} : jn (x :: y :: r) p = x ++ p ++ jn (y :: r) p := by unfold jn; rw [List.intercalate_cons_cons]
theorem jn_snoc (p x : List UInt8) : ∀ xs : List (List UInt8), jn (xs ++ [x]) p = if xs = [] then x else jn xs p ++ p ++ x
  | [] => by rw [if_pos rfl]; simp [jn]
  | [y] => by
    rw [if_neg (by simp)]
    show jn [y, x] p = _
    rw [jn_cons]
    simp [jn]
  | y :: z :: r => by
    have ih := jn_snoc p x (z :: r)
    rw [if_neg (by simp)] at ih ⊢
    show jn (y :: z :: (r ++ [x])) p = _
    rw [jn_cons, jn_cons]
    show y ++ p ++ jn (z :: r ++ [x]) p = _
    rw [ih]
    simp only [List.append_assoc]
/-- the bytes of the first k texts, joined -/
def jl (l : List ByteArray) (p : ByteArray) (k : Nat) : List UInt8 := jn ((l.take k).map tl) (tl p)
theorem jl_zero (l : List ByteArray) (p : ByteArray) : jl l p 0 = [] := by unfold jl jn; simp
theorem jl_succ {l : List ByteArray} {k : Nat} {x : ByteArray} (p : ByteArray) (h : l[k]? = some x) : jl l p (k + 1) = if k = 0 then tl x else jl l p k ++ tl p ++ tl x := by
  have hk := (List.getElem?_eq_some_iff.1 h).1
  unfold jl
  rw [List.take_add_one, h, Option.toList_some, List.map_append, List.map_cons, List.map_nil, jn_snoc]
  by_cases h0 : k = 0
  · subst h0
    simp
  · rw [if_neg h0, if_neg]
    intro e
    rw [List.map_eq_nil_iff] at e
    have := congrArg List.length e
    rw [List.length_take] at this
    have h1 : min k l.length = 0 := this
    omega
theorem jl_len {l : List ByteArray} {k : Nat} {x : ByteArray} (p : ByteArray) (h : l[k]? = some x) : (jl l p (k + 1)).length = (jl l p k).length + (if k = 0 then 0 else p.size) + x.size := by
  rw [jl_succ p h]
  split
  · rename_i h0
    subst h0
    rw [jl_zero, tl_len]
    simp
  · rw [List.length_append, List.length_append, tl_len, tl_len]
theorem jl_mono (l : List ByteArray) (p : ByteArray) (k : Nat) : ∀ j, k ≤ j → j ≤ l.length → (jl l p k).length ≤ (jl l p j).length := by
  intro j
  induction j with
  | zero => intro h _; rw [show k = 0 by omega]; exact Nat.le_refl _
  | succ j ih =>
    intro h hj
    by_cases e : k = j + 1
    · rw [e]; exact Nat.le_refl _
    · obtain ⟨x, hx⟩ : ∃ x, l[j]? = some x := ⟨_, List.getElem?_eq_getElem (by omega)⟩
      have := jl_len p hx
      have := ih (by omega) (by omega)
      omega
/-- all texts, joined -/
def jt (l : List ByteArray) (p : ByteArray) : List UInt8 := jl l p l.length
theorem jt_all (l : List ByteArray) (p : ByteArray) : jt l p = jn (l.map tl) (tl p) := by unfold jt jl; rw [List.take_length]
/-- what Join and Times answer: the text, if it is held -/
def JnP (t : List UInt8) (w : World) (e : Ending) (w' : World) : Prop :=
  Below w.heap.size w w' ∧ ((t.length ≤ 4096 ∧ e = .returned (.tuple #[.string ⟨t.toArray⟩, .bool true])) ∨ (4096 < t.length ∧ e = .returned (.tuple #[.string ⟨#[]⟩, .bool false])))
theorem lib_join {v : Value} {l : List ByteArray} {p : ByteArray} {w : World} (hv : Ts w v l) (hl : l.length ≤ 1000000000) (hj : (jt l p).length ≤ 4096) :
    Calls Tryd.prog 21 #[v, .string p] w fun e w' => e = .returned (.string ⟨(jt l p).toArray⟩) ∧ Below w.heap.size w w' := by
  obtain ⟨ao, cap, rfl, hc, h⟩ := hv
  by_cases h0 : 0 < l.length
  · obtain ⟨k, o, rfl, hk, hcl⟩ := h h0
    have he : Lib.join (l.map (·.data.toList)) p.data.toList = jt l p := by rw [jt_all]; rfl
    have := Tryd.strings_Join k o cap l p w hcl hk (by omega) hc (by rw [he]; omega)
    rw [he] at this
    exact this
  · have : l = [] := List.length_eq_zero_iff.1 (by omega)
    subst this
    have he : jt [] p = [] := by rw [jt_all]; simp [jn]
    rw [he]
    exact (Tryd.strings_Join_none ao cap p w).mono fun e w' ⟨h1, h2⟩ => ⟨h1, h2 ▸ Below.refl _ _⟩
set_option maxRecDepth 100000 in
set_option maxHeartbeats 2000000 in
theorem join_any (v : Value) (l : List ByteArray) (p : ByteArray) (w : World) (hv : Ts w v l) (hl : l.length ≤ 1000000000) (hp : p.size ≤ 140737488355328) (hx : ∀ x ∈ l, x.size ≤ 140737488355328) :
    Calls Tryd.prog 9 #[v, .string p] w (JnP (jt l p) w) := by
  have hlb := fun w' hb => lib_join (p := p) (Ts.on (b := w') hv hb) hl
  obtain ⟨ao, cap, rfl, hc, h⟩ := hv
  have H := Lib.hid h
  have HX := Lib.hid hx
  have HLB := Lib.hid hlb
  have hno : ∀ k, k ≤ l.length → 4096 < (jl l p k).length → JnP (jt l p) w (.returned (.tuple #[.string ⟨#[]⟩, .bool false])) w := fun k hk h => ⟨Below.refl _ _, .inr ⟨by have := jl_mono l p k l.length hk (Nat.le_refl _); unfold jt; omega, rfl⟩⟩
  have HNO := Lib.hid hno
  clear h hx hlb hno
  have hp0 : ((p.size : Nat) : Int) ≤ 140737488355328 := by omega
  go_enter Tryd.func9, Tryd.ntmps9
  go_wp2
  go_loopw [6, 11] (fun a i wr => ∃ k : Nat, i = .int .i64 k ∧ k ≤ l.length ∧ wr = w ∧ ∃ m : Nat, m ≤ 4096 ∧ a = .int .i64 m ∧ Hid (m + (jl l p k).length = 4096)) (fun _ i _ => l.length - (intOf i).toNat)
  case atStart => exact ⟨0, rfl, by omega, rfl, 4096, by omega, rfl, Lib.hid (by rw [jl_zero]; rfl)⟩
  case round =>
    obtain ⟨k, rfl, hk, rfl, m, hm, rfl, HM⟩ := hrel
    by_cases hlt : k < l.length
    · obtain ⟨x, hx⟩ : ∃ x, l[k]? = some x := ⟨_, List.getElem?_eq_getElem hlt⟩
      obtain ⟨g, o, rfl, hg, hcl⟩ := H.out (by omega)
      have hcx := hcl k x hx
      have hxs := HX.out x (List.mem_of_getElem? hx)
      have hjl := jl_len p hx
      clear hcl hx
      by_cases h0 : k = 0
      · subst h0
        rw [Nat.add_zero] at hcx
        rw [if_pos rfl] at hjl
        replace hjl : (jl l p 1).length = (jl l p 0).length + x.size := hjl
        have HJ := Lib.hid hjl
        clear hjl
        by_cases h1 : x.size ≤ m
        · go_wp2
          go_roundw
          case rel => exact ⟨1, by go_num, by omega, by trivial, m - x.size, by omega, by go_num, Lib.hid (by have := HJ.out; have := HM.out; omega)⟩
          case measure => simp [intOf]; omega
        · go_wp2
          exact bodyPost_ret (v := .tuple #[.string ⟨#[]⟩, .bool false]) (by simp [results, Tryd.results9, go_sem]) rfl (HNO.out 1 (by omega) (by have := HJ.out; have := HM.out; omega))
      · have hkp : (k : Int) > 0 := by omega
        rw [if_neg h0] at hjl
        have HJ := Lib.hid hjl
        clear hjl
        by_cases h1 : p.size + x.size ≤ m
        · go_wp2
          go_roundw
          case rel => exact ⟨k + 1, by go_num, by omega, by trivial, m - (p.size + x.size), by omega, by go_num, Lib.hid (by have := HJ.out; have := HM.out; omega)⟩
          case measure => simp [intOf]; omega
        · go_wp2
          exact bodyPost_ret (v := .tuple #[.string ⟨#[]⟩, .bool false]) (by simp [results, Tryd.results9, go_sem]) rfl (HNO.out (k + 1) (by omega) (by have := HJ.out; have := HM.out; omega))
    · have hke : k = l.length := by omega
      have hje : (jt l p).length ≤ 4096 := by have := HM.out; rw [hke] at this; unfold jt; omega
      have hcall := HLB.out wr (Below.refl _ _) hje
      have hend : ∀ w2, Below wr.heap.size wr w2 → JnP (jt l p) wr (.returned (.tuple #[.string ⟨(jt l p).toArray⟩, .bool true])) w2 := fun w2 b2 => ⟨b2, .inl ⟨hje, rfl⟩⟩
      obtain ⟨t, ht⟩ : ∃ t, (⟨(jt l p).toArray⟩ : ByteArray) = t := ⟨_, rfl⟩
      rw [ht] at hcall hend
      have HEND := Lib.hid hend
      clear hje ht hend
      go_wp2_with (go_at_call 21; refine hcall.mono ?_; rintro e w2 ⟨rfl, b2⟩)
      exact bodyPost_ret (v := .tuple #[.string t, .bool true]) (by simp [results, Tryd.results9, go_sem]) rfl (HEND.out _ b2)
end Wd
end Go.Proofs.YtpelajhdcbemnaaDoor
