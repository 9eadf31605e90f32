/- Layer 8: Split of any texts: its parts, or its signs. -/
import Derived.Test.YtpelajhdcbemnaaDoorWdExp
namespace Go.Proofs.YtpelajhdcbemnaaDoor
open Go.RowKit
namespace Wd
open _root_.Go.Proofs.YtpelajhdcbemnaaDoor.Ut
/-- what the library's variables hold where a call begins -/
structure St (w : World) : Prop where
  most : ∃ m, w.cell? ⟨0, 0, none⟩ = some (.int .i64 m)
  tabs : Lib.Utf8Tabs 1 2 w
theorem St.on {w w' : World} (h : St w) (hb : Below w.heap.size w w') : St w' := by
  obtain ⟨⟨m, hm⟩, h2⟩ := h
  exact ⟨⟨m, (hb.cell (World.block_lt_of_cell? w _ hm)).trans hm⟩, tabs_on h2 hb⟩
/-- the parts of a text, or its signs -/
def spl (s p : ByteArray) : List ByteArray := if p.size = 0 then sgn (sgsOf s) else Lib.splitB p 0 (Lib.countB s p) s
theorem spl_signs {s p : ByteArray} (h : p.size = 0) : spl s p = sgn (sgsOf s) := by unfold spl; rw [if_pos h]
theorem spl_parts {s p : ByteArray} (h : 1 ≤ p.size) : spl s p = Lib.splitB p 0 (Lib.countB s p) s := by unfold spl; rw [if_neg (by omega)]
theorem spl_ps {s p : ByteArray} (h : 1 ≤ p.size) : (spl s p).map tl = ps (tl s) (tl p) := by
  rw [spl_parts h]
  have := Lib.splitB_data p 0 (Lib.countB s p) s
  exact this
theorem spl_len {s p : ByteArray} (h : 1 ≤ p.size) : (spl s p).length = Lib.countB s p + 1 := by
  rw [spl_parts h]
  exact Lib.splitB_all p h 0 _ s rfl
theorem ret_i {a b : Int} (h : a = b) : Ending.returned (.int .i64 a) = .returned (.int .i64 b) := by rw [h]
set_option maxRecDepth 100000 in
set_option maxHeartbeats 1000000 in
theorem parts_any (s p : ByteArray) (w : World) (hs : s.size ≤ 1000000000) (hp : p.size ≤ 1000000000) (hT : St w) :
    Calls Tryd.prog 23 #[.string s, .string p] w fun e w' => e = .returned (.int .i64 ((spl s p).length : Nat)) ∧ Below w.heap.size w w' := by
  by_cases h0 : p.size = 0
  · have he : p = ⟨#[]⟩ := by
      have := tl_nil.2 h0
      exact tl_inj (by rw [this]; rfl)
    subst he
    have hsg := signs_any s w (by unfold maxLen; omega)
    rw [spl_signs h0, sgn_len]
    obtain ⟨k, hk⟩ : ∃ k, (sgsOf s).length = k := ⟨_, rfl⟩
    rw [hk] at hsg ⊢
    clear h0 hk
    go_enter Tryd.func23, Tryd.ntmps23
    go_wp2_with (go_at_call 36; refine hsg.mono ?_; rintro e w1 ⟨rfl, b1⟩)
    go_ret
    exact ⟨rfl, b1⟩
  · obtain ⟨m, hm⟩ := hT.most
    have hct := Tryd.strings_Count_any s p m w (by omega) hm (by omega)
    have hle := Lib.countB_le p (by omega) s.size s (Nat.le_refl _)
    rw [spl_len (by omega)]
    have hne : (p.toList == (⟨#[]⟩ : ByteArray).toList) = false := by
      rw [str_eq, decide_eq_false_iff_not]
      intro e
      exact h0 (tl_nil.1 e)
    have hne2 : p.toList.isEmpty = false := by
      cases hh : p.toList with
      | nil => exact absurd (tl_nil.1 (by rw [ByteArray.toList_eq] at hh; exact hh)) h0
      | cons x r => rfl
    obtain ⟨k, hk⟩ : ∃ k, Lib.countB s p = k := ⟨_, rfl⟩
    rw [hk] at hct hle ⊢
    clear hk hT
    go_enter Tryd.func23, Tryd.ntmps23
    go_wp2_with (go_at_call 37; refine hct.mono ?_; rintro e w1 ⟨rfl, rfl⟩)
    go_ret
    exact ⟨ret_i (by omega), Below.refl _ _⟩
theorem rt_ts {w : World} {g n : Nat} {l : List ByteArray} (h : Rt w g (txs l).toArray) (hn : l.length = n) : Ts w (.slice (some ⟨g, 0, none⟩) n n) l := by
  subst hn
  refine ⟨_, _, rfl, Nat.le_refl _, fun _ => ⟨g, 0, rfl, h.lt, fun j s hj => ?_⟩⟩
  rw [Nat.zero_add]
  exact h.cell (by rw [List.getElem?_toArray]; exact txs_get hj)
set_option maxRecDepth 100000 in
set_option maxHeartbeats 1000000 in
/-- strings.Split by nothing -/
theorem chars_any (s : ByteArray) (w : World) (hs : s.size ≤ 1000000000) (h0 : 0 < (sgsOf s).length) (hT : St w) :
    Calls Tryd.prog 24 #[.string s, .string ⟨#[]⟩] w fun e w' => ∃ v, e = .returned v ∧ Ts w' v (sgn (sgsOf s)) ∧ Below w.heap.size w w' := by
  obtain ⟨cs, hcs⟩ : ∃ cs, sigs (byt s) = some cs := by
    cases h : sigs (byt s) with
    | none => rw [sgsOf_none h] at h0; simp at h0
    | some cs => exact ⟨cs, rfl⟩
  rw [sgsOf_some hcs] at h0 ⊢
  have hex := explode_any s cs (-1) w hs (by decide) hcs h0 hT.tabs
  have hgs : Calls Tryd.prog 38 #[.string s, .string ⟨#[]⟩, .int .i64 0, .int .i64 (-1)] w fun e w' => ∃ v, e = .returned v ∧ Ts w' v (sgn cs) ∧ Below w.heap.size w w' := by
    go_enter Tryd.func38, Tryd.ntmps38
    go_wp2_with (go_at_call 57; refine hex.mono ?_; rintro e w1 ⟨g, rfl, hr, b1⟩)
    go_ret
    exact ⟨_, rfl, rt_ts hr (sgn_len cs), b1⟩
  clear hex
  go_enter Tryd.func24, Tryd.ntmps24
  go_wp2_with (go_at_call 38; refine hgs.mono ?_; rintro e w1 ⟨v, rfl, hr, b1⟩)
  go_ret
  exact ⟨v, rfl, hr, b1⟩
/-- what words.Split answers -/
def SpP (s p : ByteArray) (w : World) (e : Ending) (w' : World) : Prop :=
  Below w.heap.size w w' ∧ (((spl s p).length ≤ 4096 ∧ ∃ v, e = .returned (.tuple #[v, .bool true]) ∧ Ts w' v (spl s p)) ∨ (4096 < (spl s p).length ∧ e = .returned (.tuple #[.slice none 0 0, .bool false])))
set_option maxRecDepth 100000 in
set_option maxHeartbeats 1000000 in
theorem split_any (s p : ByteArray) (w : World) (hs : s.size ≤ 1000000000) (hp : p.size ≤ 1000000000) (hT : St w) :
    Calls Tryd.prog 14 #[.string s, .string p] w (SpP s p w) := by
  have hpa := parts_any s p w hs hp hT
  by_cases h1 : 4096 < (spl s p).length
  · have HP : ∀ w', Below w.heap.size w w' → SpP s p w (.returned (.tuple #[.slice none 0 0, .bool false])) w' := fun w' hb => ⟨hb, .inr ⟨h1, rfl⟩⟩
    have HH := Lib.hid HP
    generalize (spl s p).length = k at hpa h1
    clear HP hT
    go_enter Tryd.func14, Tryd.ntmps14
    go_wp2_with (go_at_call 23; refine hpa.mono ?_; rintro e w1 ⟨rfl, b1⟩)
    exact bodyPost_ret (v := .tuple #[.slice none 0 0, .bool false]) (by simp [results, Tryd.results14, go_sem]) rfl (HH.out _ b1)
  · by_cases h2 : (spl s p).length = 0
    · have HP : ∀ w', Below w.heap.size w w' → SpP s p w (.returned (.tuple #[.slice none 0 0, .bool true])) w' := fun w' hb => ⟨hb, .inl ⟨by omega, _, rfl, by
        rw [List.length_eq_zero_iff.1 h2]; exact Ts.nil0 _ _ _⟩⟩
      have HH := Lib.hid HP
      rw [h2] at hpa
      clear HP hT h1 h2
      go_enter Tryd.func14, Tryd.ntmps14
      go_wp2_with (go_at_call 23; refine hpa.mono ?_; rintro e w1 ⟨rfl, b1⟩)
      exact bodyPost_ret (v := .tuple #[.slice none 0 0, .bool true]) (by simp [results, Tryd.results14, go_sem]) rfl (HH.out _ b1)
    · have hsp : ∀ w1, Below w.heap.size w w1 → Calls Tryd.prog 24 #[.string s, .string p] w1 fun e w' => ∃ v, e = .returned v ∧ SpP s p w (.returned (.tuple #[v, .bool true])) w' := by
        intro w1 hb
        by_cases h0 : p.size = 0
        · have he : p = ⟨#[]⟩ := by
            have := tl_nil.2 h0
            exact tl_inj (by rw [this]; rfl)
          subst he
          have h3 := spl_signs (s := s) h0
          have h4 : 0 < (sgsOf s).length := by rw [h3, sgn_len] at h2; omega
          refine (chars_any s w1 hs h4 (hT.on hb)).mono ?_
          rintro e w2 ⟨v, rfl, ht, b2⟩
          exact ⟨v, rfl, hb.trans (b2.mono hb.size), .inl ⟨by omega, v, rfl, by rw [h3]; exact ht⟩⟩
        · obtain ⟨m, hm⟩ := (hT.on hb).most
          refine (Tryd.strings_Split s p m w1 (by omega) hm (by omega)).mono ?_
          rintro e w2 ⟨rfl, rfl⟩
          refine ⟨_, rfl, hb.trans (((Below.refl _ _).alloc (Nat.le_refl _) _).mono hb.size), .inl ⟨by omega, _, rfl, ?_⟩⟩
          have h5 := spl_len (s := s) (p := p) (by omega)
          refine rt_ts ?_ h5
          rw [spl_parts (by omega)]
          exact heap_alloc_new w1 _
      have HSP := Lib.hid hsp
      generalize (spl s p).length = k at hpa h1 h2
      clear hsp hT
      have hk : ¬ ((k : Int) = 0) := by omega
      go_enter Tryd.func14, Tryd.ntmps14
      go_wp2_with (first | (go_at_call 23; refine hpa.mono ?_; rintro e w1 ⟨rfl, b1⟩) | (go_at_call 24; refine (HSP.out _ b1).mono ?_; rintro e w2 ⟨v, rfl, h3⟩))
      exact bodyPost_ret (v := .tuple #[v, .bool true]) (by simp [results, Tryd.results14, go_sem]) rfl h3
end Wd
end Go.Proofs.YtpelajhdcbemnaaDoor
