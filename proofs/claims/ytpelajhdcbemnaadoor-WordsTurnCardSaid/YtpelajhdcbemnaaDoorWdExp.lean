/- Layer 8: a text's signs, one by one: strings.Split by nothing. -/
import Derived.Test.YtpelajhdcbemnaaDoorWdMem
import Derived.Test.YtpelajhdcbemnaaDoorUtSigns
import Derived.Test.YtpelajhdcbemnaaDoorShelf
namespace Go.Proofs.YtpelajhdcbemnaaDoor
open Go.RowKit
namespace Wd
open _root_.Go.Proofs.YtpelajhdcbemnaaDoor.Ut
/-- signs, each as a text -/
def sgn (cs : List Nat) : List ByteArray := cs.map fun c => str (put c)
theorem sgn_len (cs : List Nat) : (sgn cs).length = cs.length := by unfold sgn; simp
theorem puts_none {r : List Nat} (h : puts r = []) : r = [] := by
  cases r with
  | nil => rfl
  | cons c r =>
    rw [puts_cons] at h
    exact absurd (List.append_eq_nil_iff.1 h).1 (put_ne c)
theorem count_from {s : ByteArray} {cs : List Nat} (hv : sigs (byt s) = some cs) : ∀ (fuel pos : Nat) (done r : List Nat), _root_.Go.Proofs.YtpelajhdcbemnaaDoor.Ut.Read s pos done → cs = done ++ r → s.size - pos ≤ fuel → Lib.runeCountFrom s fuel pos = r.length := by
  have he := (sigs_iff.1 hv).2
  have key : ∀ (pos : Nat) (done r : List Nat), _root_.Go.Proofs.YtpelajhdcbemnaaDoor.Ut.Read s pos done → cs = done ++ r → puts r = (byt s).drop pos := by
    intro pos done r hr hc
    have h1 := hr.eq
    rw [hc, puts_app] at he
    exact List.append_cancel_left (he.symm.trans h1)
  intro fuel
  induction fuel with
  | zero =>
    intro pos done r hr hc hf
    have h2 := key pos done r hr hc
    have := hr.le
    rw [List.drop_of_length_le (by rw [byt_len]; omega)] at h2
    rw [puts_none h2]
    rfl
  | succ f ih =>
    intro pos done r hr hc hf
    by_cases hp : pos < s.size
    · obtain ⟨c, r', hsg, hcs, _, hr2, hd⟩ := hr.next hp hv
      have hre : r = c :: r' := List.append_cancel_left (hc.symm.trans hcs)
      subst hre
      have hpl := put_len c
      unfold Lib.runeCountFrom
      rw [if_pos hp, hd]
      rw [ih (pos + (put c).length) (done ++ [c]) r' hr2 (by rw [hc]; simp) (by omega), List.length_cons]
      omega
    · have h2 := key pos done r hr hc
      rw [List.drop_of_length_le (by rw [byt_len]; omega)] at h2
      rw [Lib.runeCountFrom_end s _ _ hp, puts_none h2]
      rfl
theorem count_signs {s : ByteArray} {cs : List Nat} (hv : sigs (byt s) = some cs) : Lib.runeCount s = cs.length :=
  count_from hv s.size 0 [] cs (_root_.Go.Proofs.YtpelajhdcbemnaaDoor.Ut.Read.start s) rfl (by omega)
/-- block g holds these cells -/
def Rt (w : World) (g : Nat) (c : Array Value) : Prop := w.heap[g]? = some (.cells c 9 (0, 0))
theorem Rt.lt {w : World} {g : Nat} {c : Array Value} (h : Rt w g c) : g < w.heap.size := (Array.getElem?_eq_some_iff.1 h).1
theorem Rt.on {w w' : World} {g : Nat} {c : Array Value} (h : Rt w g c) (hb : Below w.heap.size w w') : Rt w' g c := (hb.block g h.lt).trans h
theorem Rt.cell {w : World} {g j : Nat} {c : Array Value} {u : Value} (h : Rt w g c) (hj : c[j]? = some u) : w.cell? ⟨g, j, none⟩ = some u := by
  rw [cell_of_row w g j c 9 (0, 0) h]
  exact hj
theorem Rt.free {w : World} {g j : Nat} {c : Array Value} (h : Rt w g c) : w.frozen? ⟨g, j, none⟩ = false := by
  unfold Rt at h
  simp [World.frozen?, h]
theorem Rt.set {w : World} {g j : Nat} {c : Array Value} (h : Rt w g c) (u : Value) : Rt (w.setCell ⟨g, j, none⟩ u) g (c.setIfInBounds j u) := by
  unfold Rt at h ⊢
  simp [World.setCell, Array.getElem?_modify, h]
/-- the loop of strings.explode -/
structure ExRel (w0 : World) (g : Nat) (cs : List Nat) (k : Nat) (R : ByteArray) (wr : World) : Prop where
  lt : k < cs.length
  eq : byt R = puts (cs.drop k)
  row : Rt wr g (Lib.cellsOf (sgn (cs.take k)) cs.length)
  bel : Below w0.heap.size w0 wr
  new : w0.heap.size ≤ g
theorem tabs_on {a b : Nat} {w w' : World} (h : Lib.Utf8Tabs a b w) (hb : Below w.heap.size w w') : Lib.Utf8Tabs a b w' := by
  obtain ⟨h1, h2⟩ := h
  refine ⟨fun c hc => ?_, fun i hi => ⟨?_, ?_⟩⟩
  · exact (hb.cell (World.block_lt_of_cell? w _ (h1 c hc))).trans (h1 c hc)
  · exact (hb.cell (World.block_lt_of_cell? w _ (h2 i hi).1)).trans (h2 i hi).1
  · exact (hb.cell (World.block_lt_of_cell? w _ (h2 i hi).2)).trans (h2 i hi).2
theorem sgn_snoc {cs : List Nat} {k c : Nat} (hc : cs[k]? = some c) : sgn (cs.take (k + 1)) = sgn (cs.take k) ++ [str (put c)] := by
  unfold sgn
  rw [List.take_add_one, hc]
  simp
theorem ExRel.head {w0 wr : World} {g k c : Nat} {cs : List Nat} {R : ByteArray} (h : ExRel w0 g cs k R wr) (hs : Sgs cs) (hc : cs[k]? = some c) :
    Lib.decodeGo R = (c, (put c).length) ∧ R.extract 0 (put c).length = str (put c) ∧ byt (R.extract (put c).length R.size) = puts (cs.drop (k + 1)) ∧ (put c).length ≤ R.size ∧ Sg c := by
  have hk := h.lt
  have hd : cs.drop k = c :: cs.drop (k + 1) := by
    rw [List.drop_eq_getElem_cons hk]
    congr 1
    rw [List.getElem?_eq_getElem hk] at hc
    exact Option.some.inj hc
  have hsg : Sg c := hs c (List.mem_of_getElem? hc)
  have he := h.eq
  rw [hd, puts_cons] at he
  have hpl := put_len c
  have hsz : (put c).length ≤ R.size := by rw [← byt_len, he]; simp
  have hv : sigs (byt R) = some (cs.drop k) := sigs_iff.2 ⟨fun x hx => hs x (List.mem_of_mem_drop hx), h.eq⟩
  obtain ⟨c', r', _, hcs, _, _, hdec⟩ := (_root_.Go.Proofs.YtpelajhdcbemnaaDoor.Ut.Read.start R).next (by omega) hv
  rw [hd] at hcs
  obtain ⟨rfl, _⟩ := List.cons.inj hcs
  refine ⟨?_, ?_, ?_, hsz, hsg⟩
  · unfold Lib.decodeGo
    rw [if_neg (by omega), hdec]
  · apply byt_inj
    rw [byt_ext, byt_str (put_lt hsg), he, List.drop_zero, List.take_left]
  · rw [byt_from, he, List.drop_left]
theorem ExRel.nxt {w0 wr w' : World} {g k c : Nat} {cs : List Nat} {R : ByteArray} (h : ExRel w0 g cs k R wr) (hs : Sgs cs) (hc : cs[k]? = some c) (hk : k + 1 < cs.length) (hb : Below wr.heap.size wr w') :
    ExRel w0 g cs (k + 1) (R.extract (put c).length R.size) (w'.setCell ⟨g, k, none⟩ (.string (str (put c)))) := by
  obtain ⟨_, _, h3, _, _⟩ := h.head hs hc
  refine ⟨hk, h3, ?_, ?_, h.new⟩
  · have h5 := (h.row.on hb).set (j := k) (.string (str (put c)))
    have hl : (sgn (cs.take k)).length = k := by rw [sgn_len, List.length_take]; omega
    have h6 := Lib.cellsOf_set (done := sgn (cs.take k)) (N := cs.length) (by omega) (str (put c))
    rw [hl] at h6
    rw [h6, ← sgn_snoc hc] at h5
    exact h5
  · have := h.new
    have hb2 := h.bel.trans (hb.mono h.bel.size)
    exact ⟨hb2.os, hb2.tape, hb2.output, by simpa using hb2.size, fun j hj => (Below.heap_setCell w' ⟨g, k, none⟩ _ j (by show j ≠ g; omega)).trans (hb2.block j hj)⟩
set_option maxRecDepth 100000 in
set_option maxHeartbeats 4000000 in
theorem explode_any (s : ByteArray) (cs : List Nat) (n : Int) (w : World) (hs : s.size ≤ 1000000000) (hn : n < 0) (hv : sigs (byt s) = some cs) (h0 : 0 < cs.length) (hT : Lib.Utf8Tabs 1 2 w) :
    Calls Tryd.prog 57 #[.string s, .int .i64 n] w fun e w' => ∃ g, e = .returned (.slice (some ⟨g, 0, none⟩) cs.length cs.length) ∧ Rt w' g (txs (sgn cs)).toArray ∧ Below w.heap.size w w' := by
  have hR := Tryd.utf8_RuneCountInString s w (by omega)
  rw [count_signs hv] at hR
  have hsg := (sigs_iff.1 hv).1
  have heq := (sigs_iff.1 hv).2
  have hcl : cs.length ≤ s.size := by have := puts_len cs; rw [← heq, byt_len] at this; exact this
  have HSG := Lib.hid hsg
  have HEQ := Lib.hid heq
  have HT := Lib.hid hT
  clear hv hsg heq hT
  obtain ⟨N, hN⟩ : ∃ N, cs.length = N := ⟨_, rfl⟩
  rw [hN] at h0 hR hcl ⊢
  have HN := Lib.hid hN
  clear hN
  have hmk := run_make_row' (P := Tryd.prog) 22 9 (.string ByteArray.empty) 16 Tryd.underlying22 (by kernel_rfl) rfl .i64 .i64 N (by omega) (by omega)
  go_enter Tryd.func57, Tryd.ntmps57
  go_wp2_with (go_at_call 55; refine hR.mono ?_; rintro e w1 ⟨rfl, pos, rfl⟩)
  have hb1 : Below w.heap.size w (w.iter s pos) := (Below.refl _ _).alloc (Nat.le_refl _) _
  have hrt : Rt ((w.iter s pos).alloc (.cells (Lib.cellsOf [] N) 9)) (w.iter s pos).heap.size (Lib.cellsOf [] N) := heap_alloc_new _ _
  rw [← Lib.cellsOf_nil]
  have hb2 := hb1.alloc hb1.size (.cells (Lib.cellsOf [] N) 9)
  generalize hw2 : (w.iter s pos).alloc (.cells (Lib.cellsOf [] N) 9) = w2 at hrt hb2 ⊢
  generalize hg : (w.iter s pos).heap.size = g at hrt ⊢
  have hg2 : w.heap.size ≤ g := by rw [← hg]; exact hb1.size
  have H0 : Hid (ExRel w g cs 0 s w2) := Lib.hid ⟨by have := HN.out; omega, by rw [List.drop_zero]; exact HEQ.out, by rw [HN.out]; exact hrt, hb2, hg2⟩
  clear hR hmk hb1 hb2 hrt hw2 hg
  go_loopw [0, 7] (fun s0 s7 wr => ∃ (k : Nat) (R : ByteArray), s0 = .string R ∧ s7 = .int .i64 k ∧ k < N ∧ ExRel w g cs k R wr) (fun _ i _ => N - (intOf i).toNat)
  case atStart => exact ⟨0, s, rfl, rfl, h0, H0.out⟩
  case round =>
    obtain ⟨k, R, rfl, rfl, hk, hr⟩ := hrel
    have HR := Lib.hid hr
    clear hr
    obtain ⟨c, hc⟩ : ∃ c, cs[k]? = some c := ⟨_, List.getElem?_eq_getElem (by have := HN.out; omega)⟩
    obtain ⟨e1, e2, e3, e4, e5⟩ := HR.out.head HSG.out hc
    have hpl := put_len c
    have hcN : c < 1114112 := by unfold Sg at e5; omega
    have HC := Lib.hid hc
    have HE3 := Lib.hid e3
    clear hc e3 e5
    have hnx : (Lib.cellsOf (sgn (cs.take k)) cs.length)[k]? = some (.string ByteArray.empty) := by
      have h1 := HN.out
      have h2 : (sgn (cs.take k)).length = k := by rw [sgn_len, List.length_take]; omega
      have := Lib.cellsOf_next (done := sgn (cs.take k)) (N := cs.length) (by omega)
      rw [h2] at this
      exact this
    have HNX := Lib.hid hnx
    clear hnx
    by_cases hlt : k + 1 < N
    · have hdc := Tryd.utf8_DecodeRuneInString R wr (tabs_on HT.out HR.out.bel)
      rw [e1] at hdc
      obtain ⟨p, hp⟩ : ∃ p, put c = p := ⟨_, rfl⟩
      rw [hp] at hdc hpl e2 e4
      have HP := Lib.hid hp
      have HE2 := Lib.hid e2
      clear hp e1 e2
      go_wp2_with (go_at_call 60; refine hdc.mono ?_; rintro e w3 ⟨rfl, b3⟩; have HB3 := Lib.hid b3; have hc3 := (HR.out.row.on b3).cell HNX.out; have hf3 := (HR.out.row.on b3).free (j := k); clear b3)
      go_roundw
      case rel => exact ⟨k + 1, R.extract p.length R.size, rfl, by go_num, hlt, by rw [← HP.out, show R.extract 0 (put c).length = str (put c) by rw [HP.out]; exact HE2.out]; exact HR.out.nxt HSG.out HC.out (by rw [HN.out]; exact hlt) HB3.out⟩
      case measure => simp [intOf]; omega
    · have hkN : N = k + 1 := by omega
      have hcl := HR.out.row.cell HNX.out
      have hfr := HR.out.row.free (j := k)
      have hRs : R = str (put c) := by
        apply byt_inj
        have := HR.out.eq
        have h2 : cs.drop k = [c] := by
          have h3 : k < cs.length := by rw [HN.out]; omega
          have h4 := HC.out
          rw [List.getElem?_eq_getElem h3] at h4
          rw [List.drop_eq_getElem_cons h3, Option.some.inj h4, List.drop_of_length_le (by have := HN.out; omega)]
        have hsg : Sg c := HSG.out c (List.mem_of_getElem? HC.out)
        rw [this, h2, byt_str (put_lt hsg), puts_cons]
        simp
      have hfin : Rt (wr.setCell ⟨g, k, none⟩ (.string R)) g (txs (sgn cs)).toArray := by
        have h5 := HR.out.row.set (j := k) (.string R)
        have h1 := HN.out
        have hl : (sgn (cs.take k)).length = k := by rw [sgn_len, List.length_take]; omega
        have h6 := Lib.cellsOf_set (done := sgn (cs.take k)) (N := cs.length) (by omega) R
        rw [hl] at h6
        rw [h6, hRs, ← sgn_snoc HC.out, List.take_of_length_le (by omega)] at h5
        have h7 := Lib.cellsOf_full (sgn cs)
        rw [sgn_len] at h7
        rw [h7] at h5
        rw [hRs]
        exact h5
      have hbf : Below w.heap.size w (wr.setCell ⟨g, k, none⟩ (.string R)) := by
        have hb2 := HR.out.bel
        have := HR.out.new
        exact ⟨hb2.os, hb2.tape, hb2.output, by simpa using hb2.size, fun j hj => (Below.heap_setCell wr ⟨g, k, none⟩ _ j (by show j ≠ g; omega)).trans (hb2.block j hj)⟩
      have HF := Lib.hid hfin
      have HBF := Lib.hid hbf
      clear hfin hbf hRs e1 e2
      subst hkN
      go_wp2
      go_ret
      exact ⟨g, rfl, HF.out, HBF.out⟩
end Wd
end Go.Proofs.YtpelajhdcbemnaaDoor
