/- Layer 8: Upper and Lower of any text. -/
import Derived.Test.YtpelajhdcbemnaaDoorWdMem
namespace Go.Proofs.YtpelajhdcbemnaaDoor
open Go.RowKit
namespace Wd
open _root_.Go.Proofs.YtpelajhdcbemnaaDoor.Ut
/-- block g holds bytes, as []byte of a string lays them -/
def Bf (w : World) (g : Nat) (l : List Nat) : Prop :=
  ∃ c : Array Value, w.heap[g]? = some (.cells c 5 (c.size, c.size + 1)) ∧ l.length ≤ c.size ∧ ∀ (j x : Nat), l[j]? = some x → c[j]? = some (.int .u8 (x : Nat))
theorem Bf.lt {w : World} {g : Nat} {l : List Nat} (h : Bf w g l) : g < w.heap.size := by
  obtain ⟨c, hc, _⟩ := h
  exact (Array.getElem?_eq_some_iff.1 hc).1
theorem Bf.cell {w : World} {g : Nat} {l : List Nat} (h : Bf w g l) {j x : Nat} (hj : l[j]? = some x) : w.cell? ⟨g, j, none⟩ = some (.int .u8 (x : Nat)) := by
  obtain ⟨c, hc, _, h⟩ := h
  have := h j x hj
  simp [World.cell?, hc, this]
theorem Bf.free {w : World} {g : Nat} {l : List Nat} (h : Bf w g l) {j : Nat} (hj : j < l.length) : w.frozen? ⟨g, j, none⟩ = false := by
  obtain ⟨c, hc, hl, _⟩ := h
  simp [World.frozen?, hc]
  omega
theorem Bf.set {w : World} {g : Nat} {l : List Nat} (h : Bf w g l) {k y : Nat} (hk : k < l.length) : Bf (w.setCell ⟨g, k, none⟩ (.int .u8 (y : Nat))) g (l.set k y) := by
  obtain ⟨c, hc, hl, h⟩ := h
  refine ⟨c.setIfInBounds k (.int .u8 (y : Nat)), ?_, by simpa using hl, fun j x hj => ?_⟩
  · simp [World.setCell, Array.getElem?_modify, hc]
  · rw [Array.getElem?_setIfInBounds]
    rw [List.getElem?_set] at hj
    by_cases e : k = j
    · subst e
      rw [if_pos rfl, if_pos hk] at hj
      obtain rfl := Option.some.inj hj
      rw [if_pos rfl, if_pos (by omega)]
    · rw [if_neg e] at hj
      rw [if_neg e]
      exact h j x hj
theorem Bf.new (w : World) (s : ByteArray) : Bf (Lib.bytesWorld w 5 s) w.heap.size (byt s) := by
  refine ⟨_, Lib.bytesWorld_at_new w 5 s, by simp [Lib.bytesCells, byt_len], fun j x hj => ?_⟩
  have hlt : j < s.size := by rw [← byt_len]; exact (List.getElem?_eq_some_iff.1 hj).1
  rw [byt_get s j hlt] at hj
  obtain rfl := Option.some.inj hj
  have h1 := Lib.bytesWorld_cell w 5 s j hlt
  simp [World.cell?, Lib.bytesWorld_at_new] at h1
  rw [h1]
  rw [Array.getElem?_eq_getElem (show j < s.data.size from hlt)]
  rfl
/-- how far the bytes have been turned -/
def mid (f : Nat → Nat) (l : List Nat) (k : Nat) : List Nat := (l.take k).map f ++ l.drop k
theorem mid_len (f : Nat → Nat) (l : List Nat) (k : Nat) : (mid f l k).length = l.length := by unfold mid; simp; omega
theorem mid_zero (f : Nat → Nat) (l : List Nat) : mid f l 0 = l := by unfold mid; simp
theorem mid_all (f : Nat → Nat) (l : List Nat) {k : Nat} (h : l.length ≤ k) : mid f l k = l.map f := by unfold mid; rw [List.take_of_length_le h, List.drop_of_length_le h]; simp
theorem mid_get (f : Nat → Nat) (l : List Nat) {k c : Nat} (h : l[k]? = some c) : (mid f l k)[k]? = some c := by
  have hk := (List.getElem?_eq_some_iff.1 h).1
  unfold mid
  rw [List.getElem?_append_right (by simp; omega)]
  simp only [List.length_map, List.length_take, List.getElem?_drop]
  rw [show k + (k - min k l.length) = k by omega]
  exact h
theorem mid_set (f : Nat → Nat) (l : List Nat) {k c : Nat} (h : l[k]? = some c) : (mid f l k).set k (f c) = mid f l (k + 1) := by
  have hk := (List.getElem?_eq_some_iff.1 h).1
  unfold mid
  apply List.ext_getElem?
  intro j
  rw [List.getElem?_set]
  simp only [List.getElem?_append, List.length_map, List.length_take, List.getElem?_map, List.getElem?_take, List.getElem?_drop, List.length_append, List.length_drop]
  by_cases e : k = j
  · subst e
    rw [if_pos rfl, if_pos (by omega), if_pos (by omega), if_pos (by omega), h]
    rfl
  · rw [if_neg e]
    by_cases e2 : j < k
    · rw [if_pos (by omega), if_pos e2, if_pos (by omega), if_pos (by omega)]
    · rw [if_neg (by omega), if_neg (by omega)]
      congr 1
      omega
/-- a store into the block of bytes leaves what was there before the call -/
theorem below_set {B : Nat} {w0 w : World} (h : Below B w0 w) {g : Nat} (hg : B ≤ g) (o : Nat) (v : Value) : Below B w0 (w.setCell ⟨g, o, none⟩ v) :=
  ⟨h.os, h.tape, h.output, by simpa using h.size, fun k hk => (Below.heap_setCell w ⟨g, o, none⟩ v k (by show k ≠ g; omega)).trans (h.block k hk)⟩
structure TuRel (w0 : World) (g : Nat) (f : Nat → Nat) (l : List Nat) (k : Nat) (wr : World) : Prop where
  buf : Bf wr g (mid f l k)
  bel : Below w0.heap.size w0 wr
theorem TuRel.cell {w0 wr : World} {g k c : Nat} {f : Nat → Nat} {l : List Nat} (h : TuRel w0 g f l k wr) (hc : l[k]? = some c) : wr.cell? ⟨g, k, none⟩ = some (.int .u8 (c : Nat)) := h.buf.cell (mid_get f l hc)
theorem TuRel.free {w0 wr : World} {g k : Nat} {f : Nat → Nat} {l : List Nat} (h : TuRel w0 g f l k wr) (hk : k < l.length) : wr.frozen? ⟨g, k, none⟩ = false := h.buf.free (by rw [mid_len]; exact hk)
theorem TuRel.next {w0 wr : World} {g k c : Nat} {f : Nat → Nat} {l : List Nat} (h : TuRel w0 g f l k wr) (hc : l[k]? = some c) (hg : w0.heap.size ≤ g) : TuRel w0 g f l (k + 1) (wr.setCell ⟨g, k, none⟩ (.int .u8 (f c : Nat))) := by
  refine ⟨?_, below_set h.bel hg _ _⟩
  rw [← mid_set f l hc]
  exact h.buf.set (by rw [mid_len]; exact (List.getElem?_eq_some_iff.1 hc).1)
theorem TuRel.conv {w0 wr : World} {g k cap : Nat} {f : Nat → Nat} {l : List Nat} (h : TuRel w0 g f l k wr) (hk : l.length ≤ k) :
    (convert 31 9 (.slice (some ⟨g, 0, none⟩) l.length cap)).run Tryd.prog wr = .ok (.string (str (l.map f))) wr := by
  have hb := h.buf
  rw [mid_all f l hk] at hb
  refine conv_at (by simp) fun j u hj => ?_
  have hadd : (⟨g, 0, none⟩ : Addr).add j = ⟨g, j, none⟩ := by unfold Addr.add; split <;> simp_all
  unfold cel at hj
  rw [List.getElem?_map] at hj
  obtain ⟨x, hx, rfl⟩ := Option.map_eq_some_iff.1 hj
  rw [hadd]
  exact hb.cell hx
set_option maxRecDepth 100000 in
set_option maxHeartbeats 2000000 in
theorem turn_any (s : ByteArray) (x y a b : Nat) (w : World) (hs : s.size ≤ 1000000000) (hx : x + 25 < 256) (hy : y + 25 < 256) (ha : w.cell? ⟨a, 0, none⟩ = some (.int .u8 (x : Nat))) (hb : w.cell? ⟨b, 0, none⟩ = some (.int .u8 (y : Nat))) :
    Calls Tryd.prog 25 #[.string s, .func (.func 39) #[] #[.pointer (some ⟨a, 0, none⟩), .pointer (some ⟨b, 0, none⟩)]] w fun e w' => e = .returned (.string (str ((byt s).map (tn x y)))) ∧ Below w.heap.size w w' := by
  have hcv := Lib.run_convert_string_bytes (P := Tryd.prog) w 9 31 5 s Tryd.underlying9 Tryd.underlying31 Tryd.underlying5
  have h0 : TuRel w w.heap.size (tn x y) (byt s) 0 (Lib.bytesWorld w 5 s) := ⟨by rw [mid_zero]; exact Bf.new w s, ⟨rfl, rfl, rfl, by rw [Lib.bytesWorld_size]; omega, fun j hj => Lib.bytesWorld_at_old w 5 s j hj⟩⟩
  have HA := Lib.hid ha
  have HB := Lib.hid hb
  have hla := World.block_lt_of_cell? w _ ha
  have hlb := World.block_lt_of_cell? w _ hb
  have hbl := byt_len s
  have hbg := byt_get s
  have hb8 : ∀ (k : Nat) (h : k < s.size), s[k].toNat < 256 := fun k h => s[k].toNat_lt
  generalize byt s = l at h0 hbl hbg ⊢
  generalize Lib.bytesWorld w 5 s = w1 at hcv h0
  generalize grownCap w s.size 0 5 = C at hcv
  have H0 := Lib.hid h0
  have HBL := Lib.hid hbl
  have HBG := Lib.hid hbg
  have HB8 := Lib.hid hb8
  clear ha hb h0 hbl hbg hb8
  go_enter Tryd.func25, Tryd.ntmps25
  go_wp2
  go_loopw [12] (fun i wr => ∃ k : Nat, i = .int .i64 k ∧ k ≤ s.size ∧ TuRel w w.heap.size (tn x y) l k wr) (fun i _ => s.size - (intOf i).toNat)
  case atStart => exact ⟨0, rfl, by omega, H0.out⟩
  case round =>
    obtain ⟨k, rfl, hk, hr⟩ := hrel
    have HR := Lib.hid hr
    clear hr
    by_cases hlt : k < s.size
    · have hc : l[k]? = some s[k].toNat := HBG.out k hlt
      have hc8 := HB8.out k hlt
      generalize s[k].toNat = c at hc hc8
      have c0 := HR.out.cell hc
      have f0 := HR.out.free (k := k) (by have := HBL.out; omega)
      have c1 : wr.cell? ⟨a, 0, none⟩ = some (.int .u8 (x : Nat)) := (HR.out.bel.cell (p := ⟨a, 0, none⟩) hla).trans HA.out
      have c2 : wr.cell? ⟨b, 0, none⟩ = some (.int .u8 (y : Nat)) := (HR.out.bel.cell (p := ⟨b, 0, none⟩) hlb).trans HB.out
      have HC := Lib.hid hc
      clear hc
      have hle := letter_any c x y a b wr hc8 hx hy c1 c2
      generalize hq : tn x y c = q at hle
      have HQ := Lib.hid hq
      clear hq
      go_wp2_with (go_at_call 39; refine hle.mono ?_; rintro e w2 ⟨rfl, rfl⟩)
      go_roundw
      case rel => exact ⟨k + 1, by go_num, by omega, by rw [← HQ.out]; exact HR.out.next HC.out (Nat.le_refl _)⟩
      case measure => simp [intOf]; omega
    · have hks : s.size ≤ k := by omega
      have hcb := HR.out.conv (cap := C) (by have := HBL.out; omega)
      rw [HBL.out] at hcb
      go_wp2
      go_ret
      exact ⟨rfl, HR.out.bel⟩
theorem bT {a b c : World} (h : Below a.heap.size a b) (h' : Below b.heap.size b c) : Below a.heap.size a c := h.trans (h'.mono h.size)
set_option maxRecDepth 100000 in
set_option maxHeartbeats 1000000 in
theorem letters_any (x y : Nat) (w : World) : Calls Tryd.prog 26 #[.int .u8 (x : Nat), .int .u8 (y : Nat)] w fun e w' => ∃ a b, e = .returned (.func (.func 39) #[] #[.pointer (some ⟨a, 0, none⟩), .pointer (some ⟨b, 0, none⟩)]) ∧
    w'.cell? ⟨a, 0, none⟩ = some (.int .u8 (x : Nat)) ∧ w'.cell? ⟨b, 0, none⟩ = some (.int .u8 (y : Nat)) ∧ Below w.heap.size w w' := by
  have hmf : ∀ (fn : Fn) (first cap : Array Value) (w : World), (Instr.makeFunc fn first cap).run Tryd.prog w = .ok (.func fn first cap) w := fun _ _ _ _ => rfl
  go_enter Tryd.func26, Tryd.ntmps26
  go_wp2
  go_ret
  refine ⟨_, _, rfl, ?_, ?_, ((Below.refl _ _).alloc (Nat.le_refl _) _).alloc (by simp) _⟩
  · rw [World.cell?_alloc_old _ _ _ (by simp)]
    exact cell_of_row _ _ 0 _ _ _ (heap_alloc_new w _)
  · exact cell_of_row _ (w.heap.size + 1) 0 #[.int .u8 (y : Nat)] 5 (0, 0) (by simpa using heap_alloc_new (w.alloc (Obj.cells #[.int .u8 (x : Nat)] 5)) (Obj.cells #[.int .u8 (y : Nat)] 5))
set_option maxRecDepth 100000 in
set_option maxHeartbeats 1000000 in
theorem upper_any (s : ByteArray) (w : World) (hs : s.size ≤ 1000000000) : Calls Tryd.prog 15 #[.string s] w fun e w' => e = .returned (.string (str ((byt s).map (tn 97 65)))) ∧ Below w.heap.size w w' := by
  have hlb := letters_any 97 65 w
  go_enter Tryd.func15, Tryd.ntmps15
  go_wp2_with (first | (go_at_call 26; refine hlb.mono ?_; rintro e w1 ⟨a, b, rfl, ha, hb, b1⟩) | (go_at_call 25; refine (turn_any s 97 65 a b w1 hs (by decide) (by decide) ha hb).mono ?_; rintro e w2 ⟨rfl, b2⟩))
  go_ret
  exact ⟨rfl, bT b1 b2⟩
set_option maxRecDepth 100000 in
set_option maxHeartbeats 1000000 in
theorem lower_any (s : ByteArray) (w : World) (hs : s.size ≤ 1000000000) : Calls Tryd.prog 16 #[.string s] w fun e w' => e = .returned (.string (str ((byt s).map (tn 65 97)))) ∧ Below w.heap.size w w' := by
  have hlb := letters_any 65 97 w
  go_enter Tryd.func16, Tryd.ntmps16
  go_wp2_with (first | (go_at_call 26; refine hlb.mono ?_; rintro e w1 ⟨a, b, rfl, ha, hb, b1⟩) | (go_at_call 25; refine (turn_any s 65 97 a b w1 hs (by decide) (by decide) ha hb).mono ?_; rintro e w2 ⟨rfl, b2⟩))
  go_ret
  exact ⟨rfl, bT b1 b2⟩
end Wd
end Go.Proofs.YtpelajhdcbemnaaDoor
