/- Layer 8: texts in memory, whether a part stands at a place, letters turned. -/
import Derived.Test.YtpelajhdcbemnaaDoorWdMath
import Derived.Test.YtpelajhdcbemnaaDoorUtMem
import Derived.Lib.ConvBytes
import Derived.Lib.SmallJoins
import Derived.Deep.QuietTactic
import Derived.BigQuiet
import Derived.BigRegion
import Derived.RegionTactic
import Derived.ChangeAlike
namespace Go.Proofs.YtpelajhdcbemnaaDoor
open Go.RowKit
namespace Wd
open _root_.Go.Proofs.YtpelajhdcbemnaaDoor.Ut
/-- a string's bytes -/
def tl (s : ByteArray) : List UInt8 := s.data.toList
theorem tl_len (s : ByteArray) : (tl s).length = s.size := by unfold tl; simp
theorem tl_inj {s t : ByteArray} (h : tl s = tl t) : s = t := by
  cases s; cases t
  unfold tl at h
  simp at h
  rw [h]
theorem tl_ext (s : ByteArray) (i j : Nat) : tl (s.extract i j) = ((tl s).take j).drop i := by
  unfold tl
  rw [ByteArray.data_extract]
  simp [List.drop_take]
theorem tl_mk (l : List UInt8) : tl ⟨l.toArray⟩ = l := by unfold tl; simp
theorem tl_nil {s : ByteArray} : tl s = [] ↔ s.size = 0 := by rw [← List.length_eq_zero_iff, tl_len]
theorem str_eq {a b : ByteArray} : (a.toList == b.toList) = decide (tl a = tl b) := by
  rw [ByteArray.toList_eq, ByteArray.toList_eq, Bool.eq_iff_iff, beq_iff_eq, decide_eq_true_iff]
  rfl
/-- a slice that reads as a list of texts -/
def Ts (w : World) (v : Value) (l : List ByteArray) : Prop :=
  ∃ ao cap, v = .slice ao l.length cap ∧ l.length ≤ cap ∧ (0 < l.length → ∃ k o, ao = some ⟨k, o, none⟩ ∧ k < w.heap.size ∧ ∀ (j : Nat) s, l[j]? = some s → w.cell? ⟨k, o + j, none⟩ = some (.string s))
theorem Ts.nil0 (w : World) (ao : Option Addr) (cap : Nat) : Ts w (.slice ao 0 cap) [] := ⟨ao, cap, rfl, Nat.zero_le _, fun h => absurd h (by simp)⟩
theorem Ts.on {a b : World} {v : Value} {l : List ByteArray} (h : Ts a v l) (hb : Below a.heap.size a b) : Ts b v l := by
  obtain ⟨ao, cap, h1, h2, h⟩ := h
  exact ⟨ao, cap, h1, h2, fun h0 => by
    obtain ⟨k, o, h5, hk, h⟩ := h h0
    exact ⟨k, o, h5, Nat.lt_of_lt_of_le hk hb.size, fun j d hj => (hb.cell (p := ⟨k, o + j, none⟩) hk).trans (h j d hj)⟩⟩
/-- texts as cells -/
def txs (l : List ByteArray) : List Value := l.map Value.string
theorem txs_len (l : List ByteArray) : (txs l).length = l.length := by unfold txs; simp
theorem txs_snoc (l : List ByteArray) (s : ByteArray) : txs (l ++ [s]) = txs l ++ [.string s] := by unfold txs; simp
theorem txs_get {l : List ByteArray} {j : Nat} {s : ByteArray} (h : l[j]? = some s) : (txs l)[j]? = some (.string s) := by unfold txs; rw [List.getElem?_map, h]; rfl
/-- a row of texts of the call's own -/
theorem own_ts {w : World} {B n : Nat} {v : Value} {l : List ByteArray} (hn : n = l.length) (h : w.ownsRow B 9 1 v n (txs l)) : Ts w v l := by
  subst hn
  rcases h.2 with ⟨rfl, hz⟩ | ⟨g, cap, cur, rfl, _, hgg, hle, _⟩
  · have : l = [] := List.length_eq_zero_iff.1 hz
    subst this
    exact Ts.nil0 _ _ _
  · refine ⟨_, cap, rfl, hle, fun h0 => ⟨g, 0, rfl, (Array.getElem?_eq_some_iff.1 hgg).1, fun j s hj => ?_⟩⟩
    have := h.cells rfl j _ (txs_get hj)
    have hadd : (⟨g, 0, none⟩ : Addr).add j = ⟨g, 0 + j, none⟩ := by unfold Addr.add; split <;> simp_all
    rw [hadd] at this
    exact this
theorem infoS : (Tryd.prog.info? 9).map (fun i => (i.zero, i.size, i.bytes)) = some (some (.string ⟨#[]⟩), 1, 16) := by kernel_rfl
theorem ret_b {a b : Bool} (h : a = b) : Ending.returned (.bool a) = .returned (.bool b) := by rw [h]
set_option maxRecDepth 100000 in
set_option maxHeartbeats 1000000 in
theorem at_any (s p : ByteArray) (i : Int) (w : World) (hs : s.size ≤ 1000000000) (hp : p.size ≤ 1000000000) (h1 : -2000000000 ≤ i) (h2 : i ≤ 2000000000) :
    Calls Tryd.prog 13 #[.string s, .string p, .int .i64 i] w fun e w' => e = .returned (.bool (atL (tl s) (tl p) i)) ∧ w = w' := by
  by_cases h0 : 0 ≤ i
  · obtain ⟨k, rfl⟩ : ∃ k : Nat, i = k := ⟨i.toNat, by omega⟩
    by_cases h3 : k + p.size ≤ s.size
    · have he : atL (tl s) (tl p) k = ((s.extract k (k + p.size)).toList == p.toList) := by
        rw [str_eq, tl_ext]
        unfold atL
        rw [Bool.eq_iff_iff, decide_eq_true_iff, decide_eq_true_iff, tl_len, tl_len, List.drop_take, Int.toNat_natCast, Nat.add_sub_cancel_left]
        exact ⟨fun h => h.2.2, fun h => ⟨by omega, by omega, h⟩⟩
      obtain ⟨q, hq⟩ : ∃ q, atL (tl s) (tl p) k = q := ⟨_, rfl⟩
      rw [hq] at he ⊢
      have HE := Lib.hid he
      clear he hq
      go_enter Tryd.func13, Tryd.ntmps13
      go_wp2
      go_ret
      exact ⟨ret_b HE.out.symm, rfl⟩
    · have he : atL (tl s) (tl p) k = false := by
        unfold atL
        rw [decide_eq_false_iff_not, tl_len, tl_len]
        omega
      rw [he]
      clear he
      go_enter Tryd.func13, Tryd.ntmps13
      go_wp2
      go_ret
      exact ⟨rfl, rfl⟩
  · have he : atL (tl s) (tl p) i = false := by
      unfold atL
      rw [decide_eq_false_iff_not]
      omega
    rw [he]
    clear he
    go_enter Tryd.func13, Tryd.ntmps13
    go_wp2
    go_ret
    exact ⟨rfl, rfl⟩
/-- a letter of the alphabet that begins with x, as that of y's -/
def tn (x y c : Nat) : Nat := if c < x ∨ x + 25 < c then c else c - x + y
theorem tn_lt {x y c : Nat} (hy : y + 25 < 256) (hc : c < 256) : tn x y c < 256 := by unfold tn; split <;> omega
set_option maxRecDepth 100000 in
set_option maxHeartbeats 1000000 in
theorem letter_any (c x y a b : Nat) (w : World) (_hc : c < 256) (hx : x + 25 < 256) (hy : y + 25 < 256) (ha : w.cell? ⟨a, 0, none⟩ = some (.int .u8 (x : Nat))) (hb : w.cell? ⟨b, 0, none⟩ = some (.int .u8 (y : Nat))) :
    Calls Tryd.prog 39 #[.int .u8 (c : Nat), .pointer (some ⟨a, 0, none⟩), .pointer (some ⟨b, 0, none⟩)] w fun e w' => e = .returned (.int .u8 (tn x y c : Nat)) ∧ w = w' := by
  by_cases h1 : c < x
  · have he : tn x y c = c := by unfold tn; rw [if_pos (by omega)]
    rw [he]
    clear he
    go_enter Tryd.func39, Tryd.ntmps39
    go_wp2
    go_ret
    exact ⟨rfl, rfl⟩
  · by_cases h2 : x + 25 < c
    · have he : tn x y c = c := by unfold tn; rw [if_pos (by omega)]
      rw [he]
      clear he
      go_enter Tryd.func39, Tryd.ntmps39
      go_wp2
      go_ret
      exact ⟨rfl, rfl⟩
    · have he : ((c : Int) - x + y) = (tn x y c : Nat) := by unfold tn; rw [if_neg (by omega)]; omega
      have HE := Lib.hid he
      clear he
      go_enter Tryd.func39, Tryd.ntmps39
      go_wp2
      go_ret
      rw [← HE.out]
      exact ⟨rfl, rfl⟩
end Wd
end Go.Proofs.YtpelajhdcbemnaaDoor
