/- Layer 8: Times, Has, Starts, Ends and Trim of any texts. -/
import Derived.Test.YtpelajhdcbemnaaDoorWdJoin
import Derived.Test.YtpelajhdcbemnaaDoorWdSplit
import Derived.Shelf.Strings.SlTrimAscii
namespace Go.Proofs.YtpelajhdcbemnaaDoor
open Go.RowKit
namespace Wd
open _root_.Go.Proofs.YtpelajhdcbemnaaDoor.Ut
/-- a text, n times -/
def rp (l : List UInt8) (n : Nat) : List UInt8 := Lib.repeatL l n
theorem rp_len (l : List UInt8) : ∀ n, (rp l n).length = l.length * n
  | 0 => rfl
  | n + 1 => by
    show (l ++ Lib.repeatL l n).length = _
    rw [List.length_append]
    have := rp_len l n
    unfold rp at this
    rw [this, Nat.mul_succ]
    omega
theorem rp_succ (l : List UInt8) (n : Nat) : rp l (n + 1) = l ++ rp l n := rfl
theorem rp_snoc (l : List UInt8) : ∀ n, rp l (n + 1) = rp l n ++ l
  | 0 => by show l ++ [] = [] ++ l; simp
  | n + 1 => by rw [rp_succ, rp_snoc l n, ← List.append_assoc, ← rp_succ]; rw [rp_snoc l n]
set_option maxRecDepth 100000 in
set_option maxHeartbeats 1000000 in
theorem times_any (s : ByteArray) (n : Int) (w : World) (_hs : s.size ≤ 1000000000) (h1 : -9223372036854775808 ≤ n) (h2 : n ≤ 9223372036854775807) :
    Calls Tryd.prog 10 #[.string s, .int .i64 n] w (JnP (rp (tl s) n.toNat) w) := by
  by_cases h0 : n < 1
  · have hend : JnP (rp (tl s) n.toNat) w (.returned (.tuple #[.string ⟨#[]⟩, .bool true])) w := ⟨Below.refl _ _, .inl (by rw [show n.toNat = 0 by omega]; exact ⟨Nat.zero_le _, rfl⟩)⟩
    have HEND := Lib.hid hend
    clear hend
    go_enter Tryd.func10, Tryd.ntmps10
    go_wp2
    exact bodyPost_ret (v := .tuple #[.string ⟨#[]⟩, .bool true]) (by simp [results, Tryd.results10, go_sem]) rfl HEND.out
  · obtain ⟨k, rfl⟩ : ∃ k : Nat, n = k := ⟨n.toNat, by omega⟩
    rw [Int.toNat_natCast]
    have hlen := rp_len (tl s) k
    rw [tl_len] at hlen
    have hq : (4096 : Int).tdiv k = ((4096 / k : Nat) : Int) := rfl
    have hql : 4096 / k ≤ 4096 := Nat.div_le_self _ _
    have hk0 : ¬ (k : Int) = 0 := by omega
    by_cases h3 : 4096 / k < s.size
    · have hbig : 4096 < s.size * k := by
        have := Nat.lt_mul_of_div_lt h3 (by omega)
        exact this
      have hend : JnP (rp (tl s) k) w (.returned (.tuple #[.string ⟨#[]⟩, .bool false])) w := ⟨Below.refl _ _, .inr ⟨by omega, rfl⟩⟩
      have HEND := Lib.hid hend
      clear hend hbig hlen
      generalize 4096 / k = q at hq hql h3
      go_enter Tryd.func10, Tryd.ntmps10
      go_wp2
      exact bodyPost_ret (v := .tuple #[.string ⟨#[]⟩, .bool false]) (by simp [results, Tryd.results10, go_sem]) rfl HEND.out
    · have hsm : s.size * k ≤ 4096 := by
        have h4 : s.size ≤ 4096 / k := by omega
        exact (Nat.le_div_iff_mul_le (by omega)).1 h4
      have hrp := Tryd.strings_Repeat s k w (by omega) (by omega)
      have hend : ∀ w2, Below w.heap.size w w2 → JnP (rp (tl s) k) w (.returned (.tuple #[.string ⟨(rp (tl s) k).toArray⟩, .bool true])) w2 := fun w2 b2 => ⟨b2, .inl ⟨by omega, rfl⟩⟩
      have he : (Lib.repeatL s.data.toList k) = rp (tl s) k := rfl
      rw [he] at hrp
      obtain ⟨t, ht⟩ : ∃ t, (⟨(rp (tl s) k).toArray⟩ : ByteArray) = t := ⟨_, rfl⟩
      rw [ht] at hrp hend
      have HEND := Lib.hid hend
      clear hend ht he hsm hlen
      generalize 4096 / k = q at hq hql h3
      go_enter Tryd.func10, Tryd.ntmps10
      go_wp2_with (go_at_call 22; refine hrp.mono ?_; rintro e w2 ⟨rfl, b2⟩)
      exact bodyPost_ret (v := .tuple #[.string t, .bool true]) (by simp [results, Tryd.results10, go_sem]) rfl (HEND.out _ b2)
/-- does p stand in l? -/
def hasL (l p : List UInt8) : Bool := Lib.contains l p
set_option maxRecDepth 100000 in
set_option maxHeartbeats 1000000 in
theorem has_any (s p : ByteArray) (w : World) (hs : s.size ≤ 1000000000) (hT : St w) :
    Calls Tryd.prog 17 #[.string s, .string p] w fun e w' => e = .returned (.bool (hasL (tl s) (tl p))) ∧ w = w' := by
  obtain ⟨m, hm⟩ := hT.most
  have hc := Tryd.strings_Contains s p m w (by omega) hm
  have he : Lib.contains s.data.toList p.data.toList = hasL (tl s) (tl p) := rfl
  rw [he] at hc
  generalize hasL (tl s) (tl p) = q at hc ⊢
  clear he hT
  go_enter Tryd.func17, Tryd.ntmps17
  go_wp2_with (go_at_call 27; refine hc.mono ?_; rintro e w2 ⟨rfl, rfl⟩)
  go_ret
  exact ⟨rfl, rfl⟩
set_option maxRecDepth 100000 in
set_option maxHeartbeats 1000000 in
theorem starts_any (s p : ByteArray) (w : World) :
    Calls Tryd.prog 18 #[.string s, .string p] w fun e w' => e = .returned (.bool (Lib.hasPrefix (tl s) (tl p))) ∧ w = w' := by
  have hc := Tryd.strings_HasPrefix s p w
  have he : Lib.hasPrefix s.data.toList p.data.toList = Lib.hasPrefix (tl s) (tl p) := rfl
  rw [he] at hc
  generalize Lib.hasPrefix (tl s) (tl p) = q at hc ⊢
  clear he
  go_enter Tryd.func18, Tryd.ntmps18
  go_wp2_with (go_at_call 28; refine hc.mono ?_; rintro e w2 ⟨rfl, rfl⟩)
  go_ret
  exact ⟨rfl, rfl⟩
set_option maxRecDepth 100000 in
set_option maxHeartbeats 1000000 in
theorem ends_any (s p : ByteArray) (w : World) (hs : s.size ≤ 1000000000) :
    Calls Tryd.prog 19 #[.string s, .string p] w fun e w' => e = .returned (.bool (Lib.hasSuffix (tl s) (tl p))) ∧ w = w' := by
  have hc := Tryd.strings_HasSuffix s p w (by omega)
  have he : Lib.hasSuffix s.data.toList p.data.toList = Lib.hasSuffix (tl s) (tl p) := rfl
  rw [he] at hc
  generalize Lib.hasSuffix (tl s) (tl p) = q at hc ⊢
  clear he
  go_enter Tryd.func19, Tryd.ntmps19
  go_wp2_with (go_at_call 29; refine hc.mono ?_; rintro e w2 ⟨rfl, rfl⟩)
  go_ret
  exact ⟨rfl, rfl⟩
/-- without blanks at both ends -/
def trm (l : List UInt8) : List UInt8 := Lib.trimS l [9, 10, 13, 32]
set_option maxRecDepth 100000 in
set_option maxHeartbeats 1000000 in
theorem trim_any (s : ByteArray) (w : World) (hs : s.size ≤ 1000000000) :
    Calls Tryd.prog 20 #[.string s] w fun e w' => e = .returned (.string ⟨(trm (tl s)).toArray⟩) ∧ Below w.heap.size w w' := by
  have hc := Any.strings_Trim_laid Tryd.lays160 (by kernel_rfl) s ⟨#[9, 10, 13, 32]⟩ w (by omega) (by decide) (ascii_of_all (by decide))
  have he : Lib.trimS s.data.toList (⟨#[9, 10, 13, 32]⟩ : ByteArray).data.toList = trm (tl s) := rfl
  rw [he] at hc
  generalize trm (tl s) = q at hc ⊢
  clear he
  go_enter Tryd.func20, Tryd.ntmps20
  go_wp2_with (go_at_call 30; refine hc.mono ?_; rintro e w2 ⟨rfl, b2⟩)
  go_ret
  exact ⟨rfl, b2⟩
/-- the example -/
theorem spl_ex : spl ⟨#[97, 44, 98, 44, 44]⟩ ⟨#[44]⟩ = [⟨#[97]⟩, ⟨#[98]⟩, ⟨#[]⟩, ⟨#[]⟩] := by
  rw [spl_parts (by decide)]
  decide +kernel
set_option maxRecDepth 100000 in
set_option maxHeartbeats 1000000 in
theorem lives_any (w : World) (hT : St w) :
    Calls Tryd.prog 8 #[] w fun e w' => e = .returned (.bool true) ∧ Below w.heap.size w w' := by
  have hc := split_any ⟨#[97, 44, 98, 44, 44]⟩ ⟨#[44]⟩ w (by decide) (by decide) hT
  unfold SpP at hc
  rw [spl_ex] at hc
  clear hT
  go_enter Tryd.func8, Tryd.ntmps8
  go_upto_region 2 with (go_at_call 14; refine hc.mono ?_; rintro e w2 ⟨b2, ⟨_, v, rfl, hv⟩ | ⟨h, _⟩⟩)
  · obtain ⟨ao, cap, rfl, hcap, h⟩ := hv
    obtain ⟨k, o, rfl, hk, hcl⟩ := h (by simp)
    have c0 : w2.cell? ⟨k, o, none⟩ = some (.string ⟨#[97]⟩) := hcl 0 _ rfl
    have c1 : w2.cell? ⟨k, o + 1, none⟩ = some (.string ⟨#[98]⟩) := hcl 1 _ rfl
    have c3 : w2.cell? ⟨k, o + 3, none⟩ = some (.string ⟨#[]⟩) := hcl 3 _ rfl
    clear hcl h hc
    go_wp2
    go_ret
    exact ⟨rfl, b2⟩
end Wd
end Go.Proofs.YtpelajhdcbemnaaDoor
