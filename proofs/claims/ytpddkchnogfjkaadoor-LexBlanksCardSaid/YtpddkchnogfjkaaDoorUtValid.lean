/- What lead, signLength and Valid answer, of every string. -/
import Derived.Test.YtpddkchnogfjkaaDoorUtBytes
import Derived.Test.YtpddkchnogfjkaaDoorChecked
import Derived.LoopTactic
import Derived.Outline
import Derived.WalkLawsBesides
import Derived.WalkSpells
import Derived.ProofKit
namespace Go.Proofs.YtpddkchnogfjkaaDoor
open Go.RowKit
namespace Ut
/-- the first byte's row: how many bytes, the bounds of the second -/
def ld (b : Nat) : Nat × Nat × Nat :=
  if b < 128 then (1, 0, 0) else if b < 194 then (0, 0, 0) else if b < 224 then (2, 128, 191)
  else if b = 224 then (3, 160, 191) else if b = 237 then (3, 128, 159) else if b < 240 then (3, 128, 191)
  else if b = 240 then (4, 144, 191) else if b < 244 then (4, 128, 191) else if b = 244 then (4, 128, 143) else (0, 0, 0)
def ldV (b : Nat) : Value := .tuple #[.int .i64 ((ld b).1 : Nat), .int .u8 ((ld b).2.1 : Nat), .int .u8 ((ld b).2.2 : Nat)]
set_option maxRecDepth 100000 in
set_option maxHeartbeats 1000000 in
theorem lead_any (b : Nat) (w : World) (hb : b < 256) :
    Calls Tryd.prog 88 #[.int .u8 b] w fun e w' => e = .returned (ldV b) ∧ w = w' := by
  go_enter Tryd.func88, Tryd.ntmps88
  go_wp2
  all_goals
    go_ret3
    refine ⟨?_, rfl⟩
    (try simp only [beq_iff_eq, beq_eq_false_iff_ne, ne_eq] at *)
    unfold ldV ld
    repeat first | rw [if_pos (by omega)] | rw [if_neg (by omega)]
    rfl
/-- what signLength answers -/
theorem sgl_ld (a : Nat) (t : List Nat) : sgl (a :: t) = if (ld a).1 < 2 then (ld a).1 else
    if t.length + 1 < (ld a).1 ∨ t.getD 0 0 < (ld a).2.1 ∨ (ld a).2.2 < t.getD 0 0 then 0
    else if (3 ≤ (ld a).1 → 128 ≤ t.getD 1 0 ∧ t.getD 1 0 ≤ 191) ∧ (4 ≤ (ld a).1 → 128 ≤ t.getD 2 0 ∧ t.getD 2 0 ≤ 191) then (ld a).1 else 0 := by
  have e3 : ∀ lo hi : Nat, a < 240 → 224 ≤ a → (if a = 224 then 160 else 128) = lo → (if a = 237 then 159 else 191) = hi →
      sgl (a :: t) = if t.length + 1 < 3 ∨ t.getD 0 0 < lo ∨ hi < t.getD 0 0 then 0 else if (128 ≤ t.getD 1 0 ∧ t.getD 1 0 ≤ 191) then 3 else 0 := by
    intro lo hi h1 h2 hlo hhi
    simp only [sgl]
    rw [if_neg (by omega), if_neg (by omega), if_neg (by omega), if_pos h1]
    match t with
    | [] => simp
    | [b] => simp
    | b :: c :: t =>
      simp only [hlo, hhi, List.length_cons, List.getD_cons_zero, List.getD_cons_succ]
      clear hlo hhi
      split <;> split <;> (try split) <;> omega
  have e4 : ∀ lo hi : Nat, a < 245 → 240 ≤ a → (if a = 240 then 144 else 128) = lo → (if a = 244 then 143 else 191) = hi →
      sgl (a :: t) = if t.length + 1 < 4 ∨ t.getD 0 0 < lo ∨ hi < t.getD 0 0 then 0 else if (128 ≤ t.getD 1 0 ∧ t.getD 1 0 ≤ 191) ∧ (128 ≤ t.getD 2 0 ∧ t.getD 2 0 ≤ 191) then 4 else 0 := by
    intro lo hi h1 h2 hlo hhi
    simp only [sgl]
    rw [if_neg (by omega), if_neg (by omega), if_neg (by omega), if_neg (by omega), if_pos h1]
    match t with
    | [] => simp
    | [b] => simp
    | [b, c] => simp
    | b :: c :: d :: t =>
      simp only [hlo, hhi, List.length_cons, List.getD_cons_zero, List.getD_cons_succ]
      clear hlo hhi e3
      split <;> split <;> (try split) <;> omega
  unfold ld
  by_cases h1 : a < 128
  · simp only [if_pos h1]; simp only [sgl]; rw [if_pos h1, if_pos (by omega)]
  by_cases h2 : a < 194
  · simp only [if_neg h1, if_pos h2]; simp only [sgl]; rw [if_neg h1, if_pos h2, if_pos (by omega)]
  by_cases h3 : a < 224
  · simp only [if_neg h1, if_neg h2, if_pos h3]; simp only [sgl]; rw [if_neg h1, if_neg h2, if_pos h3]
    rw [if_neg (by omega)]
    match t with
    | [] => simp
    | b :: t =>
      simp only [List.length_cons, List.getD_cons_zero]
      clear e3 e4
      split <;> split <;> (try split) <;> omega
  by_cases h4 : a < 240
  · by_cases h5 : a = 224
    · simp only [if_neg h1, if_neg h2, if_neg h3, if_pos h5]
      rw [e3 160 191 h4 (by omega) (if_pos h5) (if_neg (by omega))]
      simp
    by_cases h6 : a = 237
    · simp only [if_neg h1, if_neg h2, if_neg h3, if_neg h5, if_pos h6]
      rw [e3 128 159 h4 (by omega) (if_neg h5) (if_pos h6)]
      simp
    · simp only [if_neg h1, if_neg h2, if_neg h3, if_neg h5, if_neg h6, if_pos h4]
      rw [e3 128 191 h4 (by omega) (if_neg h5) (if_neg h6)]
      simp
  by_cases h7 : a < 245
  · have n5 : ¬ a = 224 := by omega
    have n6 : ¬ a = 237 := by omega
    by_cases h5 : a = 240
    · simp only [if_neg h1, if_neg h2, if_neg h3, if_neg n5, if_neg n6, if_neg h4, if_pos h5]
      rw [e4 144 191 h7 (by omega) (if_pos h5) (if_neg (by omega))]
      simp
    by_cases h6 : a = 244
    · have n7 : ¬ a < 244 := by omega
      simp only [if_neg h1, if_neg h2, if_neg h3, if_neg n5, if_neg n6, if_neg h4, if_neg h5, if_neg n7, if_pos h6]
      rw [e4 128 143 h7 (by omega) (if_neg h5) (if_pos h6)]
      simp
    · have n7 : a < 244 := by omega
      simp only [if_neg h1, if_neg h2, if_neg h3, if_neg n5, if_neg n6, if_neg h4, if_neg h5, if_pos n7]
      rw [e4 128 191 h7 (by omega) (if_neg h5) (if_neg h6)]
      simp
  · simp only [sgl]
    rw [if_neg h1, if_neg h2, if_neg h3, if_neg h4, if_neg h7]
    have n5 : ¬ a = 224 := by omega
    have n6 : ¬ a = 237 := by omega
    have n7 : ¬ a = 240 := by omega
    have n8 : ¬ a < 244 := by omega
    have n9 : ¬ a = 244 := by omega
    simp only [if_neg h1, if_neg h2, if_neg h3, if_neg n5, if_neg n6, if_neg h4, if_neg n7, if_neg n8, if_neg n9]
    rw [if_pos (by omega)]
theorem ld_bd (a : Nat) : (ld a).1 ≤ 4 ∧ (ld a).2.1 < 256 ∧ (ld a).2.2 < 256 := by
  unfold ld
  repeat' split
  all_goals simp
theorem lead_eq {b n lo hi : Nat} (w : World) (hb : b < 256) (h : Hid (ld b = (n, lo, hi))) :
    Calls Tryd.prog 88 #[.int .u8 b] w fun e w' => e = .returned (.tuple #[.int .i64 (n : Nat), .int .u8 (lo : Nat), .int .u8 (hi : Nat)]) ∧ w = w' := by
  have := lead_any b w hb
  unfold ldV at this
  rw [h.out] at this
  exact this
theorem ret_nat {a b : Nat} (h : a = b) : Ending.returned (.int .i64 (a : Nat)) = .returned (.int .i64 (b : Nat)) := by rw [h]
theorem byt_getD (s : ByteArray) (k : Nat) (h : k + 1 < s.size) : ((byt s).drop 1).getD k 0 = s[k + 1].toNat := by
  rw [List.getD_eq_getElem?_getD, List.getElem?_drop, Nat.add_comm, byt_get s (k + 1) h]; rfl
def Cont (s : ByteArray) (k : Nat) : Prop := ∀ j (h : j < s.size), 2 ≤ j → j < k → 128 ≤ s[j].toNat ∧ s[j].toNat ≤ 191
theorem Cont.snoc {s : ByteArray} {k : Nat} (H : Cont s k) (h : k < s.size) (h1 : 128 ≤ s[k].toNat) (h2 : s[k].toNat ≤ 191) : Cont s (k + 1) := by
  intro j hj h3 h4
  by_cases e : j < k
  · exact H j hj h3 e
  · obtain rfl : j = k := by omega
    exact ⟨h1, h2⟩
theorem sgl_no {s : ByteArray} {n lo hi k : Nat} (_ : Cont s k) (hn2 : ¬ n < 2) (hl : ¬ s.size < n) {h1 : 1 < s.size} (G0 : Hid (((byt s).drop 1).getD 0 0 = s[1].toNat)) (g1 : ¬ s[1].toNat < lo) (g2 : ¬ hi < s[1].toNat)
    (hk2 : 2 ≤ k) (hkn : k < n) (hn4 : n ≤ 4) (hks : k < s.size) (hb : ¬ (128 ≤ s[k].toNat ∧ s[k].toNat ≤ 191)) :
    (if n < 2 then n else if s.size < n ∨ ((byt s).drop 1).getD 0 0 < lo ∨ hi < ((byt s).drop 1).getD 0 0 then 0
    else if (3 ≤ n → 128 ≤ ((byt s).drop 1).getD 1 0 ∧ ((byt s).drop 1).getD 1 0 ≤ 191) ∧ (4 ≤ n → 128 ≤ ((byt s).drop 1).getD 2 0 ∧ ((byt s).drop 1).getD 2 0 ≤ 191) then n else 0) = 0 := by
  rw [if_neg hn2, G0.out, if_neg (by omega), if_neg]
  rintro ⟨a, b⟩
  obtain ⟨k, rfl⟩ : ∃ j, k = j + 1 := ⟨k - 1, by omega⟩
  rw [← byt_getD s k hks] at hb
  by_cases e : k = 1
  · subst e; exact hb (a (by omega))
  · obtain rfl : k = 2 := by omega
    exact hb (b (by omega))
theorem sgl_yes {s : ByteArray} {n lo hi : Nat} (H : Cont s n) (hn2 : ¬ n < 2) (hl : ¬ s.size < n) {h1 : 1 < s.size} (G0 : Hid (((byt s).drop 1).getD 0 0 = s[1].toNat)) (g1 : ¬ s[1].toNat < lo) (g2 : ¬ hi < s[1].toNat) (hn4 : n ≤ 4) :
    (if n < 2 then n else if s.size < n ∨ ((byt s).drop 1).getD 0 0 < lo ∨ hi < ((byt s).drop 1).getD 0 0 then 0
    else if (3 ≤ n → 128 ≤ ((byt s).drop 1).getD 1 0 ∧ ((byt s).drop 1).getD 1 0 ≤ 191) ∧ (4 ≤ n → 128 ≤ ((byt s).drop 1).getD 2 0 ∧ ((byt s).drop 1).getD 2 0 ≤ 191) then n else 0) = n := by
  rw [if_neg hn2, G0.out, if_neg (by omega), if_pos]
  refine ⟨fun h => ?_, fun h => ?_⟩
  · rw [byt_getD s 1 (by omega)]; exact H 2 (by omega) (by omega) (by omega)
  · rw [byt_getD s 2 (by omega)]; exact H 3 (by omega) (by omega) (by omega)
set_option maxRecDepth 100000 in
set_option maxHeartbeats 1000000 in
theorem signLength_any (s : ByteArray) (w : World) (h0 : 0 < s.size) (hs : s.size ≤ maxLen) :
    Calls Tryd.prog 76 #[.string s] w fun e w' => e = .returned (.int .i64 (sgl (byt s) : Nat)) ∧ w = w' := by
  unfold maxLen at hs
  have hcons : byt s = s[0].toNat :: (byt s).drop 1 := by simpa using byt_at s 0 h0
  have hsg := sgl_ld s[0].toNat ((byt s).drop 1)
  rw [← hcons] at hsg
  obtain ⟨n, lo, hi, hld⟩ : ∃ n lo hi, ld s[0].toNat = (n, lo, hi) := ⟨_, _, _, rfl⟩
  have hbd := ld_bd s[0].toNat
  rw [hld] at hsg hbd
  simp only at hsg hbd
  obtain ⟨hn4, hlo, hhi⟩ := hbd
  have hlen : ((byt s).drop 1).length + 1 = s.size := by rw [List.length_drop, byt_len]; omega
  rw [hlen] at hsg
  have HS := Lib.hid hsg
  have HL := Lib.hid hld
  have hb0 : s[0].toNat < 256 := s[0].toNat_lt
  clear hsg hld hcons hlen
  by_cases hn2 : n < 2
  · go_enter Tryd.func76, Tryd.ntmps76
    go_wp2_with (go_at_call 88; refine (lead_eq _ hb0 HL).mono ?_; rintro e w' ⟨rfl, rfl⟩)
    go_ret
    exact ⟨ret_nat (by rw [HS.out, if_pos hn2]), rfl⟩
  by_cases hl : s.size < n
  · go_enter Tryd.func76, Tryd.ntmps76
    go_wp2_with (go_at_call 88; refine (lead_eq _ hb0 HL).mono ?_; rintro e w' ⟨rfl, rfl⟩)
    go_ret
    exact ⟨ret_nat (a := 0) (by rw [HS.out, if_neg hn2, if_pos (.inl hl)]), rfl⟩
  have h1 : 1 < s.size := by omega
  have G0 := Lib.hid (byt_getD s 0 h1)
  simp only [Nat.zero_add] at G0
  have hb1 : s[1].toNat < 256 := s[1].toNat_lt
  by_cases g1 : s[1].toNat < lo
  · go_enter Tryd.func76, Tryd.ntmps76
    go_wp2_with (go_at_call 88; refine (lead_eq _ hb0 HL).mono ?_; rintro e w' ⟨rfl, rfl⟩)
    go_ret
    exact ⟨ret_nat (a := 0) (by rw [HS.out, if_neg hn2, if_pos]; rw [G0.out]; exact .inr (.inl g1)), rfl⟩
  by_cases g2 : hi < s[1].toNat
  · go_enter Tryd.func76, Tryd.ntmps76
    go_wp2_with (go_at_call 88; refine (lead_eq _ hb0 HL).mono ?_; rintro e w' ⟨rfl, rfl⟩)
    go_ret
    exact ⟨ret_nat (a := 0) (by rw [HS.out, if_neg hn2, if_pos]; rw [G0.out]; exact .inr (.inr g2)), rfl⟩
  go_enter Tryd.func76, Tryd.ntmps76
  go_wp2_with (go_at_call 88; refine (lead_eq _ hb0 HL).mono ?_; rintro e w' ⟨rfl, rfl⟩)
  go_loop [6] (fun i => ∃ k : Nat, 2 ≤ k ∧ k ≤ n ∧ i = .int .i64 k ∧ Cont s k) (fun i => n - (intOf i).toNat)
  case atStart => exact ⟨2, by omega, by omega, rfl, fun j h h1 h2 => by omega⟩
  case round =>
    obtain ⟨k, hk2, hkn, rfl, hc⟩ := hrel
    have HC := Lib.hid hc
    clear hc
    by_cases hlt : k < n
    · have hks : k < s.size := by omega
      have hbk : s[k].toNat < 256 := s[k].toNat_lt
      by_cases b1 : s[k].toNat < 128
      · go_wp2
        go_ret
        exact ⟨ret_nat (a := 0) (by rw [HS.out, sgl_no HC.out hn2 hl G0 g1 g2 hk2 hlt hn4 hks (fun h => by omega)]), rfl⟩
      by_cases b2 : 191 < s[k].toNat
      · go_wp2
        go_ret
        exact ⟨ret_nat (a := 0) (by rw [HS.out, sgl_no HC.out hn2 hl G0 g1 g2 hk2 hlt hn4 hks (fun h => by omega)]), rfl⟩
      · go_wp2
        go_round
        case rel => exact ⟨k + 1, by omega, by omega, by go_num, HC.out.snoc hks (by omega) (by omega)⟩
        case measure => simp [intOf]; omega
    · obtain rfl : k = n := by omega
      go_wp2
      go_ret
      exact ⟨ret_nat (by rw [HS.out, sgl_yes HC.out hn2 hl G0 g1 g2 hn4]), rfl⟩
/-- how far a text has been read: its signs up to k -/
structure Read (s : ByteArray) (k : Nat) (cs : List Nat) : Prop where
  le : k ≤ s.size
  sg : Sgs cs
  eq : byt s = puts cs ++ (byt s).drop k
theorem Read.start (s : ByteArray) : Read s 0 [] := ⟨by omega, Sgs.nil, rfl⟩
theorem Read.step {s : ByteArray} {k : Nat} {cs : List Nat} (h : Read s k cs) (h0 : sgl ((byt s).drop k) ≠ 0) :
    Read s (k + sgl ((byt s).drop k)) (cs ++ [cp ((byt s).drop k)]) := by
  obtain ⟨g1, g2⟩ := sigs_step h.sg h.eq h0
  have g3 := sgl_len h0
  rw [List.length_drop, byt_len] at g3
  refine ⟨by omega, g1, ?_⟩
  rw [List.drop_drop] at g2
  exact g2
theorem Read.stop {s : ByteArray} {k : Nat} {cs : List Nat} (h : Read s k cs) (hk : k < s.size) (h0 : sgl ((byt s).drop k) = 0) : sigs (byt s) = none :=
  sigs_stop h.sg h.eq (by rw [byt_at s k hk]; simp) h0
theorem Read.done {s : ByteArray} {k : Nat} {cs : List Nat} (h : Read s k cs) (hk : ¬ k < s.size) : sigs (byt s) = some cs := by
  have e := h.eq
  rw [List.drop_of_length_le (by rw [byt_len]; omega), List.append_nil] at e
  rw [e]; exact sigs_puts h.sg
theorem Read.next {s : ByteArray} {k : Nat} {cs cs' : List Nat} (h : Read s k cs) (hk : k < s.size) (hv : sigs (byt s) = some cs') :
    ∃ c r, Sg c ∧ cs' = cs ++ c :: r ∧ (byt s).drop k = put c ++ puts r ∧ Read s (k + (put c).length) (cs ++ [c]) ∧ Utf8.decode s k = (c, (put c).length) := by
  obtain ⟨g1, g2⟩ := sigs_iff.1 hv
  obtain ⟨r, rfl, g4⟩ := puts_split h.sg g1 (by rw [← g2]; exact h.eq)
  match r with
  | [] => rw [byt_at s k hk] at g4; simp at g4
  | c :: r =>
    have hc : Sg c := g1 c (by simp)
    rw [puts_cons] at g4
    have e := sgl_put hc (puts r)
    have h2 := h.step (by rw [g4, e.1]; have := put_len c; omega)
    rw [g4, e.1, e.2] at h2
    exact ⟨c, r, hc, rfl, g4, h2, decode_sign s k c _ hc g4⟩
theorem ret_bool {a b : Bool} (h : a = b) : Ending.returned (.bool a) = .returned (.bool b) := by rw [h]
set_option maxRecDepth 100000 in
set_option maxHeartbeats 1000000 in
theorem valid_any (s : ByteArray) (w : World) (hs : s.size ≤ maxLen) :
    Calls Tryd.prog 50 #[.string s] w fun e w' => e = .returned (.bool (vldB (byt s))) ∧ w = w' := by
  have hs' := hs
  unfold maxLen at hs
  go_enter Tryd.func50, Tryd.ntmps50
  go_wp2
  go_loop [3] (fun i => ∃ (k : Nat) (cs : List Nat), i = .int .i64 k ∧ Read s k cs) (fun i => s.size - (intOf i).toNat)
  case atStart => exact ⟨0, [], rfl, Read.start s⟩
  case round =>
    obtain ⟨k, cs, rfl, hr⟩ := hrel
    have hk := hr.le
    by_cases hlt : k < s.size
    · have hc := signLength_any (s.extract k s.size) w (by rw [ByteArray.size_extract]; omega) (by rw [ByteArray.size_extract]; unfold maxLen; omega)
      rw [byt_from] at hc
      by_cases h0 : sgl ((byt s).drop k) = 0
      · rw [h0] at hc
        have HV := Lib.hid (vldB_none (hr.stop hlt h0))
        clear h0
        go_wp2_with (go_at_call 76; refine hc.mono ?_; rintro e w' ⟨rfl, rfl⟩)
        go_ret
        exact ⟨ret_bool HV.out.symm, rfl⟩
      · have hl := sgl_len h0
        rw [List.length_drop, byt_len] at hl
        have hst := hr.step h0
        have hz : 1 ≤ sgl ((byt s).drop k) ∧ sgl ((byt s).drop k) ≤ s.size - k := ⟨hl.2.1, hl.2.2.2⟩
        generalize sgl ((byt s).drop k) = n at hc hst hz
        clear hl h0
        have hne : ((n : Int) == 0) = false := by simp; omega
        go_wp2_with (go_at_call 76; refine hc.mono ?_; rintro e w' ⟨rfl, rfl⟩)
        go_round
        case rel => exact ⟨k + n, _, by go_num, hst⟩
        case measure => simp [intOf]; omega
    · have HV := Lib.hid (vldB_some (hr.done hlt))
      go_wp2
      go_ret
      exact ⟨ret_bool HV.out.symm, rfl⟩
end Ut
end Go.Proofs.YtpddkchnogfjkaaDoor
