/- What is quoted is read back; a string of escapes is read back: mathematics. -/
import Derived.Test.YtbolnciofcmoaaaUtRUnq
namespace Go.Proofs.Ytbolnciofcmoaaa
open Go.RowKit
namespace Ut
theorem unq_raw (r : List Nat) : ∀ m : List Nat, (∀ x ∈ m, ¬ (x = 34 ∨ x < 32) ∧ x ≠ 92) → unq (m ++ r) = cmb (some m) (unq r) := by
  intro m
  induction m with
  | nil => intro _; rw [cmb_nil]; rfl
  | cons a m ih =>
    intro h
    have ha := h a (by simp)
    have e : stp (a :: m ++ r) = some (some [a], 1) := stp_raw _ ha.1 ha.2
    rw [unq_step e, show (a :: m ++ r).drop 1 = m ++ r from rfl, ih (fun x hx => h x (by simp [hx])), cmb_app]
    rfl
theorem drop_app {a b : List Nat} {n : Nat} (h : a.length = n) : (a ++ b).drop n = b := by rw [← h]; exact List.drop_left
theorem unq_sh {c x : Nat} (r : List Nat) (hx : x ≠ 117) (hs : smp x = some c) : unq ([92, x] ++ r) = cmb (some (put c)) (unq r) := by
  have hc := smp_lt hs
  have e : stp ([92, x] ++ r) = some (some (put c), 2) := stp_put (esc_short hx hs) (by omega)
  rw [unq_step e]; rfl
theorem unq_lo {c : Nat} (r : List Nat) (hc : c < 32) : unq ([92, 117, 48, 48, hx (c / 16), hx (c % 16)] ++ r) = cmb (some (put c)) (unq r) := by
  have hf : four ([48, 48, hx (c / 16), hx (c % 16)] ++ r) = some c := by
    have := four_is (a := 48) (b := 48) (t := r) (show dg 48 = some 0 from rfl) (show dg 48 = some 0 from rfl) (dg_hx (d := c / 16) (by omega)) (dg_hx (d := c % 16) (by omega))
    rw [show 4096 * 0 + 256 * 0 + 16 * (c / 16) + c % 16 = c by omega] at this
    exact this
  have e : stp ([92, 117, 48, 48, hx (c / 16), hx (c % 16)] ++ r) = some (some (put c), 6) := stp_put (esc_u1 hf (fun h => by omega)) (by omega)
  rw [unq_step e]; rfl
theorem unq_quo {c : Nat} (hc : Sg c) (r : List Nat) : unq (quo c ++ r) = cmb (some (put c)) (unq r) := by
  by_cases h1 : c = 34
  · subst h1; exact unq_sh r (by omega) rfl
  by_cases h2 : c = 92
  · subst h2; exact unq_sh r (by omega) rfl
  by_cases h3 : c = 8
  · subst h3; exact unq_sh (x := 98) r (by omega) rfl
  by_cases h4 : c = 9
  · subst h4; exact unq_sh (x := 116) r (by omega) rfl
  by_cases h5 : c = 10
  · subst h5; exact unq_sh (x := 110) r (by omega) rfl
  by_cases h6 : c = 12
  · subst h6; exact unq_sh (x := 102) r (by omega) rfl
  by_cases h7 : c = 13
  · subst h7; exact unq_sh (x := 114) r (by omega) rfl
  by_cases h8 : c < 32
  · rw [quo_low h8 h3 h4 h5 h6 h7]; exact unq_lo r h8
  · rw [quo_put h8 h1 h2]
    refine unq_raw r _ ?_
    intro x hx'
    rcases put_cases c with ⟨_, h⟩ | ⟨_, _, h⟩ | ⟨_, _, h⟩ | ⟨_, h⟩ <;> rw [h] at hx' <;> simp at hx' <;> omega
theorem unq_quos {cs : List Nat} (h : Sgs cs) : unq (quos cs) = some (some (puts cs)) := by
  induction cs with
  | nil => rfl
  | cons c cs ih =>
    rw [show quos (c :: cs) = quo c ++ quos cs from rfl, unq_quo (h c (by simp)), ih (fun x hx => h x (by simp [hx])), puts_cons]
    rfl
theorem rdO_of {t : ByteArray} {m : List Nat} (h : byt t = 34 :: m ++ [34]) : rdO t = unq m := by
  have hsz : t.size = m.length + 2 := by rw [← byt_len, h]; simp
  have e1 : (byt t).getD 0 0 = 34 := by rw [h]; rfl
  have e2 : (byt t).getD (t.size - 1) 0 = 34 := by
    rw [h, hsz, List.getD_eq_getElem?_getD, List.getElem?_append_right (by simp)]
    simp
  have e3 : byt (t.extract 1 (t.size - 1)) = m := by
    rw [byt_ext, h, hsz, show m.length + 2 - 1 = (34 :: m).length by simp, List.take_left]; rfl
  unfold rdO
  rw [if_neg (by rw [e1, e2]; omega), e3]
theorem rdO_quoted {cs : List Nat} (h : Sgs cs) : rdO (str (quoted cs)) = some (some (puts cs)) := by
  have e := rdO_of (t := str (quoted cs)) (m := quos cs) (byt_str (fun x hx => (quoted_bytes h x hx).2))
  rw [e, unq_quos h]
theorem ansV_puts {cs : List Nat} (h : Sgs cs) : ansV (some (some (puts cs))) = .tuple #[.string (str (puts cs)), .int .i64 0] := by
  unfold ansV
  simp only
  rw [byt_str (puts_lt h), vldB_some (sigs_puts h), if_pos rfl]
theorem quoted_inj {cs ds : List Nat} (h : Sgs cs) (h' : Sgs ds) (e : str (quoted cs) = str (quoted ds)) : puts cs = puts ds := by
  have h1 := rdO_quoted h
  rw [e, rdO_quoted h'] at h1
  simpa using h1.symm
/-- a digit of the base 16, in capitals -/
def hxU (d : Nat) : Nat := if d < 10 then 48 + d else 55 + d
theorem dg_hxU {d : Nat} (h : d < 16) : dg (hxU d) = some d := by
  unfold hxU
  split
  · unfold dg; rw [if_pos (by omega)]; congr 1; omega
  · unfold dg; rw [if_neg (by omega), if_neg (by omega), if_pos (by omega)]; congr 1; omega
def hex4 (c : Nat) : List Nat := [hxU (c / 4096 % 16), hxU (c / 256 % 16), hxU (c / 16 % 16), hxU (c % 16)]
theorem four_hex {c : Nat} (hc : c < 65536) (r : List Nat) : four (hex4 c ++ r) = some c := by
  have := four_is (t := r) (dg_hxU (d := c / 4096 % 16) (by omega)) (dg_hxU (d := c / 256 % 16) (by omega)) (dg_hxU (d := c / 16 % 16) (by omega)) (dg_hxU (d := c % 16) (by omega))
  rw [show 4096 * (c / 4096 % 16) + 256 * (c / 256 % 16) + 16 * (c / 16 % 16) + c % 16 = c by omega] at this
  exact this
/-- a sign, written by its number -/
def num (c : Nat) : List Nat := if c < 65536 then [92, 117] ++ hex4 c else [92, 117] ++ hex4 (55296 + (c - 65536) / 1024) ++ [92, 117] ++ hex4 (56320 + (c - 65536) % 1024)
def nums (cs : List Nat) : List Nat := cs.flatMap num
theorem nums_snoc (cs : List Nat) (c : Nat) : nums (cs ++ [c]) = nums cs ++ num c := by unfold nums; simp
theorem unq_num {c : Nat} (hc : Sg c) (r : List Nat) : unq (num c ++ r) = cmb (some (put c)) (unq r) := by
  unfold Sg at hc
  unfold num
  by_cases h : c < 65536
  · rw [if_pos h]
    have e : stp ([92, 117] ++ hex4 c ++ r) = some (some (put c), 6) := stp_put (esc_u1 (four_hex h r) (fun h => by omega)) (by omega)
    rw [unq_step e]; rfl
  · rw [if_neg h]
    obtain ⟨a, ha⟩ : ∃ a, 55296 + (c - 65536) / 1024 = a := ⟨_, rfl⟩
    obtain ⟨b, hb⟩ : ∃ b, 56320 + (c - 65536) % 1024 = b := ⟨_, rfl⟩
    rw [ha, hb]
    have e0 : [92, 117] ++ hex4 a ++ [92, 117] ++ hex4 b ++ r = 92 :: 117 :: (hex4 a ++ (92 :: 117 :: (hex4 b ++ r))) := rfl
    have e1 := esc_u2 (t := hex4 a ++ (92 :: 117 :: (hex4 b ++ r))) (n := a) (m := b) (four_hex (by omega) _) ⟨rfl, rfl⟩ (four_hex (c := b) (by omega) r)
    rw [if_pos (by omega), show 65536 + 1024 * (a - 55296) + (b - 56320) = c by omega] at e1
    have e : stp ([92, 117] ++ hex4 a ++ [92, 117] ++ hex4 b ++ r) = some (some (put c), 12) := by rw [e0]; exact stp_put e1 (by omega)
    rw [unq_step e]; rfl
theorem unq_nums {cs : List Nat} (h : Sgs cs) : unq (nums cs) = some (some (puts cs)) := by
  induction cs with
  | nil => rfl
  | cons c cs ih =>
    rw [show nums (c :: cs) = num c ++ nums cs from rfl, unq_num (h c (by simp)), ih (fun x hx => h x (by simp [hx])), puts_cons]
    rfl
theorem hxU_lt {d : Nat} (h : d < 16) : hxU d < 256 := by unfold hxU; split <;> omega
theorem hex4_lt (c : Nat) : ∀ x ∈ hex4 c, x < 256 := by
  intro x hx
  unfold hex4 at hx
  simp at hx
  rcases hx with rfl | rfl | rfl | rfl <;> exact hxU_lt (by omega)
theorem num_lt (c : Nat) : ∀ x ∈ num c, x < 256 := by
  intro x hx
  unfold num at hx
  split at hx
  · simp at hx
    rcases hx with rfl | rfl | hx
    · omega
    · omega
    · exact hex4_lt _ x hx
  · simp at hx
    rcases hx with rfl | rfl | hx | rfl | rfl | hx
    · omega
    · omega
    · exact hex4_lt _ x hx
    · omega
    · omega
    · exact hex4_lt _ x hx
theorem nums_lt (cs : List Nat) : ∀ x ∈ nums cs, x < 256 := by
  intro x hx
  unfold nums at hx
  rw [List.mem_flatMap] at hx
  obtain ⟨c, _, hx⟩ := hx
  exact num_lt c x hx
theorem rdO_nums {cs : List Nat} (h : Sgs cs) : rdO (str (34 :: nums cs ++ [34])) = some (some (puts cs)) := by
  rw [rdO_of (m := nums cs) (byt_str (fun x hx => ?_)), unq_nums h]
  simp at hx
  rcases hx with rfl | hx | rfl
  · omega
  · exact nums_lt cs x hx
  · omega
end Ut
end Go.Proofs.Ytbolnciofcmoaaa
