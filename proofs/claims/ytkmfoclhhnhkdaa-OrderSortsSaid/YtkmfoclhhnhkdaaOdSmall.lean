/- order: texts, rows of texts, kinds: which is ahead, by the program and by the document. -/
import Derived.Test.YtkmfoclhhnhkdaaOdMath
import Derived.Test.YtkmfoclhhnhkdaaOdShelf
import Derived.Test.YtkmfoclhhnhkdaaJvSame
import Derived.Test.YtkmfoclhhnhkdaaJvPlace
namespace Go.Proofs.Ytkmfoclhhnhkdaa
open Go.RowKit
namespace Od
open _root_.Go.Proofs.Ytkmfoclhhnhkdaa.Nm _root_.Go.Proofs.Ytkmfoclhhnhkdaa.Jv
theorem cb_is : ∀ x y : List UInt8, Lib.compareBytes x y = if Op.bytesLess x y = true then -1 else if x = y then 0 else 1
  | [], [] => by simp [Lib.compareBytes, Op.bytesLess]
  | [], _ :: _ => by simp [Lib.compareBytes, Op.bytesLess]
  | _ :: _, [] => by simp [Lib.compareBytes, Op.bytesLess]
  | a :: x, b :: y => by
    rw [Lib.compareBytes, cb_is x y]
    by_cases h1 : a < b
    · simp [Op.bytesLess, h1]
    · by_cases h2 : b < a
      · have h3 : ¬ a = b := by rintro rfl; exact h1 h2
        simp [Op.bytesLess, h1, h2, h3]
      · have h3 : a = b := UInt8.le_antisymm (UInt8.not_lt.1 h2) (UInt8.not_lt.1 h1)
        subst h3
        simp [Op.bytesLess, h1]
theorem tx_is (a b : ByteArray) : Lib.compareBytes a.data.toList b.data.toList = txC a b := by
  rw [cb_is, ← Lib.toList_data, ← Lib.toList_data]
  unfold txC ltB
  have : (a.toList = b.toList) ↔ a = b := ⟨toList_inj, fun h => by rw [h]⟩
  simp only [this]
theorem dD (w : World) (n : Nat) : ∀ m, (w.drewN n).drewN m = w.drewN (n + m)
  | 0 => rfl
  | m + 1 => by
    have e1 : ((w.drewN n).drewN m).drew = (w.drewN n).drewN (m + 1) := by rfl
    have e2 : (w.drewN (n + m)).drew = w.drewN (n + (m + 1)) := by rfl
    rw [← e1, dD w n m, e2]
theorem quietD {P : Program} {f : FuncId} {args : Array Value} {w : World} {n : Nat} {v : Value} (h : Calls P f args (w.drewN n) fun e w' => e = .returned v ∧ ∃ m, w' = (w.drewN n).drewN m) : Calls P f args (w.drewN n) fun e w'' => e = .returned v ∧ ∃ m, w'' = w.drewN m :=
  h.mono fun _ _ ⟨h1, m, h2⟩ => ⟨h1, n + m, by rw [h2, dD]⟩
theorem sgn_sub {a b j : Nat} (h : j ≤ a) (h' : j ≤ b) : sgn ((a - j : Nat) : Int) ((b - j : Nat) : Int) = sgn a b := by
  unfold sgn
  simp only [show (((a - j : Nat) : Int) < ((b - j : Nat) : Int)) = ((a : Int) < (b : Int)) from propext (by omega), show (((b - j : Nat) : Int) < ((a - j : Nat) : Int)) = ((b : Int) < (a : Int)) from propext (by omega)]
theorem DN.below {w w' : World} (h : ∃ m, w' = w.drewN m) : Below w.heap.size w w' := by
  obtain ⟨m, rfl⟩ := h
  exact bN (Below.refl _ _) m
theorem DN.then {w wr : World} (h : ∃ m, wr = w.drewN m) (n : Nat) : ∃ m, wr.drewN n = w.drewN m := by
  obtain ⟨m, rfl⟩ := h
  exact ⟨m + n, dD w m n⟩
theorem DN.cell {w wr : World} (h : ∃ m, wr = w.drewN m) (a : Addr) : wr.cell? a = w.cell? a := by
  obtain ⟨m, rfl⟩ := h
  induction m with
  | zero => rfl
  | succ m ih => exact ih
set_option maxRecDepth 100000 in
set_option maxHeartbeats 1000000 in
theorem sign_any (a b : Int) (w : World) : Calls Try.prog 55 #[.int .i64 a, .int .i64 b] w fun e w' => e = .returned (.int .i64 (sgn a b)) ∧ w' = w := by
  unfold sgn
  by_cases h1 : a < b
  · rw [if_pos h1]
    go_enter Try.func55, Try.ntmps55
    go_wp2
    go_ret
    exact ⟨rfl, rfl⟩
  rw [if_neg h1]
  by_cases h2 : b < a
  · rw [if_pos h2]
    go_enter Try.func55, Try.ntmps55
    go_wp2
    go_ret
    exact ⟨rfl, rfl⟩
  rw [if_neg h2]
  go_enter Try.func55, Try.ntmps55
  go_wp2
  go_ret
  exact ⟨rfl, rfl⟩
set_option maxRecDepth 100000 in
set_option maxHeartbeats 1000000 in
theorem rrank_any (k : Int) (w : World) : Calls Try.prog 56 #[.int .i64 k] w fun e w' => e = .returned (.int .i64 (rk k)) ∧ w' = w := by
  unfold rk
  by_cases h1 : k < 0
  · rw [if_pos (Or.inl h1)]
    go_enter Try.func56, Try.ntmps56
    go_wp2
    go_ret
    exact ⟨rfl, rfl⟩
  by_cases h2 : 7 < k
  · rw [if_pos (Or.inr h2)]
    go_enter Try.func56, Try.ntmps56
    go_wp2
    go_ret
    exact ⟨rfl, rfl⟩
  rw [if_neg (by omega)]
  go_enter Try.func56, Try.ntmps56
  go_wp2
  go_ret
  exact ⟨rfl, rfl⟩
set_option maxRecDepth 100000 in
set_option maxHeartbeats 1000000 in
theorem orank_any (k : Int) (w : World) : Calls Try.prog 61 #[.int .i64 k] w fun e w' => e = .returned (.int .i64 (rk k)) ∧ w' = w := by
  unfold rk
  by_cases h1 : k < 0
  · rw [if_pos (Or.inl h1)]
    go_enter Try.func61, Try.ntmps61
    go_wp2
    go_ret
    exact ⟨rfl, rfl⟩
  by_cases h2 : 7 < k
  · rw [if_pos (Or.inr h2)]
    go_enter Try.func61, Try.ntmps61
    go_wp2
    go_ret
    exact ⟨rfl, rfl⟩
  rw [if_neg (by omega)]
  go_enter Try.func61, Try.ntmps61
  go_wp2
  go_ret
  exact ⟨rfl, rfl⟩
theorem cint_any (a b : Int) (w : World) : Calls Try.prog 62 #[.int .i64 a, .int .i64 b] w fun e w' => e = .returned (.int .i64 (sgn a b)) ∧ w' = w := Try.cmp_Compare_int a b w
theorem scmp_any (a b : ByteArray) (w : World) : Calls Try.prog 65 #[.string a, .string b] w fun e w' => e = .returned (.int .i64 (txC a b)) ∧ w' = w := by
  have h := Try.strings_Compare a b w
  rw [tx_is] at h
  exact h
set_option maxRecDepth 100000 in
theorem nan_any (a : ByteArray) (w : World) : Calls Try.prog 100 #[.string a] w fun e w' => e = .returned (.bool false) ∧ w' = w := by
  have h := str_same a
  go_enter Try.func100, Try.ntmps100
  go_wp2
  go_ret
  exact ⟨rfl, rfl⟩
set_option maxRecDepth 100000 in
set_option maxHeartbeats 1000000 in
theorem cstr_any (a b : ByteArray) (w : World) : Calls Try.prog 84 #[.string a, .string b] w fun e w' => e = .returned (.int .i64 (txC a b)) ∧ w' = w := by
  unfold txC
  have hgt := fun w => run_gtB a b w
  rw [gtB_is] at hgt
  by_cases h1 : ltB a b = true
  · rw [if_pos h1]
    have h2 : Op.bytesLess a.toList b.toList = true := h1
    clear hgt
    go_enter Try.func84, Try.ntmps84
    go_wp2_with (go_at_call 100; refine (nan_any _ _).mono ?_; rintro e w1 ⟨rfl, rfl⟩)
    go_ret
    exact ⟨rfl, rfl⟩
  rw [if_neg h1]
  have h2 : Op.bytesLess a.toList b.toList = false := (Bool.eq_false_iff.2 h1 : ltB a b = false)
  by_cases h3 : a = b
  · rw [if_pos h3]
    have h4 : ltB b a = false := by rw [h3]; exact ltB_irrefl b
    rw [h4] at hgt
    subst h3
    go_enter Try.func84, Try.ntmps84
    go_wp2_with (go_at_call 100; refine (nan_any _ _).mono ?_; rintro e w1 ⟨rfl, rfl⟩)
    go_ret
    exact ⟨rfl, rfl⟩
  · rw [if_neg h3]
    have h4 : ltB b a = true := by
      rcases ltB_total h3 with h | h
      · exact absurd h h1
      · exact h
    rw [h4] at hgt
    go_enter Try.func84, Try.ntmps84
    go_wp2_with (go_at_call 100; refine (nan_any _ _).mono ?_; rintro e w1 ⟨rfl, rfl⟩)
    go_ret
    exact ⟨rfl, rfl⟩
set_option maxRecDepth 100000 in
set_option maxHeartbeats 2000000 in
theorem kcmp_any (v v' : Value) (ts us : List ByteArray) (w : World) (hv : Ks w v ts) (hv' : Ks w v' us) :
    Calls Try.prog 67 #[v, v'] w fun e w' => e = .returned (.int .i64 (ksC ts us)) ∧ w' = w := by
  have hm1 : ts.length ≤ maxLen := by obtain ⟨_, _, q1, q2, q3, _⟩ := hv; omega
  have hm2 : us.length ≤ maxLen := by obtain ⟨_, _, q1, q2, q3, _⟩ := hv'; omega
  unfold maxLen at hm1 hm2
  obtain ⟨ao, cap, rfl, hc, h⟩ := hv.form
  obtain ⟨ao', cap', rfl, hc', h'⟩ := hv'.form
  obtain ⟨r, hr⟩ : ∃ r, ksC ts us = r := ⟨_, rfl⟩
  rw [hr]
  have H := Lib.hid h
  have H' := Lib.hid h'
  have HR := Lib.hid hr
  clear h h' hv hv' hr
  go_enter Try.func67, Try.ntmps67
  go_wp2
  go_loop [11] (fun i => ∃ j : Nat, i = .int .i64 (j : Nat) ∧ j ≤ ts.length ∧ j ≤ us.length ∧ Hid (r = ksC (ts.drop j) (us.drop j))) (fun i => ts.length - (intOf i).toNat)
  case atStart => exact ⟨0, rfl, by omega, by omega, Lib.hid HR.out.symm⟩
  case round =>
    clear HR
    obtain ⟨j, rfl, hj, hj', HR⟩ := hrel
    by_cases hlt : j < ts.length
    · by_cases hlt' : j < us.length
      · obtain ⟨t, ht⟩ : ∃ x, ts[j]? = some x := ⟨_, List.getElem?_eq_getElem hlt⟩
        obtain ⟨u, hu⟩ : ∃ x, us[j]? = some x := ⟨_, List.getElem?_eq_getElem hlt'⟩
        obtain ⟨g, o, rfl, hg, hcl⟩ := H.out (by omega)
        obtain ⟨g', o', rfl, hg', hcl'⟩ := H'.out (by omega)
        have c1 : w.cell? ⟨g, o + j, none⟩ = some (.string t) := hcl j t ht
        have c2 : w.cell? ⟨g', o' + j, none⟩ = some (.string u) := hcl' j u hu
        have hq := HR.out
        rw [ksC_at ht hu] at hq
        obtain ⟨x, hx⟩ : ∃ x, txC t u = x := ⟨_, rfl⟩
        have hcs := fun w => cstr_any t u w
        rw [hx] at hq hcs
        have i1 : (j : Int) < (ts.length : Int) := by omega
        have i2 : (j : Int) < (us.length : Int) := by omega
        have i3 : ¬ (us.length : Int) ≤ (j : Int) := by omega
        clear hcl hcl' ht hu hx HR
        by_cases h0 : x = 0
        · subst h0
          rw [if_pos rfl] at hq
          have HR := Lib.hid hq
          clear hq
          go_wp2_with (go_at_call 84; refine (hcs _).mono ?_; rintro e w1 ⟨rfl, rfl⟩)
          go_round
          case rel => exact ⟨j + 1, by go_num, by omega, by omega, HR⟩
          case measure => simp [intOf]; omega
        · rw [if_neg h0] at hq
          subst hq
          have h0b : (r == 0) = false := by simpa using h0
          have h0c : (r != 0) = true := by simpa using h0
          go_wp2_with (go_at_call 84; refine (hcs _).mono ?_; rintro e w1 ⟨rfl, rfl⟩)
          go_ret
          exact ⟨rfl, rfl⟩
      · have hq := HR.out
        rw [ksC_end (by rw [List.length_drop, List.length_drop]; omega), List.length_drop, List.length_drop] at hq
        have hq1 : r = 1 := by rw [hq]; unfold sgn; rw [if_neg (by omega), if_pos (by omega)]
        subst hq1
        obtain ⟨t, ht⟩ : ∃ x, ts[j]? = some x := ⟨_, List.getElem?_eq_getElem hlt⟩
        obtain ⟨g, o, rfl, hg, hcl⟩ := H.out (by omega)
        have c1 : w.cell? ⟨g, o + j, none⟩ = some (.string t) := hcl j t ht
        have i1 : (j : Int) < (ts.length : Int) := by omega
        have i3 : (us.length : Int) ≤ (j : Int) := by omega
        clear hq HR hcl ht
        go_wp2
        go_ret
        exact ⟨rfl, rfl⟩
    · have hq := HR.out
      rw [ksC_end (by rw [List.length_drop, List.length_drop]; omega), List.length_drop, List.length_drop] at hq
      have i1 : ¬ (j : Int) < (ts.length : Int) := by omega
      by_cases hl : ts.length < us.length
      · have hq1 : r = -1 := by rw [hq]; unfold sgn; rw [if_pos (by omega)]
        subst hq1
        have i2 : (ts.length : Int) < (us.length : Int) := by omega
        clear hq HR
        go_wp2
        go_ret
        exact ⟨rfl, rfl⟩
      · have hq1 : r = 0 := by rw [hq]; unfold sgn; rw [if_neg (by omega), if_neg (by omega)]
        subst hq1
        have i2 : ¬ (ts.length : Int) < (us.length : Int) := by omega
        clear hq HR
        go_wp2
        go_ret
        exact ⟨rfl, rfl⟩
set_option maxRecDepth 100000 in
set_option maxHeartbeats 2000000 in
theorem rtext_any (a b : ByteArray) (w : World) (ha : a.size ≤ maxLen) (hb : b.size ≤ maxLen) :
    Calls Try.prog 59 #[.string a, .string b] w fun e w' => e = .returned (.int .i64 (txC a b)) ∧ ∃ m, w' = w.drewN m := by
  obtain ⟨r, hr⟩ : ∃ r, txC a b = r := ⟨_, rfl⟩
  rw [hr]
  have HR := Lib.hid hr
  clear hr
  unfold maxLen at ha hb
  go_enter Try.func59, Try.ntmps59
  go_wp2
  go_loopw [5] (fun i wr => ∃ j : Nat, i = .int .i64 (j : Nat) ∧ j ≤ a.size ∧ j ≤ b.size ∧ Hid (∀ p, p < j → a.toList[p]? = b.toList[p]?) ∧ Hid (∃ m, wr = w.drewN m)) (fun i _ => a.size - (intOf i).toNat)
  case atStart => exact ⟨0, rfl, by omega, by omega, Lib.hid (fun p hp => by omega), Lib.hid ⟨0, rfl⟩⟩
  case round =>
    obtain ⟨j, rfl, hj, hj', HA, HD⟩ := hrel
    by_cases hlt : j < a.size ∧ j < b.size
    · obtain ⟨h1, h2⟩ := hlt
      obtain ⟨x, hx⟩ : ∃ x, a[j].toNat = x := ⟨_, rfl⟩
      obtain ⟨y, hy⟩ : ∃ y, b[j].toNat = y := ⟨_, rfl⟩
      have hx256 : x < 256 := by rw [← hx]; exact a[j].toNat_lt
      have hy256 : y < 256 := by rw [← hy]; exact b[j].toNat_lt
      have ea : a.toList[j]? = some a[j] := by rw [Lib.toList_data, List.getElem?_eq_getElem (by simpa using h1)]; rfl
      have eb : b.toList[j]? = some b[j] := by rw [Lib.toList_data, List.getElem?_eq_getElem (by simpa using h2)]; rfl
      by_cases he : x = y
      · have HA' : Hid (∀ p, p < j + 1 → a.toList[p]? = b.toList[p]?) := Lib.hid (fun p hp => by
          by_cases e : p = j
          · subst e
            rw [ea, eb]
            congr 1
            exact UInt8.toNat_inj.1 (by rw [hx, hy, he])
          · exact HA.out p (by omega))
        subst he
        clear ea eb HA HR
        go_wp2
        go_quiet (fail)
        go_wp2
        go_roundw
        case rel => exact ⟨j + 1, by go_num, by omega, by omega, HA', Lib.hid (DN.then HD.out _)⟩
        case measure => simp [intOf]; omega
      · have hne : a[j] ≠ b[j] := fun h => he (by rw [← hx, ← hy, h])
        have hq : r = sgn x y := by
          obtain ⟨g1, g2⟩ := bl_at a.toList b.toList j a[j] b[j] HA.out ea eb hne
          rw [← HR.out]
          unfold txC ltB sgn
          rw [g1]
          have : (a[j] < b[j]) ↔ x < y := by rw [← hx, ← hy]; exact Iff.rfl
          have hab : ¬ a = b := fun h => g2 (by rw [h])
          rw [if_neg hab]
          by_cases hxy : x < y
          · rw [if_pos (by simpa using this.2 hxy), if_pos (by omega)]
          · rw [if_neg (by simpa using fun h => hxy (this.1 h)), if_neg (by omega), if_pos (by omega)]
        subst hq
        have he1 : ((x : Int) == (y : Int)) = false := by simp; omega
        have he2 : ((x : Int) != (y : Int)) = true := by simp; omega
        have w1 : IntKind.i64.wrap (x : Int) = (x : Int) := IntWalk.i64_in _ (by omega)
        have w2 : IntKind.i64.wrap (y : Int) = (y : Int) := IntWalk.i64_in _ (by omega)
        clear ea eb HA HR hne
        go_wp2
        go_quiet (fail)
        go_wp2
        have HD2 := Lib.hid (DN.then HD.out nq)
        obtain ⟨wq, hwq⟩ : ∃ wq, wr.drewN nq = wq := ⟨_, rfl⟩
        rw [hwq] at HD2 ⊢
        clear hwq
        go_quiet ((go_at_call 55; exact Calls.quiet_of_same (sign_any _ _ _)))
        go_wp2
        go_ret
        exact ⟨rfl, DN.then HD2.out _⟩
    · have hq : r = sgn a.size b.size := by
        obtain ⟨g1, g2⟩ := bl_pre a.toList b.toList (fun p hp => HA.out p (by rw [Lib.toList_data, Lib.toList_data] at hp; simp at hp; omega))
        have l1 : a.toList.length = a.size := by rw [Lib.toList_data]; simp
        have l2 : b.toList.length = b.size := by rw [Lib.toList_data]; simp
        rw [l1, l2] at g1 g2
        rw [← HR.out]
        unfold txC ltB sgn
        rw [g1]
        by_cases hxy : a.size < b.size
        · rw [if_pos (by simpa using hxy), if_pos (by omega)]
        · rw [if_neg (by simpa using hxy)]
          by_cases hyx : b.size < a.size
          · have hab : ¬ a = b := fun h => by rw [h] at hyx; omega
            rw [if_neg hab, if_neg (by omega), if_pos (by omega)]
          · rw [if_pos (toList_inj (g2 (by omega))), if_neg (by omega), if_neg (by omega)]
      subst hq
      clear HA HR
      by_cases h1 : j < a.size
      · have h2 : ¬ j < b.size := fun h => hlt ⟨h1, h⟩
        go_wp2_with (go_at_call 55; refine (sign_any _ _ _).mono ?_; rintro e w1 ⟨rfl, rfl⟩)
        go_ret
        exact ⟨rfl, HD.out⟩
      · go_wp2_with (go_at_call 55; refine (sign_any _ _ _).mono ?_; rintro e w1 ⟨rfl, rfl⟩)
        go_ret
        exact ⟨rfl, HD.out⟩
set_option maxRecDepth 100000 in
set_option maxHeartbeats 2000000 in
theorem rkeys_any (v v' : Value) (ts us : List ByteArray) (w : World) (hv : Ks w v ts) (hv' : Ks w v' us) (hs : ∀ x ∈ ts, x.size ≤ maxLen) (hs' : ∀ x ∈ us, x.size ≤ maxLen) :
    Calls Try.prog 60 #[v, v'] w fun e w' => e = .returned (.int .i64 (ksC ts us)) ∧ ∃ m, w' = w.drewN m := by
  have hm1 : ts.length ≤ maxLen := by obtain ⟨_, _, q1, q2, q3, _⟩ := hv; omega
  have hm2 : us.length ≤ maxLen := by obtain ⟨_, _, q1, q2, q3, _⟩ := hv'; omega
  unfold maxLen at hm1 hm2
  obtain ⟨ao, cap, rfl, hc, h⟩ := hv.form
  obtain ⟨ao', cap', rfl, hc', h'⟩ := hv'.form
  obtain ⟨r, hr⟩ : ∃ r, ksC ts us = r := ⟨_, rfl⟩
  rw [hr]
  have H := Lib.hid h
  have H' := Lib.hid h'
  have HR := Lib.hid hr
  have HS := Lib.hid hs
  have HS' := Lib.hid hs'
  clear h h' hv hv' hr hs hs'
  go_enter Try.func60, Try.ntmps60
  go_wp2
  go_loopw [5] (fun i wr => ∃ j : Nat, i = .int .i64 (j : Nat) ∧ j ≤ ts.length ∧ j ≤ us.length ∧ Hid (r = ksC (ts.drop j) (us.drop j)) ∧ Hid (∃ m, wr = w.drewN m)) (fun i _ => ts.length - (intOf i).toNat)
  case atStart => exact ⟨0, rfl, by omega, by omega, Lib.hid HR.out.symm, Lib.hid ⟨0, rfl⟩⟩
  case round =>
    clear HR
    obtain ⟨j, rfl, hj, hj', HR, HD⟩ := hrel
    by_cases hlt : j < ts.length ∧ j < us.length
    · obtain ⟨h1, h2⟩ := hlt
      obtain ⟨t, ht⟩ : ∃ x, ts[j]? = some x := ⟨_, List.getElem?_eq_getElem h1⟩
      obtain ⟨u, hu⟩ : ∃ x, us[j]? = some x := ⟨_, List.getElem?_eq_getElem h2⟩
      obtain ⟨g, o, rfl, hg, hcl⟩ := H.out (by omega)
      obtain ⟨g', o', rfl, hg', hcl'⟩ := H'.out (by omega)
      have c1 : wr.cell? ⟨g, o + j, none⟩ = some (.string t) := (DN.cell HD.out _).trans (hcl j t ht)
      have c2 : wr.cell? ⟨g', o' + j, none⟩ = some (.string u) := (DN.cell HD.out _).trans (hcl' j u hu)
      have hq := HR.out
      rw [ksC_at ht hu] at hq
      obtain ⟨x, hx⟩ : ∃ x, txC t u = x := ⟨_, rfl⟩
      have hcs := fun w => rtext_any t u w (HS.out t (List.mem_of_getElem? ht)) (HS'.out u (List.mem_of_getElem? hu))
      rw [hx] at hq hcs
      have HCS := Lib.hid hcs
      have i1 : (j : Int) < (ts.length : Int) := by omega
      have i2 : (j : Int) < (us.length : Int) := by omega
      clear hcl hcl' ht hu hx HR hcs
      by_cases h0 : x = 0
      · subst h0
        rw [if_pos rfl] at hq
        have HR := Lib.hid hq
        clear hq
        go_wp2
        go_quiet ((go_at_call 59; exact quietD (HCS.out _)))
        go_wp2
        go_roundw
        case rel => exact ⟨j + 1, by go_num, by omega, by omega, HR, Lib.hid (DN.then HD.out _)⟩
        case measure => simp [intOf]; omega
      · rw [if_neg h0] at hq
        subst hq
        have h0b : (r == 0) = false := by simpa using h0
        have h0c : (r != 0) = true := by simpa using h0
        go_wp2
        go_quiet ((go_at_call 59; exact quietD (HCS.out _)))
        go_wp2
        go_ret
        exact ⟨rfl, DN.then HD.out _⟩
    · have hq := HR.out
      rw [ksC_end (by rw [List.length_drop, List.length_drop]; omega), List.length_drop, List.length_drop] at hq
      have hq1 : r = sgn ts.length us.length := by
        rw [hq]
        exact sgn_sub hj hj'
      subst hq1
      clear hq HR
      by_cases h1 : j < ts.length
      · have h2 : ¬ j < us.length := fun h => hlt ⟨h1, h⟩
        go_wp2_with (go_at_call 55; refine (sign_any _ _ _).mono ?_; rintro e w1 ⟨rfl, rfl⟩)
        go_ret
        exact ⟨rfl, HD.out⟩
      · go_wp2_with (go_at_call 55; refine (sign_any _ _ _).mono ?_; rintro e w1 ⟨rfl, rfl⟩)
        go_ret
        exact ⟨rfl, HD.out⟩
end Od
end Go.Proofs.Ytkmfoclhhnhkdaa
