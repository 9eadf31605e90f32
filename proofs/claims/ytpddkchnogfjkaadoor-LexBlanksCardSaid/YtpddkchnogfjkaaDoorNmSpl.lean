/- A number's text, taken apart, of every text. -/
import Derived.Test.YtpddkchnogfjkaaDoorNmSplit
namespace Go.Proofs.YtpddkchnogfjkaaDoor
open Go.RowKit
namespace Nm
abbrev Wr := Bool × Bool × List UInt8 × List UInt8 × List UInt8
def wv (x : Wr) : Value := .agg #[.bool x.1, .bool x.2.1, .string (sb x.2.2.1), .string (sb x.2.2.2.1), .string (sb x.2.2.2.2)]
def zW : Wr := (false, false, [], [], [])
/-- the power behind an e -/
def splE (bl : Bool) (wh fr : List UInt8) : List UInt8 → Wr × Bool
  | [] => ((bl, false, wh, fr, []), true)
  | c :: t => if c = 101 ∨ c = 69 then
      if (sgn t).2.takeWhile isD = [] then (zW, false) else ((bl, (sgn t).1, wh, fr, (sgn t).2.takeWhile isD), ((sgn t).2.dropWhile isD).isEmpty)
    else ((bl, false, wh, fr, []), false)
/-- the digits behind a point, and a power -/
def splF (bl : Bool) (wh l : List UInt8) : Wr × Bool :=
  if Lib.hasPrefix l [46] = true then
    if (Lib.trimPrefix l [46]).takeWhile isD = [] then (zW, false) else splE bl wh ((Lib.trimPrefix l [46]).takeWhile isD) ((Lib.trimPrefix l [46]).dropWhile isD)
  else splE bl wh [] l
def spl (l : List UInt8) : Wr × Bool :=
  if (Lib.trimPrefix l [45]).takeWhile isD = [] ∨ (1 < ((Lib.trimPrefix l [45]).takeWhile isD).length ∧ ((Lib.trimPrefix l [45]).takeWhile isD).head? = some 48) then (zW, false)
  else splF (Lib.hasPrefix l [45]) ((Lib.trimPrefix l [45]).takeWhile isD) ((Lib.trimPrefix l [45]).dropWhile isD)
def DA (s a b : ByteArray) : Prop := s.size ≤ 9223372036854775807 ∧ sb (s.data.toList.takeWhile isD) = a ∧ sb (s.data.toList.dropWhile isD) = b
theorem da_c {s a b : ByteArray} (h : DA s a b) (w : World) : Calls Tryd.prog 57 #[.string s] w fun e w' => e = .returned (.tuple #[.string a, .string b]) ∧ ∃ n, w' = w.drewN n := by
  obtain ⟨h1, rfl, rfl⟩ := h
  exact digitsAhead_any s w h1
def CU (s : ByteArray) (d : UInt8) (a : ByteArray) (b : Bool) : Prop := sb (Lib.trimPrefix s.data.toList [d]) = a ∧ Lib.hasPrefix s.data.toList [d] = b
theorem cu_c {s : ByteArray} {d : UInt8} {a : ByteArray} {b : Bool} (h : CU s d a b) (w : World) : Calls Tryd.prog 56 #[.string s, .string ⟨#[d]⟩] w fun e w' => e = .returned (.tuple #[.string a, .bool b]) ∧ w' = w := by
  obtain ⟨rfl, rfl⟩ := h
  exact cut_any s d w
theorem ne_emp {l : List UInt8} (h : l ≠ []) : l.isEmpty = false := by
  cases l with
  | nil => exact absurd rfl h
  | cons _ _ => rfl
theorem emp (l : List UInt8) : (sb l).toList.isEmpty = l.isEmpty := by rw [Lib.toList_data, sb_list]
set_option maxRecDepth 100000 in
set_option maxHeartbeats 16000000 in
theorem split_any (s : ByteArray) (w : World) (hs : s.size ≤ 9223372036854775807) :
    Calls Tryd.prog 38 #[.string s] w fun e w' => e = .returned (.tuple #[wv (spl s.data.toList).1, .bool (spl s.data.toList).2]) ∧ Below w.heap.size w w' := by
  obtain ⟨l, hl⟩ : ∃ l, s.data.toList = l := ⟨_, rfl⟩
  obtain ⟨m, hm⟩ : ∃ m, Lib.trimPrefix l [45] = m := ⟨_, rfl⟩
  obtain ⟨bl, hbl⟩ : ∃ m, Lib.hasPrefix l [45] = m := ⟨_, rfl⟩
  have C1 : CU s 45 (sb m) bl := ⟨by rw [hl, hm], by rw [hl, hbl]⟩
  obtain ⟨wh, hwh⟩ : ∃ x, m.takeWhile isD = x := ⟨_, rfl⟩
  obtain ⟨n, hn⟩ : ∃ x, m.dropWhile isD = x := ⟨_, rfl⟩
  have hml : m.length ≤ 9223372036854775807 := by
    rw [← hm]
    have : l.length ≤ 9223372036854775807 := by rw [← hl, ← Lib.size_eq]; exact hs
    unfold Lib.trimPrefix
    split
    · rw [List.length_drop]; omega
    · exact this
  obtain ⟨S1, hS1⟩ : ∃ x, sb m = x := ⟨_, rfl⟩
  obtain ⟨W, hW⟩ : ∃ x, sb wh = x := ⟨_, rfl⟩
  obtain ⟨S2, hS2⟩ : ∃ x, sb n = x := ⟨_, rfl⟩
  rw [hS1] at C1
  have D1 : DA S1 W S2 := by rw [← hS1]; exact ⟨by rw [sb_size]; exact hml, by rw [sb_list, hwh, hW], by rw [sb_list, hn, hS2]⟩
  unfold spl
  rw [hl, hm, hbl, hwh, hn]
  have hWe : W.toList.isEmpty = wh.isEmpty := by rw [← hW, emp]
  have hWs : W.size = wh.length := by rw [← hW, sb_size]
  have hWl : W.data.toList = wh := by rw [← hW, sb_list]
  have S2s : S2.size = n.length := by rw [← hS2, sb_size]
  have S2e : S2.toList.isEmpty = n.isEmpty := by rw [← hS2, emp]
  have S2l : S2.data.toList = n := by rw [← hS2, sb_list]
  have hnl : n.length ≤ m.length := by rw [← hn]; exact List.Sublist.length_le (List.dropWhile_sublist _)
  have S2m : S2.size ≤ 9223372036854775807 := by omega
  by_cases h1 : wh = []
  · rw [if_pos (Or.inl h1)]
    rw [h1] at hWe
    simp only [List.isEmpty_nil] at hWe
    simp only [wv, zW, show sb [] = ⟨#[]⟩ from rfl]
    clear hl hm hbl hwh hn hS1 hW hS2 hWs h1 hWl S2s S2e S2l S2m hnl
    go_enter Tryd.func38, Tryd.ntmps38
    go_wp2_with (first | (go_at_call 56; refine (cu_c (by first | exact C1 ) _).mono ?_; rintro e w' ⟨rfl, rfl⟩) | (go_at_call 57; refine (da_c (by first | exact D1 ) _).mono ?_; rintro e w' ⟨rfl, n1, rfl⟩))
    simp [bodyPost, results, Tryd.results38, go_sem]
    (repeat first | with_reducible exact bA2 _ _ _ | with_reducible refine bD ?_ _ | with_reducible refine Below.setCell ?_ (by simp) _)
  have hWe2 : W.toList.isEmpty = false := by rw [hWe]; exact ne_emp h1
  clear hWe
  have hW0 : 0 < W.size := by rw [hWs]; exact List.length_pos_iff.2 h1
  have hWg := get_at W 0 hW0
  rw [hWl] at hWg
  obtain ⟨b0, hb0⟩ : ∃ b, W[0].toNat = b := ⟨_, rfl⟩
  by_cases h2 : 1 < wh.length ∧ wh.head? = some 48
  · rw [if_pos (Or.inr h2)]
    have hb48 : b0 = 48 := by
      rw [List.head?_eq_getElem?, hWg] at h2
      rw [← hb0, Option.some.inj h2.2]; rfl
    subst hb48
    have hW1 : 1 < W.size := by rw [hWs]; exact h2.1
    simp only [wv, zW, show sb [] = ⟨#[]⟩ from rfl]
    clear hl hm hbl hwh hn hS1 hW hS2 hWs h1 hWl S2s S2e S2l S2m hnl hWg h2
    go_enter Tryd.func38, Tryd.ntmps38
    go_wp2_with (first | (go_at_call 56; refine (cu_c (by first | exact C1 ) _).mono ?_; rintro e w' ⟨rfl, rfl⟩) | (go_at_call 57; refine (da_c (by first | exact D1 ) _).mono ?_; rintro e w' ⟨rfl, n1, rfl⟩))
    simp [bodyPost, results, Tryd.results38, go_sem]
    (repeat first | with_reducible exact bA2 _ _ _ | with_reducible refine bD ?_ _ | with_reducible refine Below.setCell ?_ (by simp) _)
  rw [if_neg (fun h => h.elim h1 h2)]
  have HG : Hid (1 < W.size → b0 ≠ 48) := Lib.hid (fun h e => h2 ⟨by rw [← hWs]; exact h, by rw [List.head?_eq_getElem?, hWg]; congr 1; exact UInt8.toNat_inj.1 (by rw [hb0, e]; rfl)⟩)
  clear h2 hWg hWl h1
  have HL := Lib.hid hWs
  clear hWs hml hl hm hbl hwh hS1
  obtain ⟨pt, hpt⟩ : ∃ x, Lib.hasPrefix n [46] = x := ⟨_, rfl⟩
  obtain ⟨q, hq⟩ : ∃ x, Lib.trimPrefix n [46] = x := ⟨_, rfl⟩
  obtain ⟨S3, hS3⟩ : ∃ x, sb q = x := ⟨_, rfl⟩
  have C2 : CU S2 46 S3 pt := ⟨by rw [S2l, hq, hS3], by rw [S2l, hpt]⟩
  have hql : q.length ≤ n.length := by
    rw [← hq]
    unfold Lib.trimPrefix
    split
    · rw [List.length_drop]; omega
    · exact Nat.le_refl _
  obtain ⟨fr, hfr⟩ : ∃ x, q.takeWhile isD = x := ⟨_, rfl⟩
  obtain ⟨r, hr⟩ : ∃ x, q.dropWhile isD = x := ⟨_, rfl⟩
  obtain ⟨F, hF⟩ : ∃ x, sb fr = x := ⟨_, rfl⟩
  obtain ⟨S4, hS4⟩ : ∃ x, sb r = x := ⟨_, rfl⟩
  have D2 : DA S3 F S4 := by rw [← hS3]; exact ⟨by rw [sb_size]; omega, by rw [sb_list, hfr, hF], by rw [sb_list, hr, hS4]⟩
  have hFe : F.toList.isEmpty = fr.isEmpty := by rw [← hF, emp]
  have S4s : S4.size = r.length := by rw [← hS4, sb_size]
  have S4e : S4.toList.isEmpty = r.isEmpty := by rw [← hS4, emp]
  have S4l : S4.data.toList = r := by rw [← hS4, sb_list]
  have hrl : r.length ≤ q.length := by rw [← hr]; exact List.Sublist.length_le (List.dropWhile_sublist _)
  have S4m : S4.size ≤ 9223372036854775807 := by omega
  unfold splF
  rw [hpt, hq, hfr, hr]
  clear hql hrl hnl
  have step : ∀ (a : 1 < W.size ∧ b0 ≠ 48 ∨ ¬ 1 < W.size), True := fun _ => trivial
  clear step
  by_cases hw1 : 1 < W.size
  · have hb48 := HG.out hw1
    have hb49 : ((b0 : Int) == 48) = false := by simp; omega
    by_cases hp0 : pt = true
    case neg =>
      rw [if_neg hp0]
      have hp1 : pt = false := by simpa using hp0
      subst hp1
      clear hp0 hpt
      match hmm : n with
      | [] =>
        simp only [splE]
        simp only [wv, show sb [] = ⟨#[]⟩ from rfl]
        rw [hW]
        clear hn hS2 hq hS3 hfr hr hF hS4 S4s S4e S4l S4m hW HG HL hmm
        go_enter Tryd.func38, Tryd.ntmps38
        go_wp2_with (first | (go_at_call 56; refine (cu_c (by first | exact C1 | exact C2 ) _).mono ?_; rintro e w' ⟨rfl, rfl⟩) | (go_at_call 57; refine (da_c (by first | exact D1 ) _).mono ?_; rintro e w' ⟨rfl, n1, rfl⟩))
        simp [bodyPost, results, Tryd.results38, go_sem]
        (repeat first | with_reducible exact bA2 _ _ _ | with_reducible refine bD ?_ _ | with_reducible refine Below.setCell ?_ (by simp) _)
      | x :: t =>
        have hx0 : 0 < S2.size := by rw [S2s]; simp
        have hxe : S2.toList.isEmpty = false := by rw [S2e]; rfl
        have hxg := get_at S2 0 hx0
        rw [S2l] at hxg
        have hxx : S2[0] = x := (Option.some.inj hxg).symm
        obtain ⟨b, hb⟩ : ∃ b, S2[0].toNat = b := ⟨_, rfl⟩
        have hbx : x.toNat = b := by rw [← hxx]; exact hb
        have hex := ex_drop S2 1
        rw [S2l] at hex
        simp only [List.drop_one, List.tail_cons] at hex
        have hsg := fun w => signAhead_any (S2.extract 1 S2.size) w
        have hxt : (S2.extract 1 S2.size).data.toList = t := by rw [hex, sb_list]
        rw [hxt] at hsg
        clear hxt hex hxg
        simp only [splE]
        by_cases hee : x = 101 ∨ x = 69
        case neg =>
          rw [if_neg hee]
          have he1 : b ≠ 101 := by rw [← hbx]; intro e; exact hee (Or.inl (UInt8.toNat_inj.1 e))
          have he2 : b ≠ 69 := by rw [← hbx]; intro e; exact hee (Or.inr (UInt8.toNat_inj.1 e))
          have he3 : ((b : Int) == 101) = false := by simp; omega
          have he4 : ((b : Int) == 69) = false := by simp; omega
          simp only [wv, show sb [] = ⟨#[]⟩ from rfl]
          rw [hW]
          clear hn hS2 hq hS3 hfr hr hF hS4 S4s S4e S4l S4m hW HG HL hmm S2s S2e S2l S2m hxx hbx hsg hee
          go_enter Tryd.func38, Tryd.ntmps38
          go_wp2_with (first | (go_at_call 56; refine (cu_c (by first | exact C1 | exact C2 ) _).mono ?_; rintro e w' ⟨rfl, rfl⟩) | (go_at_call 57; refine (da_c (by first | exact D1 ) _).mono ?_; rintro e w' ⟨rfl, n1, rfl⟩))
          simp [bodyPost, results, Tryd.results38, go_sem]
          (repeat first | with_reducible exact bA2 _ _ _ | with_reducible refine bD ?_ _ | with_reducible refine Below.setCell ?_ (by simp) _)
        rw [if_pos hee]
        obtain ⟨X5, hX5⟩ : ∃ x, sb (sgn t).2 = x := ⟨_, rfl⟩
        obtain ⟨sg, hsgn⟩ : ∃ x, (sgn t).1 = x := ⟨_, rfl⟩
        rw [hX5, hsgn] at hsg
        have hsl : (sgn t).2.length ≤ t.length := by
          cases t with
          | nil => simp [sgn]
          | cons c t => simp only [sgn]; split <;> (try split) <;> simp
        have htl : t.length ≤ 9223372036854775807 := by have := S2m; rw [S2s] at this; simp at this; omega
        obtain ⟨p, hp⟩ : ∃ x, (sgn t).2.takeWhile isD = x := ⟨_, rfl⟩
        obtain ⟨u, hu⟩ : ∃ x, (sgn t).2.dropWhile isD = x := ⟨_, rfl⟩
        obtain ⟨PP, hPP⟩ : ∃ x, sb p = x := ⟨_, rfl⟩
        obtain ⟨X6, hX6⟩ : ∃ x, sb u = x := ⟨_, rfl⟩
        have D3 : DA X5 PP X6 := by rw [← hX5]; exact ⟨by rw [sb_size]; omega, by rw [sb_list, hp, hPP], by rw [sb_list, hu, hX6]⟩
        have hPe : PP.toList.isEmpty = p.isEmpty := by rw [← hPP, emp]
        have hXe : X6.toList.isEmpty = u.isEmpty := by rw [← hX6, emp]
        rw [hp, hu, hsgn]
        generalize u.isEmpty = ue at *
        by_cases hpe : p = []
        · rw [if_pos hpe]
          rw [hpe] at hPe
          simp only [List.isEmpty_nil] at hPe
          simp only [wv, zW, show sb [] = ⟨#[]⟩ from rfl]
          rcases hee with hee | hee
          · have hbv : b = 101 := by rw [← hbx, hee]; rfl
            subst hbv
            clear hn hS2 hq hS3 hfr hr hF hS4 S4s S4e S4l S4m hW HG HL hmm S2s S2e S2l S2m hxx hbx hee hsgn hX5 hp hu hPP hX6 hpe hsl
            go_enter Tryd.func38, Tryd.ntmps38
            go_wp2_with (first | (go_at_call 56; refine (cu_c (by first | exact C1 | exact C2 ) _).mono ?_; rintro e w' ⟨rfl, rfl⟩) | (go_at_call 57; refine (da_c (by first | exact D1 | exact D3 ) _).mono ?_; rintro e w' ⟨rfl, n1, rfl⟩) | (go_at_call 58; refine (hsg _).mono ?_; rintro e w' ⟨rfl, rfl⟩))
            simp [bodyPost, results, Tryd.results38, go_sem]
            (repeat first | with_reducible exact bA2 _ _ _ | with_reducible refine bD ?_ _ | with_reducible refine Below.setCell ?_ (by simp) _)

          · have hbv : b = 69 := by rw [← hbx, hee]; rfl
            subst hbv
            clear hn hS2 hq hS3 hfr hr hF hS4 S4s S4e S4l S4m hW HG HL hmm S2s S2e S2l S2m hxx hbx hee hsgn hX5 hp hu hPP hX6 hpe hsl
            go_enter Tryd.func38, Tryd.ntmps38
            go_wp2_with (first | (go_at_call 56; refine (cu_c (by first | exact C1 | exact C2 ) _).mono ?_; rintro e w' ⟨rfl, rfl⟩) | (go_at_call 57; refine (da_c (by first | exact D1 | exact D3 ) _).mono ?_; rintro e w' ⟨rfl, n1, rfl⟩) | (go_at_call 58; refine (hsg _).mono ?_; rintro e w' ⟨rfl, rfl⟩))
            simp [bodyPost, results, Tryd.results38, go_sem]
            (repeat first | with_reducible exact bA2 _ _ _ | with_reducible refine bD ?_ _ | with_reducible refine Below.setCell ?_ (by simp) _)
        · rw [if_neg hpe]
          have hPe2 : PP.toList.isEmpty = false := by rw [hPe]; exact ne_emp hpe
          clear hPe
          simp only [wv]
          rw [hW, hPP]
          rw [show sb [] = ⟨#[]⟩ from rfl]
          rcases hee with hee | hee
          · have hbv : b = 101 := by rw [← hbx, hee]; rfl
            subst hbv
            clear hn hS2 hq hS3 hfr hr hF hS4 S4s S4e S4l S4m hW HG HL hmm S2s S2e S2l S2m hxx hbx hee hsgn hX5 hp hu hPP hX6 hpe hsl
            go_enter Tryd.func38, Tryd.ntmps38
            go_wp2_with (first | (go_at_call 56; refine (cu_c (by first | exact C1 | exact C2 ) _).mono ?_; rintro e w' ⟨rfl, rfl⟩) | (go_at_call 57; refine (da_c (by first | exact D1 | exact D3 ) _).mono ?_; rintro e w' ⟨rfl, n1, rfl⟩) | (go_at_call 58; refine (hsg _).mono ?_; rintro e w' ⟨rfl, rfl⟩))
            simp [bodyPost, results, Tryd.results38, go_sem]
            (repeat first | with_reducible exact bA2 _ _ _ | with_reducible refine bD ?_ _ | with_reducible refine Below.setCell ?_ (by simp) _)

          · have hbv : b = 69 := by rw [← hbx, hee]; rfl
            subst hbv
            clear hn hS2 hq hS3 hfr hr hF hS4 S4s S4e S4l S4m hW HG HL hmm S2s S2e S2l S2m hxx hbx hee hsgn hX5 hp hu hPP hX6 hpe hsl
            go_enter Tryd.func38, Tryd.ntmps38
            go_wp2_with (first | (go_at_call 56; refine (cu_c (by first | exact C1 | exact C2 ) _).mono ?_; rintro e w' ⟨rfl, rfl⟩) | (go_at_call 57; refine (da_c (by first | exact D1 | exact D3 ) _).mono ?_; rintro e w' ⟨rfl, n1, rfl⟩) | (go_at_call 58; refine (hsg _).mono ?_; rintro e w' ⟨rfl, rfl⟩))
            simp [bodyPost, results, Tryd.results38, go_sem]
            (repeat first | with_reducible exact bA2 _ _ _ | with_reducible refine bD ?_ _ | with_reducible refine Below.setCell ?_ (by simp) _)
    rw [if_pos hp0]
    subst hp0
    by_cases hf0 : fr = []
    · rw [if_pos hf0]
      rw [hf0] at hFe
      simp only [List.isEmpty_nil] at hFe
      simp only [wv, zW, show sb [] = ⟨#[]⟩ from rfl]
      clear hn hS2 hq hS3 hfr hr hF hS4 S4s S4e S4l S4m hW HG HL S2s S2e S2l S2m hf0 hpt
      go_enter Tryd.func38, Tryd.ntmps38
      go_wp2_with (first | (go_at_call 56; refine (cu_c (by first | exact C1 | exact C2 ) _).mono ?_; rintro e w' ⟨rfl, rfl⟩) | (go_at_call 57; refine (da_c (by first | exact D1 | exact D2 ) _).mono ?_; rintro e w' ⟨rfl, n1, rfl⟩))
      simp [bodyPost, results, Tryd.results38, go_sem]
      (repeat first | with_reducible exact bA2 _ _ _ | with_reducible refine bD ?_ _ | with_reducible refine Below.setCell ?_ (by simp) _)
    rw [if_neg hf0]
    have hFe2 : F.toList.isEmpty = false := by rw [hFe]; exact ne_emp hf0
    clear hFe hf0 hpt S2s S2e S2l S2m
    match hmm : r with
    | [] =>
      simp only [splE]
      simp only [wv, show sb [] = ⟨#[]⟩ from rfl]
      rw [hW, hF]
      clear hn hS2 hq hS3 hfr hr hF hS4 hW HG HL hmm
      go_enter Tryd.func38, Tryd.ntmps38
      go_wp2_with (first | (go_at_call 56; refine (cu_c (by first | exact C1 | exact C2 ) _).mono ?_; rintro e w' ⟨rfl, rfl⟩) | (go_at_call 57; refine (da_c (by first | exact D1 | exact D2 ) _).mono ?_; rintro e w' ⟨rfl, n1, rfl⟩))
      simp [bodyPost, results, Tryd.results38, go_sem]
      (repeat first | with_reducible exact bA2 _ _ _ | with_reducible refine bD ?_ _ | with_reducible refine Below.setCell ?_ (by simp) _)
    | x :: t =>
      have hx0 : 0 < S4.size := by rw [S4s]; simp
      have hxe : S4.toList.isEmpty = false := by rw [S4e]; rfl
      have hxg := get_at S4 0 hx0
      rw [S4l] at hxg
      have hxx : S4[0] = x := (Option.some.inj hxg).symm
      obtain ⟨b, hb⟩ : ∃ b, S4[0].toNat = b := ⟨_, rfl⟩
      have hbx : x.toNat = b := by rw [← hxx]; exact hb
      have hex := ex_drop S4 1
      rw [S4l] at hex
      simp only [List.drop_one, List.tail_cons] at hex
      have hsg := fun w => signAhead_any (S4.extract 1 S4.size) w
      have hxt : (S4.extract 1 S4.size).data.toList = t := by rw [hex, sb_list]
      rw [hxt] at hsg
      clear hxt hex hxg
      simp only [splE]
      by_cases hee : x = 101 ∨ x = 69
      case neg =>
        rw [if_neg hee]
        have he1 : b ≠ 101 := by rw [← hbx]; intro e; exact hee (Or.inl (UInt8.toNat_inj.1 e))
        have he2 : b ≠ 69 := by rw [← hbx]; intro e; exact hee (Or.inr (UInt8.toNat_inj.1 e))
        have he3 : ((b : Int) == 101) = false := by simp; omega
        have he4 : ((b : Int) == 69) = false := by simp; omega
        simp only [wv, show sb [] = ⟨#[]⟩ from rfl]
        rw [hW, hF]
        clear hn hS2 hq hS3 hfr hr hF hS4 hW HG HL hmm S4s S4e S4l S4m hxx hbx hsg hee
        go_enter Tryd.func38, Tryd.ntmps38
        go_wp2_with (first | (go_at_call 56; refine (cu_c (by first | exact C1 | exact C2 ) _).mono ?_; rintro e w' ⟨rfl, rfl⟩) | (go_at_call 57; refine (da_c (by first | exact D1 | exact D2 ) _).mono ?_; rintro e w' ⟨rfl, n1, rfl⟩))
        simp [bodyPost, results, Tryd.results38, go_sem]
        (repeat first | with_reducible exact bA2 _ _ _ | with_reducible refine bD ?_ _ | with_reducible refine Below.setCell ?_ (by simp) _)
      rw [if_pos hee]
      obtain ⟨X5, hX5⟩ : ∃ x, sb (sgn t).2 = x := ⟨_, rfl⟩
      obtain ⟨sg, hsgn⟩ : ∃ x, (sgn t).1 = x := ⟨_, rfl⟩
      rw [hX5, hsgn] at hsg
      have hsl : (sgn t).2.length ≤ t.length := by
        cases t with
        | nil => simp [sgn]
        | cons c t => simp only [sgn]; split <;> (try split) <;> simp
      have htl : t.length ≤ 9223372036854775807 := by have := S4m; rw [S4s] at this; simp at this; omega
      obtain ⟨p, hp⟩ : ∃ x, (sgn t).2.takeWhile isD = x := ⟨_, rfl⟩
      obtain ⟨u, hu⟩ : ∃ x, (sgn t).2.dropWhile isD = x := ⟨_, rfl⟩
      obtain ⟨PP, hPP⟩ : ∃ x, sb p = x := ⟨_, rfl⟩
      obtain ⟨X6, hX6⟩ : ∃ x, sb u = x := ⟨_, rfl⟩
      have D3 : DA X5 PP X6 := by rw [← hX5]; exact ⟨by rw [sb_size]; omega, by rw [sb_list, hp, hPP], by rw [sb_list, hu, hX6]⟩
      have hPe : PP.toList.isEmpty = p.isEmpty := by rw [← hPP, emp]
      have hXe : X6.toList.isEmpty = u.isEmpty := by rw [← hX6, emp]
      rw [hp, hu, hsgn]
      generalize u.isEmpty = ue at *
      by_cases hpe : p = []
      · rw [if_pos hpe]
        rw [hpe] at hPe
        simp only [List.isEmpty_nil] at hPe
        simp only [wv, zW, show sb [] = ⟨#[]⟩ from rfl]
        rcases hee with hee | hee
        · have hbv : b = 101 := by rw [← hbx, hee]; rfl
          subst hbv
          clear hn hS2 hq hS3 hfr hr hF hS4 hW HG HL hmm S4s S4e S4l S4m hxx hbx hee hsgn hX5 hp hu hPP hX6 hpe hsl
          go_enter Tryd.func38, Tryd.ntmps38
          go_wp2_with (first | (go_at_call 56; refine (cu_c (by first | exact C1 | exact C2 ) _).mono ?_; rintro e w' ⟨rfl, rfl⟩) | (go_at_call 57; refine (da_c (by first | exact D1 | exact D2 | exact D3 ) _).mono ?_; rintro e w' ⟨rfl, n1, rfl⟩) | (go_at_call 58; refine (hsg _).mono ?_; rintro e w' ⟨rfl, rfl⟩))
          simp [bodyPost, results, Tryd.results38, go_sem]
          (repeat first | with_reducible exact bA2 _ _ _ | with_reducible refine bD ?_ _ | with_reducible refine Below.setCell ?_ (by simp) _)

        · have hbv : b = 69 := by rw [← hbx, hee]; rfl
          subst hbv
          clear hn hS2 hq hS3 hfr hr hF hS4 hW HG HL hmm S4s S4e S4l S4m hxx hbx hee hsgn hX5 hp hu hPP hX6 hpe hsl
          go_enter Tryd.func38, Tryd.ntmps38
          go_wp2_with (first | (go_at_call 56; refine (cu_c (by first | exact C1 | exact C2 ) _).mono ?_; rintro e w' ⟨rfl, rfl⟩) | (go_at_call 57; refine (da_c (by first | exact D1 | exact D2 | exact D3 ) _).mono ?_; rintro e w' ⟨rfl, n1, rfl⟩) | (go_at_call 58; refine (hsg _).mono ?_; rintro e w' ⟨rfl, rfl⟩))
          simp [bodyPost, results, Tryd.results38, go_sem]
          (repeat first | with_reducible exact bA2 _ _ _ | with_reducible refine bD ?_ _ | with_reducible refine Below.setCell ?_ (by simp) _)
      · rw [if_neg hpe]
        have hPe2 : PP.toList.isEmpty = false := by rw [hPe]; exact ne_emp hpe
        clear hPe
        simp only [wv]
        rw [hW, hPP, hF]
        rcases hee with hee | hee
        · have hbv : b = 101 := by rw [← hbx, hee]; rfl
          subst hbv
          clear hn hS2 hq hS3 hfr hr hF hS4 hW HG HL hmm S4s S4e S4l S4m hxx hbx hee hsgn hX5 hp hu hPP hX6 hpe hsl
          go_enter Tryd.func38, Tryd.ntmps38
          go_wp2_with (first | (go_at_call 56; refine (cu_c (by first | exact C1 | exact C2 ) _).mono ?_; rintro e w' ⟨rfl, rfl⟩) | (go_at_call 57; refine (da_c (by first | exact D1 | exact D2 | exact D3 ) _).mono ?_; rintro e w' ⟨rfl, n1, rfl⟩) | (go_at_call 58; refine (hsg _).mono ?_; rintro e w' ⟨rfl, rfl⟩))
          simp [bodyPost, results, Tryd.results38, go_sem]
          (repeat first | with_reducible exact bA2 _ _ _ | with_reducible refine bD ?_ _ | with_reducible refine Below.setCell ?_ (by simp) _)

        · have hbv : b = 69 := by rw [← hbx, hee]; rfl
          subst hbv
          clear hn hS2 hq hS3 hfr hr hF hS4 hW HG HL hmm S4s S4e S4l S4m hxx hbx hee hsgn hX5 hp hu hPP hX6 hpe hsl
          go_enter Tryd.func38, Tryd.ntmps38
          go_wp2_with (first | (go_at_call 56; refine (cu_c (by first | exact C1 | exact C2 ) _).mono ?_; rintro e w' ⟨rfl, rfl⟩) | (go_at_call 57; refine (da_c (by first | exact D1 | exact D2 | exact D3 ) _).mono ?_; rintro e w' ⟨rfl, n1, rfl⟩) | (go_at_call 58; refine (hsg _).mono ?_; rintro e w' ⟨rfl, rfl⟩))
          simp [bodyPost, results, Tryd.results38, go_sem]
          (repeat first | with_reducible exact bA2 _ _ _ | with_reducible refine bD ?_ _ | with_reducible refine Below.setCell ?_ (by simp) _)
  by_cases hp0 : pt = true
  case neg =>
    rw [if_neg hp0]
    have hp1 : pt = false := by simpa using hp0
    subst hp1
    clear hp0 hpt
    match hmm : n with
    | [] =>
      simp only [splE]
      simp only [wv, show sb [] = ⟨#[]⟩ from rfl]
      rw [hW]
      clear hn hS2 hq hS3 hfr hr hF hS4 S4s S4e S4l S4m hW HG HL hmm
      go_enter Tryd.func38, Tryd.ntmps38
      go_wp2_with (first | (go_at_call 56; refine (cu_c (by first | exact C1 | exact C2 ) _).mono ?_; rintro e w' ⟨rfl, rfl⟩) | (go_at_call 57; refine (da_c (by first | exact D1 ) _).mono ?_; rintro e w' ⟨rfl, n1, rfl⟩))
      simp [bodyPost, results, Tryd.results38, go_sem]
      (repeat first | with_reducible exact bA2 _ _ _ | with_reducible refine bD ?_ _ | with_reducible refine Below.setCell ?_ (by simp) _)
    | x :: t =>
      have hx0 : 0 < S2.size := by rw [S2s]; simp
      have hxe : S2.toList.isEmpty = false := by rw [S2e]; rfl
      have hxg := get_at S2 0 hx0
      rw [S2l] at hxg
      have hxx : S2[0] = x := (Option.some.inj hxg).symm
      obtain ⟨b, hb⟩ : ∃ b, S2[0].toNat = b := ⟨_, rfl⟩
      have hbx : x.toNat = b := by rw [← hxx]; exact hb
      have hex := ex_drop S2 1
      rw [S2l] at hex
      simp only [List.drop_one, List.tail_cons] at hex
      have hsg := fun w => signAhead_any (S2.extract 1 S2.size) w
      have hxt : (S2.extract 1 S2.size).data.toList = t := by rw [hex, sb_list]
      rw [hxt] at hsg
      clear hxt hex hxg
      simp only [splE]
      by_cases hee : x = 101 ∨ x = 69
      case neg =>
        rw [if_neg hee]
        have he1 : b ≠ 101 := by rw [← hbx]; intro e; exact hee (Or.inl (UInt8.toNat_inj.1 e))
        have he2 : b ≠ 69 := by rw [← hbx]; intro e; exact hee (Or.inr (UInt8.toNat_inj.1 e))
        have he3 : ((b : Int) == 101) = false := by simp; omega
        have he4 : ((b : Int) == 69) = false := by simp; omega
        simp only [wv, show sb [] = ⟨#[]⟩ from rfl]
        rw [hW]
        clear hn hS2 hq hS3 hfr hr hF hS4 S4s S4e S4l S4m hW HG HL hmm S2s S2e S2l S2m hxx hbx hsg hee
        go_enter Tryd.func38, Tryd.ntmps38
        go_wp2_with (first | (go_at_call 56; refine (cu_c (by first | exact C1 | exact C2 ) _).mono ?_; rintro e w' ⟨rfl, rfl⟩) | (go_at_call 57; refine (da_c (by first | exact D1 ) _).mono ?_; rintro e w' ⟨rfl, n1, rfl⟩))
        simp [bodyPost, results, Tryd.results38, go_sem]
        (repeat first | with_reducible exact bA2 _ _ _ | with_reducible refine bD ?_ _ | with_reducible refine Below.setCell ?_ (by simp) _)
      rw [if_pos hee]
      obtain ⟨X5, hX5⟩ : ∃ x, sb (sgn t).2 = x := ⟨_, rfl⟩
      obtain ⟨sg, hsgn⟩ : ∃ x, (sgn t).1 = x := ⟨_, rfl⟩
      rw [hX5, hsgn] at hsg
      have hsl : (sgn t).2.length ≤ t.length := by
        cases t with
        | nil => simp [sgn]
        | cons c t => simp only [sgn]; split <;> (try split) <;> simp
      have htl : t.length ≤ 9223372036854775807 := by have := S2m; rw [S2s] at this; simp at this; omega
      obtain ⟨p, hp⟩ : ∃ x, (sgn t).2.takeWhile isD = x := ⟨_, rfl⟩
      obtain ⟨u, hu⟩ : ∃ x, (sgn t).2.dropWhile isD = x := ⟨_, rfl⟩
      obtain ⟨PP, hPP⟩ : ∃ x, sb p = x := ⟨_, rfl⟩
      obtain ⟨X6, hX6⟩ : ∃ x, sb u = x := ⟨_, rfl⟩
      have D3 : DA X5 PP X6 := by rw [← hX5]; exact ⟨by rw [sb_size]; omega, by rw [sb_list, hp, hPP], by rw [sb_list, hu, hX6]⟩
      have hPe : PP.toList.isEmpty = p.isEmpty := by rw [← hPP, emp]
      have hXe : X6.toList.isEmpty = u.isEmpty := by rw [← hX6, emp]
      rw [hp, hu, hsgn]
      generalize u.isEmpty = ue at *
      by_cases hpe : p = []
      · rw [if_pos hpe]
        rw [hpe] at hPe
        simp only [List.isEmpty_nil] at hPe
        simp only [wv, zW, show sb [] = ⟨#[]⟩ from rfl]
        rcases hee with hee | hee
        · have hbv : b = 101 := by rw [← hbx, hee]; rfl
          subst hbv
          clear hn hS2 hq hS3 hfr hr hF hS4 S4s S4e S4l S4m hW HG HL hmm S2s S2e S2l S2m hxx hbx hee hsgn hX5 hp hu hPP hX6 hpe hsl
          go_enter Tryd.func38, Tryd.ntmps38
          go_wp2_with (first | (go_at_call 56; refine (cu_c (by first | exact C1 | exact C2 ) _).mono ?_; rintro e w' ⟨rfl, rfl⟩) | (go_at_call 57; refine (da_c (by first | exact D1 | exact D3 ) _).mono ?_; rintro e w' ⟨rfl, n1, rfl⟩) | (go_at_call 58; refine (hsg _).mono ?_; rintro e w' ⟨rfl, rfl⟩))
          simp [bodyPost, results, Tryd.results38, go_sem]
          (repeat first | with_reducible exact bA2 _ _ _ | with_reducible refine bD ?_ _ | with_reducible refine Below.setCell ?_ (by simp) _)

        · have hbv : b = 69 := by rw [← hbx, hee]; rfl
          subst hbv
          clear hn hS2 hq hS3 hfr hr hF hS4 S4s S4e S4l S4m hW HG HL hmm S2s S2e S2l S2m hxx hbx hee hsgn hX5 hp hu hPP hX6 hpe hsl
          go_enter Tryd.func38, Tryd.ntmps38
          go_wp2_with (first | (go_at_call 56; refine (cu_c (by first | exact C1 | exact C2 ) _).mono ?_; rintro e w' ⟨rfl, rfl⟩) | (go_at_call 57; refine (da_c (by first | exact D1 | exact D3 ) _).mono ?_; rintro e w' ⟨rfl, n1, rfl⟩) | (go_at_call 58; refine (hsg _).mono ?_; rintro e w' ⟨rfl, rfl⟩))
          simp [bodyPost, results, Tryd.results38, go_sem]
          (repeat first | with_reducible exact bA2 _ _ _ | with_reducible refine bD ?_ _ | with_reducible refine Below.setCell ?_ (by simp) _)
      · rw [if_neg hpe]
        have hPe2 : PP.toList.isEmpty = false := by rw [hPe]; exact ne_emp hpe
        clear hPe
        simp only [wv]
        rw [hW, hPP]
        rw [show sb [] = ⟨#[]⟩ from rfl]
        rcases hee with hee | hee
        · have hbv : b = 101 := by rw [← hbx, hee]; rfl
          subst hbv
          clear hn hS2 hq hS3 hfr hr hF hS4 S4s S4e S4l S4m hW HG HL hmm S2s S2e S2l S2m hxx hbx hee hsgn hX5 hp hu hPP hX6 hpe hsl
          go_enter Tryd.func38, Tryd.ntmps38
          go_wp2_with (first | (go_at_call 56; refine (cu_c (by first | exact C1 | exact C2 ) _).mono ?_; rintro e w' ⟨rfl, rfl⟩) | (go_at_call 57; refine (da_c (by first | exact D1 | exact D3 ) _).mono ?_; rintro e w' ⟨rfl, n1, rfl⟩) | (go_at_call 58; refine (hsg _).mono ?_; rintro e w' ⟨rfl, rfl⟩))
          simp [bodyPost, results, Tryd.results38, go_sem]
          (repeat first | with_reducible exact bA2 _ _ _ | with_reducible refine bD ?_ _ | with_reducible refine Below.setCell ?_ (by simp) _)

        · have hbv : b = 69 := by rw [← hbx, hee]; rfl
          subst hbv
          clear hn hS2 hq hS3 hfr hr hF hS4 S4s S4e S4l S4m hW HG HL hmm S2s S2e S2l S2m hxx hbx hee hsgn hX5 hp hu hPP hX6 hpe hsl
          go_enter Tryd.func38, Tryd.ntmps38
          go_wp2_with (first | (go_at_call 56; refine (cu_c (by first | exact C1 | exact C2 ) _).mono ?_; rintro e w' ⟨rfl, rfl⟩) | (go_at_call 57; refine (da_c (by first | exact D1 | exact D3 ) _).mono ?_; rintro e w' ⟨rfl, n1, rfl⟩) | (go_at_call 58; refine (hsg _).mono ?_; rintro e w' ⟨rfl, rfl⟩))
          simp [bodyPost, results, Tryd.results38, go_sem]
          (repeat first | with_reducible exact bA2 _ _ _ | with_reducible refine bD ?_ _ | with_reducible refine Below.setCell ?_ (by simp) _)
  rw [if_pos hp0]
  subst hp0
  by_cases hf0 : fr = []
  · rw [if_pos hf0]
    rw [hf0] at hFe
    simp only [List.isEmpty_nil] at hFe
    simp only [wv, zW, show sb [] = ⟨#[]⟩ from rfl]
    clear hn hS2 hq hS3 hfr hr hF hS4 S4s S4e S4l S4m hW HG HL S2s S2e S2l S2m hf0 hpt
    go_enter Tryd.func38, Tryd.ntmps38
    go_wp2_with (first | (go_at_call 56; refine (cu_c (by first | exact C1 | exact C2 ) _).mono ?_; rintro e w' ⟨rfl, rfl⟩) | (go_at_call 57; refine (da_c (by first | exact D1 | exact D2 ) _).mono ?_; rintro e w' ⟨rfl, n1, rfl⟩))
    simp [bodyPost, results, Tryd.results38, go_sem]
    (repeat first | with_reducible exact bA2 _ _ _ | with_reducible refine bD ?_ _ | with_reducible refine Below.setCell ?_ (by simp) _)
  rw [if_neg hf0]
  have hFe2 : F.toList.isEmpty = false := by rw [hFe]; exact ne_emp hf0
  clear hFe hf0 hpt S2s S2e S2l S2m
  match hmm : r with
  | [] =>
    simp only [splE]
    simp only [wv, show sb [] = ⟨#[]⟩ from rfl]
    rw [hW, hF]
    clear hn hS2 hq hS3 hfr hr hF hS4 hW HG HL hmm
    go_enter Tryd.func38, Tryd.ntmps38
    go_wp2_with (first | (go_at_call 56; refine (cu_c (by first | exact C1 | exact C2 ) _).mono ?_; rintro e w' ⟨rfl, rfl⟩) | (go_at_call 57; refine (da_c (by first | exact D1 | exact D2 ) _).mono ?_; rintro e w' ⟨rfl, n1, rfl⟩))
    simp [bodyPost, results, Tryd.results38, go_sem]
    (repeat first | with_reducible exact bA2 _ _ _ | with_reducible refine bD ?_ _ | with_reducible refine Below.setCell ?_ (by simp) _)
  | x :: t =>
    have hx0 : 0 < S4.size := by rw [S4s]; simp
    have hxe : S4.toList.isEmpty = false := by rw [S4e]; rfl
    have hxg := get_at S4 0 hx0
    rw [S4l] at hxg
    have hxx : S4[0] = x := (Option.some.inj hxg).symm
    obtain ⟨b, hb⟩ : ∃ b, S4[0].toNat = b := ⟨_, rfl⟩
    have hbx : x.toNat = b := by rw [← hxx]; exact hb
    have hex := ex_drop S4 1
    rw [S4l] at hex
    simp only [List.drop_one, List.tail_cons] at hex
    have hsg := fun w => signAhead_any (S4.extract 1 S4.size) w
    have hxt : (S4.extract 1 S4.size).data.toList = t := by rw [hex, sb_list]
    rw [hxt] at hsg
    clear hxt hex hxg
    simp only [splE]
    by_cases hee : x = 101 ∨ x = 69
    case neg =>
      rw [if_neg hee]
      have he1 : b ≠ 101 := by rw [← hbx]; intro e; exact hee (Or.inl (UInt8.toNat_inj.1 e))
      have he2 : b ≠ 69 := by rw [← hbx]; intro e; exact hee (Or.inr (UInt8.toNat_inj.1 e))
      have he3 : ((b : Int) == 101) = false := by simp; omega
      have he4 : ((b : Int) == 69) = false := by simp; omega
      simp only [wv, show sb [] = ⟨#[]⟩ from rfl]
      rw [hW, hF]
      clear hn hS2 hq hS3 hfr hr hF hS4 hW HG HL hmm S4s S4e S4l S4m hxx hbx hsg hee
      go_enter Tryd.func38, Tryd.ntmps38
      go_wp2_with (first | (go_at_call 56; refine (cu_c (by first | exact C1 | exact C2 ) _).mono ?_; rintro e w' ⟨rfl, rfl⟩) | (go_at_call 57; refine (da_c (by first | exact D1 | exact D2 ) _).mono ?_; rintro e w' ⟨rfl, n1, rfl⟩))
      simp [bodyPost, results, Tryd.results38, go_sem]
      (repeat first | with_reducible exact bA2 _ _ _ | with_reducible refine bD ?_ _ | with_reducible refine Below.setCell ?_ (by simp) _)
    rw [if_pos hee]
    obtain ⟨X5, hX5⟩ : ∃ x, sb (sgn t).2 = x := ⟨_, rfl⟩
    obtain ⟨sg, hsgn⟩ : ∃ x, (sgn t).1 = x := ⟨_, rfl⟩
    rw [hX5, hsgn] at hsg
    have hsl : (sgn t).2.length ≤ t.length := by
      cases t with
      | nil => simp [sgn]
      | cons c t => simp only [sgn]; split <;> (try split) <;> simp
    have htl : t.length ≤ 9223372036854775807 := by have := S4m; rw [S4s] at this; simp at this; omega
    obtain ⟨p, hp⟩ : ∃ x, (sgn t).2.takeWhile isD = x := ⟨_, rfl⟩
    obtain ⟨u, hu⟩ : ∃ x, (sgn t).2.dropWhile isD = x := ⟨_, rfl⟩
    obtain ⟨PP, hPP⟩ : ∃ x, sb p = x := ⟨_, rfl⟩
    obtain ⟨X6, hX6⟩ : ∃ x, sb u = x := ⟨_, rfl⟩
    have D3 : DA X5 PP X6 := by rw [← hX5]; exact ⟨by rw [sb_size]; omega, by rw [sb_list, hp, hPP], by rw [sb_list, hu, hX6]⟩
    have hPe : PP.toList.isEmpty = p.isEmpty := by rw [← hPP, emp]
    have hXe : X6.toList.isEmpty = u.isEmpty := by rw [← hX6, emp]
    rw [hp, hu, hsgn]
    generalize u.isEmpty = ue at *
    by_cases hpe : p = []
    · rw [if_pos hpe]
      rw [hpe] at hPe
      simp only [List.isEmpty_nil] at hPe
      simp only [wv, zW, show sb [] = ⟨#[]⟩ from rfl]
      rcases hee with hee | hee
      · have hbv : b = 101 := by rw [← hbx, hee]; rfl
        subst hbv
        clear hn hS2 hq hS3 hfr hr hF hS4 hW HG HL hmm S4s S4e S4l S4m hxx hbx hee hsgn hX5 hp hu hPP hX6 hpe hsl
        go_enter Tryd.func38, Tryd.ntmps38
        go_wp2_with (first | (go_at_call 56; refine (cu_c (by first | exact C1 | exact C2 ) _).mono ?_; rintro e w' ⟨rfl, rfl⟩) | (go_at_call 57; refine (da_c (by first | exact D1 | exact D2 | exact D3 ) _).mono ?_; rintro e w' ⟨rfl, n1, rfl⟩) | (go_at_call 58; refine (hsg _).mono ?_; rintro e w' ⟨rfl, rfl⟩))
        simp [bodyPost, results, Tryd.results38, go_sem]
        (repeat first | with_reducible exact bA2 _ _ _ | with_reducible refine bD ?_ _ | with_reducible refine Below.setCell ?_ (by simp) _)

      · have hbv : b = 69 := by rw [← hbx, hee]; rfl
        subst hbv
        clear hn hS2 hq hS3 hfr hr hF hS4 hW HG HL hmm S4s S4e S4l S4m hxx hbx hee hsgn hX5 hp hu hPP hX6 hpe hsl
        go_enter Tryd.func38, Tryd.ntmps38
        go_wp2_with (first | (go_at_call 56; refine (cu_c (by first | exact C1 | exact C2 ) _).mono ?_; rintro e w' ⟨rfl, rfl⟩) | (go_at_call 57; refine (da_c (by first | exact D1 | exact D2 | exact D3 ) _).mono ?_; rintro e w' ⟨rfl, n1, rfl⟩) | (go_at_call 58; refine (hsg _).mono ?_; rintro e w' ⟨rfl, rfl⟩))
        simp [bodyPost, results, Tryd.results38, go_sem]
        (repeat first | with_reducible exact bA2 _ _ _ | with_reducible refine bD ?_ _ | with_reducible refine Below.setCell ?_ (by simp) _)
    · rw [if_neg hpe]
      have hPe2 : PP.toList.isEmpty = false := by rw [hPe]; exact ne_emp hpe
      clear hPe
      simp only [wv]
      rw [hW, hPP, hF]
      rcases hee with hee | hee
      · have hbv : b = 101 := by rw [← hbx, hee]; rfl
        subst hbv
        clear hn hS2 hq hS3 hfr hr hF hS4 hW HG HL hmm S4s S4e S4l S4m hxx hbx hee hsgn hX5 hp hu hPP hX6 hpe hsl
        go_enter Tryd.func38, Tryd.ntmps38
        go_wp2_with (first | (go_at_call 56; refine (cu_c (by first | exact C1 | exact C2 ) _).mono ?_; rintro e w' ⟨rfl, rfl⟩) | (go_at_call 57; refine (da_c (by first | exact D1 | exact D2 | exact D3 ) _).mono ?_; rintro e w' ⟨rfl, n1, rfl⟩) | (go_at_call 58; refine (hsg _).mono ?_; rintro e w' ⟨rfl, rfl⟩))
        simp [bodyPost, results, Tryd.results38, go_sem]
        (repeat first | with_reducible exact bA2 _ _ _ | with_reducible refine bD ?_ _ | with_reducible refine Below.setCell ?_ (by simp) _)

      · have hbv : b = 69 := by rw [← hbx, hee]; rfl
        subst hbv
        clear hn hS2 hq hS3 hfr hr hF hS4 hW HG HL hmm S4s S4e S4l S4m hxx hbx hee hsgn hX5 hp hu hPP hX6 hpe hsl
        go_enter Tryd.func38, Tryd.ntmps38
        go_wp2_with (first | (go_at_call 56; refine (cu_c (by first | exact C1 | exact C2 ) _).mono ?_; rintro e w' ⟨rfl, rfl⟩) | (go_at_call 57; refine (da_c (by first | exact D1 | exact D2 | exact D3 ) _).mono ?_; rintro e w' ⟨rfl, n1, rfl⟩) | (go_at_call 58; refine (hsg _).mono ?_; rintro e w' ⟨rfl, rfl⟩))
        simp [bodyPost, results, Tryd.results38, go_sem]
        (repeat first | with_reducible exact bA2 _ _ _ | with_reducible refine bD ?_ _ | with_reducible refine Below.setCell ?_ (by simp) _)
end Nm
end Go.Proofs.YtpddkchnogfjkaaDoor
