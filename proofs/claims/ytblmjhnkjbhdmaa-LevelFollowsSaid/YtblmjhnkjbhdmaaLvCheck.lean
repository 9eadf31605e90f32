/- What the document's Check tells: why a policy's levels are not right, by the same words as New. -/
import Derived.Test.YtblmjhnkjbhdmaaLvTable
import Derived.Test.YtblmjhnkjbhdmaaLvRefN
import Derived.Deep.QuietTactic
import Derived.BigQuiet
namespace Go.Proofs.Ytblmjhnkjbhdmaa
open Go.RowKit
namespace Lv
/-- the memory is as it was; draws aside -/
structure Hp (w0 wr : World) : Prop where
  heap : wr.heap = w0.heap
  below : Below w0.heap.size w0 wr
theorem Hp.refl (w : World) : Hp w w := ⟨rfl, Below.refl _ _⟩
theorem Hp.drewN {w0 wr : World} (h : Hp w0 wr) (n : Nat) : Hp w0 (wr.drewN n) := ⟨h.heap, below_drewN h.below n⟩
theorem Hp.cell {w0 wr : World} {p : Addr} {v : Value} (h : Hp w0 wr) (hc : w0.cell? p = some v) : wr.cell? p = some v := by
  unfold World.cell? at hc ⊢
  rw [h.heap]
  exact hc
def ErrPost (ss : List ByteArray) (ps : List (Int × Int)) (w : World) (e : Ending) (w' : World) : Prop := e = .returned (.int .i64 (errOf ss ps)) ∧ Below w.heap.size w w'
theorem err10 {ss : List ByteArray} {ps : List (Int × Int)} (h : ¬ NamesP ss) : errOf ss ps = 10 := by simp [errOf, h]
theorem err2 {ss : List ByteArray} {ps : List (Int × Int)} (h : NamesP ss) (h2 : prB ps ss.length = false) : errOf ss ps = 2 := by simp [errOf, h, h2]
theorem err9 {ss : List ByteArray} {ps : List (Int × Int)} (h : NamesP ss) (h2 : prB ps ss.length = true) (h3 : ¬ Good ss ps) : errOf ss ps = 9 := by simp [errOf, h, h2, h3]
theorem err0 {ss : List ByteArray} {ps : List (Int × Int)} (h : Good ss ps) : errOf ss ps = 0 := by simp [errOf, h.names, h.pairs, h]
theorem len1 {l : List Nat} (h0 : l ≠ []) (hn : l.Nodup) (hu : ∀ x y, x ∈ l → y ∈ l → x = y) : l.length = 1 := by
  match l, h0, hn, hu with
  | [x], _, _, _ => rfl
  | x :: y :: t, _, hn, hu =>
    have : x = y := hu x y (by simp) (by simp)
    subst this
    simp at hn
theorem joins_mem {r : Nat → Nat → Bool} {n a b x : Nat} (h : x ∈ joinsL r n a b) : x < n ∧ r a x = true ∧ r b x = true ∧ ∀ d, d < n → r a d = true → r b d = true → r x d = true := by
  unfold joinsL at h
  rw [List.mem_filter] at h
  obtain ⟨h1, h2⟩ := h
  simp only [Bool.and_eq_true] at h2
  refine ⟨by simpa using h1, h2.1.1, h2.1.2, fun d hd ha hb => ?_⟩
  have h3 := h2.2
  unfold bbB at h3
  rw [List.all_eq_true] at h3
  simpa [ha, hb] using h3 d (by simpa using hd)
theorem joins_one {r : Nat → Nat → Bool} {n a b : Nat} (o : Ord r n) (h : (leastO r n a b).isSome = true) : (joinsL r n a b).length = 1 := by
  obtain ⟨k, hk⟩ := Option.isSome_iff_exists.1 h
  refine len1 (fun e => ?_) (List.Nodup.sublist List.filter_sublist List.nodup_range) fun x y hx hy => ?_
  · have hp := List.find?_some (p := fun c => r a c && r b c && bbB r n a b c) hk
    have : k ∈ joinsL r n a b := List.mem_filter.2 ⟨List.mem_of_find?_eq_some hk, hp⟩
    rw [e] at this
    simp at this
  · obtain ⟨x1, x2, x3, x4⟩ := joins_mem hx
    obtain ⟨y1, y2, y3, y4⟩ := joins_mem hy
    exact o.anti x y x1 y1 (x4 y y1 y2 y3) (y4 x x1 x2 x3)
theorem least_one {r : Nat → Nat → Bool} {n a b : Nat} (h : (joinsL r n a b).length = 1) : (leastO r n a b).isSome = true := by
  cases hk : leastO r n a b with
  | some k => rfl
  | none =>
    have h1 := List.find?_eq_none.1 hk
    have : joinsL r n a b = [] := List.filter_eq_nil_iff.2 h1
    rw [this] at h
    cases h
/-- two levels are in order -/
structure Fine (c : Nat → Nat → Bool) (n a b : Nat) : Prop where
  anti : ¬ (a ≠ b ∧ c a b = true ∧ c b a = true)
  join : (joinsL c n a b).length = 1
  meet : (joinsL (trn c) n a b).length = 1
theorem good_of_fine {ss : List ByteArray} {ps : List (Int × Int)} (h1 : NamesP ss) (h2 : prB ps ss.length = true) (h : ∀ a b, a < ss.length → b < ss.length → Fine (cl ps ss.length) ss.length a b) : Good ss ps := by
  refine ⟨h1, h2, relA_congr fun a b _ _ => ?_, fun a b ha hb => least_one (h a b ha hb).join, fun a b ha hb => least_one (h a b ha hb).meet⟩
  show (cl ps ss.length a b && cl ps ss.length b a) = pairT [] ss.length a b
  rw [Bool.eq_iff_iff, Bool.and_eq_true]
  constructor
  · rintro ⟨e1, e2⟩
    obtain ⟨ha, hb⟩ := cl_in h2 e1
    have : a = b := Classical.byContradiction fun hne => (h a b ha hb).anti ⟨hne, e1, e2⟩
    simp [pairT, this, hb]
  · intro hp
    simp [pairT] at hp
    obtain ⟨rfl, ha⟩ := hp
    have n8 := h1.2.1
    have : cl ps ss.length a a = true := clo_sub _ a a (by omega) (by omega) (by simp [pairT, ha])
    exact ⟨this, this⟩
theorem fine_of_good {ss : List ByteArray} {ps : List (Int × Int)} (h : Good ss ps) (a b : Nat) (ha : a < ss.length) (hb : b < ss.length) : Fine (cl ps ss.length) ss.length a b :=
  ⟨fun hh => hh.1 ((good_ord h).anti a b ha hb hh.2.1 hh.2.2), joins_one (good_ord h) (h.joins a b ha hb), joins_one (good_ord h).turn (h.meets a b ha hb)⟩
theorem ne_cast {a b : Nat} (h : a ≠ b) : ((a : Int) != (b : Int)) = true := by
  rw [bne_iff_ne]; omega
theorem one_cast {k : Nat} (h : ((k : Int) != 1) = false) : k = 1 := by
  rw [bne_eq_false_iff_eq] at h; omega
theorem ints_len {w : World} {v : Value} {l : List Nat} (h : IntsAt w v l) : ∃ a cap, v = .slice a l.length cap := by
  rcases h with ⟨rfl, rfl⟩ | ⟨g, cap, rfl, _⟩
  · exact ⟨none, 0, rfl⟩
  · exact ⟨_, _, rfl⟩
set_option maxHeartbeats 4000000 in
set_option maxRecDepth 100000 in
theorem check_any (vn vb vp : Value) (ss : List ByteArray) (ps : List (Int × Int)) (w : World) (hs : NamesAt w vn ss) (hp : PairsAt w vb ps) (hl : ss.length ≤ maxLen) (hl2 : ps.length ≤ maxLen) :
    Calls Try.prog 11 #[.agg #[vn, vb, vp]] w (ErrPost ss ps w) := by
  obtain ⟨an, capn, rfl, _, hcn⟩ := hs.form
  obtain ⟨ab, capb, rfl, hcb⟩ := hp.form
  have HN := Lib.hid hcn
  have HB := Lib.hid hcb
  clear hcn hcb
  unfold maxLen at hl hl2
  by_cases h1 : ss.length < 1
  · have d1 : decide ((ss.length : Int) < 1) = true := by simp; omega
    go_enter Try.func11, Try.ntmps11
    go_wp2
    go_ret
    exact ⟨by rw [err10 fun h => by have := h.1; omega]; rfl, (Below.refl _ _).alloc (Nat.le_refl _) _⟩
  have d1 : decide ((ss.length : Int) < 1) = false := by simp; omega
  by_cases h8 : 8 < ss.length
  · have d2 : decide ((8 : Int) < (ss.length : Int)) = true := by simp; omega
    go_enter Try.func11, Try.ntmps11
    go_wp2
    go_ret
    exact ⟨by rw [err10 fun h => by have := h.2.1; omega]; rfl, (Below.refl _ _).alloc (Nat.le_refl _) _⟩
  have d2 : decide ((8 : Int) < (ss.length : Int)) = false := by simp; omega
  obtain ⟨bn, offn, rfl, _, _⟩ := HN.out 0 _ (List.getElem?_eq_getElem (by omega))
  go_enter Try.func11, Try.ntmps11
  go_wp2
  have kb0 : Below w.heap.size w (w.alloc (Obj.cells #[Value.slice (some ⟨bn, offn, none⟩) ss.length capn, Value.slice ab ps.length capb, vp] 26)) := (Below.refl _ _).alloc (Nat.le_refl _) _
  have f0 := al_new w (Obj.cells #[Value.slice (some ⟨bn, offn, none⟩) ss.length capn, Value.slice ab ps.length capb, vp] 26)
  generalize w.alloc (Obj.cells #[Value.slice (some ⟨bn, offn, none⟩) ss.length capn, Value.slice ab ps.length capb, vp] 26) = w0 at kb0 f0
  have q0 := cell_of_row w0 w.heap.size 0 _ _ _ f0
  have q1 := cell_of_row w0 w.heap.size 1 _ _ _ f0
  have Q0 := Lib.hid q0
  have q2 := cell_of_row w0 w.heap.size 2 _ _ _ f0
  have Q1 := Lib.hid q1
  have Q2 := Lib.hid q2
  clear q0 q1 q2 f0
  go_loopw [3, 4] (fun i _ wr => ∃ k : Nat, k ≤ ss.length ∧ i = .int .i64 k ∧ Hp w0 wr ∧ (∀ (i : Nat) (x : ByteArray), i < k → ss[i]? = some x → nameB x = true) ∧ ∀ (i j : Nat) (x : ByteArray), i < k → j < i → ss[i]? = some x → ss[j]? ≠ some x) (fun i _ _ => ss.length - (intOf i).toNat)
  case atStart => exact ⟨0, by omega, rfl, Hp.refl _, fun i x h => by omega, fun i j x h => by omega⟩
  case round =>
    obtain ⟨k, hk, rfl, hh, hnm, hdf⟩ := hrel
    have HNM := Lib.hid hnm
    have HDF := Lib.hid hdf
    clear hnm hdf
    obtain ⟨wo, rfl⟩ : ∃ wo : World, wo = wr := ⟨_, rfl⟩
    have p0 := hh.cell Q0.out
    by_cases hlt : k < ss.length
    · obtain ⟨s, hx⟩ : ∃ x, ss[k]? = some x := ⟨_, List.getElem?_eq_getElem hlt⟩
      obtain ⟨b', off', hbb, c1, hsz⟩ := HN.out k _ hx
      cases hbb
      have HX := Lib.hid hx
      have C1 := Lib.hid (cellB kb0 c1)
      clear hx c1
      go_wp2
      go_loopw [4] (fun i wr => ∃ m : Nat, m ≤ k ∧ i = .int .i64 m ∧ Hp w0 wr ∧ ∀ j, j < m → ss[j]? ≠ some s) (fun i _ => k - (intOf i).toNat)
      case atStart => exact ⟨0, by omega, rfl, hh, fun j h => by omega⟩
      case round =>
        clear hh p0
        obtain ⟨m, hm, rfl, hh, hne⟩ := hrel
        have HE := Lib.hid hne
        clear hne
        have p0 := hh.cell Q0.out
        have e1 := hh.cell C1.out
        by_cases hlt2 : m < k
        · obtain ⟨t, hy⟩ : ∃ x, ss[m]? = some x := ⟨_, List.getElem?_eq_getElem (by omega)⟩
          obtain ⟨b', off', hbb, c2, ht⟩ := HN.out m _ hy
          cases hbb
          have e2 := hh.cell (cellB kb0 c2)
          have HY := Lib.hid hy
          clear hy c2
          have i1 : (k : Int) < (ss.length : Int) := by omega
          have i2 : (m : Int) < (ss.length : Int) := by omega
          cases g2 : (s.toList == t.toList)
          · go_wp2
            go_quiet (fail)
            go_wp2
            go_roundw
            case rel =>
              refine ⟨m + 1, by omega, by go_num, hh.drewN _, fun j hj => ?_⟩
              by_cases e : j < m
              · exact HE.out j e
              · obtain rfl : j = m := by omega
                rw [HY.out]
                intro h
                cases h
                rw [bytes_eq.2 rfl] at g2
                cases g2
            case measure => simp [intOf]; omega
          · go_wp2
            go_quiet (fail)
            go_wp2
            go_ret
            exact ⟨by rw [err10 fun h => h.2.2.2 k m s hlt2 HX.out (by rw [HY.out, bytes_eq.1 g2])]; rfl, bt kb0 (hh.drewN _).below⟩
        · cases g1 : nameB s
          · go_wp2_with (go_at_call 13; refine (rname_any _ _ hsz).mono ?_; rintro e w' ⟨rfl, rfl⟩)
            go_ret
            exact ⟨by rw [err10 fun h => by rw [h.2.2.1 k s HX.out] at g1; cases g1]; rfl, bt kb0 hh.below⟩
          · go_wp2_with (go_at_call 13; refine (rname_any _ _ hsz).mono ?_; rintro e w' ⟨rfl, rfl⟩)
            go_roundw
            case rel =>
              refine ⟨k + 1, by omega, by go_num, hh, fun i x hi hx => ?_, fun i j x hi hj hx => ?_⟩
              · by_cases e : i < k
                · exact HNM.out i x e hx
                · obtain rfl : i = k := by omega
                  rw [HX.out] at hx
                  cases hx
                  exact g1
              · by_cases e : i < k
                · exact HDF.out i j x e hj hx
                · obtain rfl : i = k := by omega
                  rw [HX.out] at hx
                  cases hx
                  exact HE.out j (by omega)
            case measure => simp [intOf]; omega
    · obtain rfl : k = ss.length := by omega
      have hNP : NamesP ss := ⟨by omega, by omega, fun i x h => HNM.out i x (List.getElem?_eq_some_iff.1 h).1 h, fun i j x hj h => HDF.out i j x (List.getElem?_eq_some_iff.1 h).1 hj h⟩
      have HNP := Lib.hid hNP
      clear hNP HNM HDF hk hlt
      have p1 := hh.cell Q1.out
      by_cases h64 : 64 < ps.length
      · have d3 : decide ((64 : Int) < (ps.length : Int)) = true := by simp; omega
        go_wp2
        go_ret
        exact ⟨by rw [err2 HNP.out (prB_long h64)]; rfl, bt kb0 hh.below⟩
      · have d3 : decide ((64 : Int) < (ps.length : Int)) = false := by simp; omega
        go_wp2
        go_loopw [5] (fun i wr => ∃ m : Nat, m ≤ ps.length ∧ i = .int .i64 m ∧ Hp w0 wr ∧ ∀ (i : Nat) (x : Int × Int), i < m → ps[i]? = some x → (inI x.1 ss.length && inI x.2 ss.length) = true) (fun i _ => ps.length - (intOf i).toNat)
        case atStart => exact ⟨0, by omega, rfl, hh, fun i x h => by omega⟩
        case round =>
          clear hh p0 p1
          obtain ⟨m, hm, rfl, hh, hall⟩ := hrel
          have HA := Lib.hid hall
          clear hall
          have p0 := hh.cell Q0.out
          have p1 := hh.cell Q1.out
          by_cases hlt : m < ps.length
          · obtain ⟨⟨x, y⟩, hx⟩ : ∃ x, ps[m]? = some x := ⟨_, List.getElem?_eq_getElem hlt⟩
            obtain ⟨b, off, rfl, c1, c2⟩ := HB.out m _ hx
            dsimp only at c1 c2
            have HX := Lib.hid hx
            clear hx
            have e1 := hh.cell (cellB kb0 c1)
            have e2 := hh.cell (cellB kb0 c2)
            clear c1 c2
            have i1 : (m : Int) < (ps.length : Int) := by omega
            by_cases x0 : x < 0
            · have t1 : decide (x < 0) = true := by simpa using x0
              go_wp2
              go_quiet (fail)
              go_wp2
              go_ret
              exact ⟨by rw [err2 HNP.out (prB_no HX.out (by simp [inI]; omega))]; rfl, bt kb0 (hh.drewN _).below⟩
            have t1 : decide (x < 0) = false := by simpa using x0
            by_cases y0 : y < 0
            · have t2 : decide (y < 0) = true := by simpa using y0
              go_wp2
              go_quiet (fail)
              go_wp2
              go_ret
              exact ⟨by rw [err2 HNP.out (prB_no HX.out (by simp [inI]; omega))]; rfl, bt kb0 (hh.drewN _).below⟩
            have t2 : decide (y < 0) = false := by simpa using y0
            by_cases x1 : (ss.length : Int) ≤ x
            · have t3 : decide ((ss.length : Int) ≤ x) = true := by simpa using x1
              go_wp2
              go_quiet (fail)
              go_wp2
              go_ret
              exact ⟨by rw [err2 HNP.out (prB_no HX.out (by simp [inI]; omega))]; rfl, bt kb0 (hh.drewN _).below⟩
            have t3 : decide ((ss.length : Int) ≤ x) = false := by simpa using x1
            by_cases y1 : (ss.length : Int) ≤ y
            · have t4 : decide ((ss.length : Int) ≤ y) = true := by simpa using y1
              go_wp2
              go_quiet (fail)
              go_wp2
              go_ret
              exact ⟨by rw [err2 HNP.out (prB_no HX.out (by simp [inI]; omega))]; rfl, bt kb0 (hh.drewN _).below⟩
            have t4 : decide ((ss.length : Int) ≤ y) = false := by simpa using y1
            go_wp2
            go_quiet (fail)
            go_wp2
            go_roundw
            case rel =>
              refine ⟨m + 1, by omega, by go_num, hh.drewN _, fun i z hi hz => ?_⟩
              by_cases hik : i < m
              · exact HA.out i z hik hz
              · obtain rfl : i = m := by omega
                rw [HX.out] at hz
                cases hz
                simp [inI]
                omega
            case measure => simp [intOf]; omega
          · obtain rfl : m = ps.length := by omega
            have hPR : prB ps ss.length = true := prB_yes (by omega) HA.out
            have HPR := Lib.hid hPR
            clear hPR HA hm hlt
            have p2 := hh.cell Q2.out
            have kw := bt kb0 hh.below
            go_wp2_with fail
            refine (table_any _ _ vp ss ps _ (hs.go kw) (hp.go kw) (by omega) (by omega) HPR.out).mono ?_
            rintro e w2 ⟨hb2, v, rfl, hT⟩
            have k2 := bt kw hb2
            have hFG : (∀ a b, a < ss.length → b < ss.length → Fine (cl ps ss.length) ss.length a b) → Good ss ps := good_of_fine HNP.out HPR.out
            have hGF : ∀ a b, a < ss.length → b < ss.length → ¬ Fine (cl ps ss.length) ss.length a b → errOf ss ps = 9 := fun a b ha hb hf => err9 HNP.out HPR.out fun hg => hf (fine_of_good hg a b ha hb)
            have HFG := Lib.hid hFG
            have HGF := Lib.hid hGF
            clear hFG hGF p0 p1 p2 hh kw hb2
            generalize cl ps ss.length = c at hT HFG HGF
            have HT := Lib.hid hT
            obtain ⟨gt, capt, R, C, rfl, htab⟩ := hT.form
            clear hT htab
            go_wp2_with fail
            go_loopw [7, 8] (fun i _ wr => ∃ a : Nat, a ≤ ss.length ∧ i = .int .i64 a ∧ Below w2.heap.size w2 wr ∧ ∀ x y, x < a → x < ss.length → y < ss.length → Fine c ss.length x y) (fun i _ _ => ss.length - (intOf i).toNat)
            case atStart => exact ⟨0, by omega, rfl, Below.refl _ _, fun x y h => by omega⟩
            case round =>
              obtain ⟨a, ha, rfl, kb, hall⟩ := hrel
              have HA := Lib.hid hall
              clear hall
              obtain ⟨wo, rfl⟩ : ∃ wo : World, wo = wr := ⟨_, rfl⟩
              by_cases hlt : a < ss.length
              · go_wp2
                go_loopw [8] (fun i wr => ∃ b : Nat, b ≤ ss.length ∧ i = .int .i64 b ∧ Below w2.heap.size w2 wr ∧ ∀ y, y < b → Fine c ss.length a y) (fun i _ => ss.length - (intOf i).toNat)
                case atStart => exact ⟨0, by omega, rfl, kb, fun y h => by omega⟩
                case round =>
                  clear kb
                  obtain ⟨b, hb, rfl, kb, hall⟩ := hrel
                  have HBl := Lib.hid hall
                  clear hall
                  by_cases hlt2 : b < ss.length
                  · have hTw := HT.out.go kb
                    obtain ⟨gt', capt', R', C', hv', htab⟩ := hTw.form
                    cases hv'
                    have ra := (htab a hlt).1
                    have rb := (htab b hlt2).1
                    have cab := (htab a hlt).2 b hlt2
                    have cba := (htab b hlt2).2 a hlt
                    clear htab
                    have HTw := Lib.hid hTw
                    clear hTw
                    by_cases hbad : a ≠ b ∧ c a b = true ∧ c b a = true
                    · have HBAD := Lib.hid hbad
                      obtain ⟨hne, g1, g2⟩ := hbad
                      have d5 := ne_cast hne
                      rw [g1] at cab
                      rw [g2] at cba
                      clear hne
                      go_wp2
                      go_ret
                      exact ⟨by rw [HGF.out a b hlt hlt2 fun h => h.anti HBAD.out]; rfl, bt k2 kb⟩
                    · have HBAD := Lib.hid hbad
                      have hways : ((a : Int) != (b : Int)) = false ∨ (((a : Int) != (b : Int)) = true ∧ c a b = false) ∨ (((a : Int) != (b : Int)) = true ∧ c a b = true ∧ c b a = false) := by
                        by_cases hne : a = b
                        · left; simp [hne]
                        · have hd := ne_cast hne
                          cases g1 : c a b
                          · exact .inr (.inl ⟨hd, rfl⟩)
                          · cases g2 : c b a
                            · exact .inr (.inr ⟨hd, rfl, rfl⟩)
                            · exact absurd ⟨hne, g1, g2⟩ hbad
                      clear hbad
                      have hjoin := rjoin_any _ c ss.length a b wr HTw.out (by omega) (by omega) hlt hlt2
                      have HJ := Lib.hid hjoin
                      clear hjoin
                      generalize hlj : joinsL c ss.length a b = lj at HJ
                      generalize hlm : joinsL (trn c) ss.length a b = lm
                      have HLJ := Lib.hid hlj
                      have HLM := Lib.hid hlm
                      clear hlj hlm
                      have hsz : lj.length ≤ 8 := by
                        have := List.length_filter_le (fun x => c a x && c b x && bbB c ss.length a b x) (List.range ss.length)
                        rw [← HLJ.out]
                        unfold joinsL
                        simp at this
                        omega
                      have hszm : lm.length ≤ 8 := by
                        have := List.length_filter_le (fun x => trn c a x && trn c b x && bbB (trn c) ss.length a b x) (List.range ss.length)
                        rw [← HLM.out]
                        unfold joinsL
                        simp at this
                        omega
                      rcases hways with d5 | ⟨d5, g1⟩ | ⟨d5, g1, g2⟩
                      all_goals
                        first | (rw [g1] at cab) | skip
                        first | (rw [g2] at cba) | skip
                        go_wp2_with fail
                        refine HJ.out.mono ?_
                        rintro e w3 ⟨hb3, v3, rfl, hi3⟩
                        obtain ⟨a3, cap3, rfl⟩ := ints_len hi3
                        clear hi3
                        have k3 := kb.trans (hb3.mono kb.size)
                        have hmeet := rmeet_any _ c ss.length a b w3 (HTw.out.go hb3) (by omega) (by omega) hlt hlt2
                        rw [HLM.out] at hmeet
                        have HM := Lib.hid hmeet
                        clear hmeet hb3
                        cases j1 : ((lj.length : Int) != 1)
                        · go_wp2_with fail
                          refine HM.out.mono ?_
                          rintro e w4 ⟨hb4, v4, rfl, hi4⟩
                          obtain ⟨a4, cap4, rfl⟩ := ints_len hi4
                          clear hi4
                          have k4 := k3.trans (hb4.mono k3.size)
                          cases j2 : ((lm.length : Int) != 1)
                          · go_wp2
                            go_roundw
                            case rel =>
                              refine ⟨b + 1, by omega, by go_num, k4, fun y hy => ?_⟩
                              by_cases e : y < b
                              · exact HBl.out y e
                              · obtain rfl : y = b := by omega
                                exact ⟨HBAD.out, by rw [HLJ.out]; exact one_cast j1, by rw [HLM.out]; exact one_cast j2⟩
                            case measure => simp [intOf]; omega
                          · go_wp2
                            go_ret
                            exact ⟨by rw [HGF.out a b hlt hlt2 fun h => by have := h.meet; rw [HLM.out] at this; rw [this] at j2; simp at j2]; rfl, bt k2 k4⟩
                        · go_wp2
                          go_ret
                          exact ⟨by rw [HGF.out a b hlt hlt2 fun h => by have := h.join; rw [HLJ.out] at this; rw [this] at j1; simp at j1]; rfl, bt k2 k3⟩
                  · obtain rfl : b = ss.length := by omega
                    go_wp2
                    go_roundw
                    case rel =>
                      refine ⟨a + 1, by omega, by go_num, kb, fun x y hx hx' hy => ?_⟩
                      by_cases e : x < a
                      · exact HA.out x y e hx' hy
                      · obtain rfl : x = a := by omega
                        exact HBl.out y hy
                    case measure => simp [intOf]; omega
              · obtain rfl : a = ss.length := by omega
                go_wp2
                go_ret
                exact ⟨by rw [err0 (HFG.out fun x y hx hy => HA.out x y hx hx hy)]; rfl, bt k2 kb⟩
end Lv
end Go.Proofs.Ytblmjhnkjbhdmaa
