/- What auth's covers, Over and Reach tell, of a lattice whose cells are known. -/
import Derived.Test.YtmfdclnepmgmlaaAuFind
namespace Go.Proofs.Ytmfdclnepmgmlaa
open Go.RowKit
namespace Lv
/-- is the level a below one of l? -/
def covB (n : Nat) (r : Nat → Nat → Bool) (l : List Int) (a : Int) : Bool := l.any fun b => leqB n r a b
/-- the levels that the first one with a name is Over -/
def overL (ps : List Prin) (s : ByteArray) : List Int := match fnd ps s with
  | none => []
  | some k => (ps[k]?.map (·.2)).getD []
theorem overL_none {ps : List Prin} {s : ByteArray} (h : fnd ps s = none) : overL ps s = [] := by simp [overL, h]
theorem overL_some {ps : List Prin} {s : ByteArray} {k : Nat} {x : Prin} (h : fnd ps s = some k) (hx : ps[k]? = some x) : overL ps s = x.2 := by simp [overL, h, hx]
theorem covB_yes {n : Nat} {r : Nat → Nat → Bool} {l : List Int} {a x : Int} {k : Nat} (hx : l[k]? = some x) (h : leqB n r a x = true) : covB n r l a = true := by
  unfold covB
  rw [List.any_eq_true]
  exact ⟨x, List.mem_of_getElem? hx, h⟩
theorem covB_no {n : Nat} {r : Nat → Nat → Bool} {l : List Int} {a : Int} (h : ∀ i x, i < l.length → l[i]? = some x → leqB n r a x = false) : covB n r l a = false := by
  unfold covB
  rw [List.any_eq_false]
  intro x hx
  obtain ⟨i, hi⟩ := List.getElem?_of_mem hx
  rw [h i x (List.getElem?_eq_some_iff.1 hi).1 hi]
  decide
section
variable {g n : Nat} {nm : Nat → ByteArray} {r : Nat → Nat → Bool} {j m : Nat → Nat → Nat} {bo tp : Nat}
theorem LatAt.go {w w1 : World} (h : LatAt w g n nm r j m bo tp) (hb : Below w.heap.size w w1) : LatAt w1 g n nm r j m bo tp := bkeep hb h
set_option maxHeartbeats 1000000 in
theorem covers_any (s : ByteArray) (u : Value) (l : List Int) (a : Int) (w : World) (hL : LatAt w g n nm r j m bo tp) (hn : n ≤ 8) (hu : OverAt w u l) :
    Calls Try.prog 30 #[.pointer (some ⟨g, 0, none⟩), .agg #[.string s, u], .int .i64 a] w fun e w' => e = .returned (.bool (covB n r l a)) ∧ Below w.heap.size w w' := by
  obtain ⟨ua, ucap, rfl, hul, hc⟩ := hu.form
  unfold maxLen at hul
  have HC := Lib.hid hc
  clear hc hu
  have hb : Below w.heap.size w (w.alloc (Obj.cells #[Value.string s, Value.slice ua l.length ucap] 36)) := (Below.refl _ _).alloc (Nat.le_refl _) _
  have HL := Lib.hid (hL.go hb)
  clear hL
  go_enter Try.func30, Try.ntmps30
  go_wp2
  go_loop [8, 12] (fun _ i => ∃ k : Nat, k ≤ l.length ∧ i = .int .i64 k ∧ ∀ i x, i < k → l[i]? = some x → leqB n r a x = false) (fun _ i => l.length - (intOf i).toNat)
  case atStart => exact ⟨0, by omega, rfl, fun i x h => by omega⟩
  case round =>
    obtain ⟨k, hk, rfl, hno⟩ := hrel
    have HN := Lib.hid hno
    clear hno
    by_cases hlt : k < l.length
    · obtain ⟨x, hx⟩ : ∃ x, l[k]? = some x := ⟨_, List.getElem?_eq_getElem hlt⟩
      obtain ⟨b, off, rfl, c1⟩ := HC.out k _ hx
      have HX := Lib.hid hx
      clear hx
      have e1 := cellB hb c1
      have h0 := block_lt_of_cell c1
      clear c1
      dsimp only at e1 h0
      cases q : leqB n r a x
      · go_wp2_with (go_at_call 19; refine (leq_any _ _ _ _ _ _ _ _ _ _ _ HL.out hn).mono ?_; rintro e w' ⟨rfl, rfl⟩)
        go_round
        case rel =>
          refine ⟨k + 1, by omega, by go_num, fun i y hi hy => ?_⟩
          by_cases e : i < k
          · exact HN.out i y e hy
          · obtain rfl : i = k := by omega
            rw [HX.out] at hy
            cases hy
            exact q
        case measure => simp [intOf]; omega
      · go_wp2_with (go_at_call 19; refine (leq_any _ _ _ _ _ _ _ _ _ _ _ HL.out hn).mono ?_; rintro e w' ⟨rfl, rfl⟩)
        go_ret
        exact ⟨ret_bool (covB_yes HX.out q).symm, hb⟩
    · obtain rfl : k = l.length := by omega
      go_wp2
      go_ret
      exact ⟨ret_bool (covB_no HN.out).symm, hb⟩
set_option maxHeartbeats 1000000 in
theorem over_any (v : Value) (ps : List Prin) (s : ByteArray) (a : Int) (w : World) (hL : LatAt w g n nm r j m bo tp) (hn : n ≤ 8) (hp : PrinsAt w v ps) (hl : ps.length ≤ maxLen) :
    Calls Try.prog 17 #[.pointer (some ⟨g, 0, none⟩), v, .string s, .int .i64 a] w fun e w' => e = .returned (.bool (covB n r (overL ps s) a)) ∧ Below w.heap.size w w' := by
  cases hf : fnd ps s with
  | none =>
    go_enter Try.func17, Try.ntmps17
    go_wp2_with fail
    refine (find_any' v ps s _ hp hl).mono ?_
    rw [hf]
    rintro e w1 ⟨rfl, hb1⟩
    go_wp2
    go_ret
    exact ⟨ret_bool (by rw [overL_none hf]; rfl), hb1⟩
  | some k =>
    obtain ⟨l, hx⟩ := fnd_is hf
    have ho := overL_some hf hx
    have hk := (List.getElem?_eq_some_iff.1 hx).1
    obtain ⟨pa, cap, rfl, hcap, hc⟩ := hp.form
    obtain ⟨b, off, u, rfl, c1, c2, hu, hs⟩ := hc k _ hx
    clear hc hx
    dsimp only at ho c1 c2 hu
    obtain ⟨ua, ucap, rfl, hul, _⟩ := hu.form
    unfold maxLen at hul
    go_enter Try.func17, Try.ntmps17
    go_wp2_with fail
    refine (find_any' _ ps s _ hp hl).mono ?_
    rw [hf]
    rintro e w1 ⟨rfl, hb1⟩
    have e1 := cellB hb1 c1
    have e2 := cellB hb1 c2
    unfold maxLen at hl
    have HU := Lib.hid (hu.go hb1)
    have HP := Lib.hid hp
    have HL := Lib.hid (hL.go hb1)
    clear c1 c2 hu hp hL
    dsimp only [fndN, Option.isSome]
    go_wp2_with fail
    refine (covers_any s _ l a _ HL.out hn HU.out).mono ?_
    rintro e w2 ⟨rfl, hb2⟩
    go_wp2
    go_ret
    exact ⟨ret_bool (by rw [ho]), bt hb1 hb2⟩
end
end Lv
end Go.Proofs.Ytmfdclnepmgmlaa
