/- What auth's Reach tells, of a lattice whose cells are known. -/
import Derived.Test.YtmfdclnepmgmlaaAuOver
namespace Go.Proofs.Ytmfdclnepmgmlaa
open Go.RowKit
namespace Lv
/-- the levels ahead of k over which one that is Over l has authority -/
def reachL (n : Nat) (r : Nat → Nat → Bool) (l : List Int) (k : Nat) : List Nat := (List.range k).filter fun a => covB n r l (a : Int)
theorem reachL_succ (n : Nat) (r : Nat → Nat → Bool) (l : List Int) (k : Nat) : reachL n r l (k + 1) = if covB n r l (k : Int) = true then reachL n r l k ++ [k] else reachL n r l k := by
  unfold reachL
  rw [List.range_succ, List.filter_append]
  cases h : covB n r l (k : Int) <;> simp [h]
theorem reachL_len (n : Nat) (r : Nat → Nat → Bool) (l : List Int) (k : Nat) : (reachL n r l k).length ≤ k := by
  have := List.length_filter_le (fun a : Nat => covB n r l (a : Int)) (List.range k)
  simpa [reachL] using this
theorem reachL_nil (n : Nat) (r : Nat → Nat → Bool) (k : Nat) : reachL n r [] k = [] := by
  unfold reachL covB
  simp
theorem own_go {w w1 : World} {base : Nat} {e : TypeId} {size n : Nat} {v : Value} {xs : List Value} (h : w.ownsRow base e size v n xs) (hb : Below w.heap.size w w1) : w1.ownsRow base e size v n xs := by
  refine ⟨h.1, ?_⟩
  rcases h.2 with h0 | ⟨k, cap, cur, hv, hb', hh, r⟩
  · exact .inl h0
  · exact .inr ⟨k, cap, cur, hv, hb', bkeep hb hh, r⟩
section
variable {g n : Nat} {nm : Nat → ByteArray} {r : Nat → Nat → Bool} {j m : Nat → Nat → Nat} {bo tp : Nat}
set_option maxHeartbeats 1000000 in
theorem reach_any (v : Value) (ps : List Prin) (s : ByteArray) (w : World) (hL : LatAt w g n nm r j m bo tp) (hn : n ≤ 8) (hp : PrinsAt w v ps) (hl : ps.length ≤ maxLen) :
    Calls Try.prog 16 #[.pointer (some ⟨g, 0, none⟩), v, .string s] w (IntsPost (reachL n r (overL ps s) n) w) := by
  cases hf : fnd ps s with
  | none =>
    go_enter Try.func16, Try.ntmps16
    go_wp2_with fail
    refine (find_any' v ps s _ hp hl).mono ?_
    rw [hf]
    rintro e w1 ⟨rfl, hb1⟩
    go_wp2
    go_ret
    exact ⟨hb1, _, rfl, .inl ⟨by rw [overL_none hf, reachL_nil], rfl⟩⟩
  | some k =>
    obtain ⟨l, hx⟩ := fnd_is hf
    have ho := overL_some hf hx
    have hk := (List.getElem?_eq_some_iff.1 hx).1
    obtain ⟨pa, cap, rfl, hcap, hc⟩ := hp.form
    obtain ⟨b, off, u, rfl, c1, c2, hu, hs⟩ := hc k _ hx
    clear hc hx
    dsimp only at ho c1 c2 hu
    obtain ⟨ua, ucap, rfl, hul, _⟩ := hu.form
    unfold maxLen at hul
    go_enter Try.func16, Try.ntmps16
    go_wp2_with fail
    refine (find_any' _ ps s _ hp hl).mono ?_
    rw [hf]
    rintro e w1 ⟨rfl, hb1⟩
    have HL1 := Lib.hid (hL.go hb1)
    unfold maxLen at hl
    clear hp
    dsimp only [fndN, Option.isSome]
    go_wp2_with (go_at_call 18; refine (size_any _ _ _ _ _ _ _ _ _ HL1.out).mono ?_; rintro e w' ⟨rfl, rfl⟩)
    go_loopw [9, 10, 21] (fun u _ i wr => ∃ c : Nat, c ≤ n ∧ i = .int .i64 c ∧ Below w.heap.size w wr ∧ wr.ownsRow w.heap.size 3 1 u (reachL n r l c).length ((reachL n r l c).map intV)) (fun _ _ i _ => n - (intOf i).toNat)
    case atStart => exact ⟨0, by omega, rfl, hb1, World.ownsRow_nil _ _ _ _⟩
    case round =>
      obtain ⟨c, hc, rfl, kb, hown⟩ := hrel
      have HO := Lib.hid hown
      clear hown
      by_cases hlt : c < n
      · have e1 := cellB kb c1
        have e2 := cellB kb c2
        have HU := Lib.hid (hu.go kb)
        have HL := Lib.hid (hL.go kb)
        have hj := reachL_succ n r l c
        have HJ := Lib.hid hj
        have hlen := reachL_len n r l c
        clear hj
        go_wp2_with fail
        refine (covers_any s _ l (c : Int) _ HL.out hn HU.out).mono ?_
        rintro e w2 ⟨rfl, hb2⟩
        have kb2 := bt kb hb2
        have HO2 := Lib.hid (own_go HO.out hb2)
        cases q : covB n r l (c : Int)
        · go_wp2
          go_roundw
          case rel => exact ⟨c + 1, by omega, by go_num, kb2, by rw [HJ.out, if_neg (by rw [q]; exact Bool.false_ne_true)]; exact HO2.out⟩
          case measure => simp [intOf]; omega
        · go_wp2_with (at_builtin; refine wpList_append1 rfl _ _ rfl w.heap.size u9 (reachL n r l c) c rfl rfl HO2.out (by omega) kb2.size ?_; intro v' w' hown' hgrow)
          go_roundw
          case rel => exact ⟨c + 1, by omega, by go_num, kb2.trans hgrow, by rw [HJ.out, if_pos q]; exact hown'⟩
          case measure => simp [intOf]; omega
      · obtain rfl : c = n := by omega
        go_wp2
        go_ret
        exact ⟨kb, _, rfl, by rw [ho]; exact ints_own HO.out⟩
end
end Lv
end Go.Proofs.Ytmfdclnepmgmlaa
