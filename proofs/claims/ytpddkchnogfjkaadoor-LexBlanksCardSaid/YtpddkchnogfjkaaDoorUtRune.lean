/- unicode/utf8.AppendRune by the library's contract; rows of bytes that grow. -/
import Derived.Test.YtpddkchnogfjkaaDoorUtMem
import Derived.Shelf.Utf8.AppendRunePlain
namespace Go.Proofs.YtpddkchnogfjkaaDoor
open Go.Shelf Go.RowKit
namespace Ut
def rune_ren : Go.Shelf.Ren := ⟨fun | 242 => 49 | 278 => 75 | n => n, fun | 37 => 26 | 21 => 21 | 51 => 90 | 4 => 4 | 5 => 5 | 46 => 70 | n => n, fun | n => n⟩
theorem rune_lays : Go.Proofs.Lays.n242 Tryd.prog rune_ren := {
  mixed := by kernel_rfl
  f242 := Tryd.func49.trans (congrArg some (by kernel_rfl))
  f278 := Tryd.func75.trans (congrArg some (by kernel_rfl))
  t4 := Tryd.underlying4
  a4 := Tryd.isAgg4
  z4 := Tryd.sizeOf4
  v4 := Tryd.zeroValue4
  t5 := Tryd.underlying5
  a5 := Tryd.isAgg5
  z5 := Tryd.sizeOf5
  v5 := Tryd.zeroValue5
  t21 := Tryd.underlying21
  a21 := Tryd.isAgg21
  z21 := Tryd.sizeOf21
  v21 := Tryd.zeroValue21
  t37 := Tryd.underlying26
  a37 := Tryd.isAgg26
  z37 := Tryd.sizeOf26
  v37 := Tryd.zeroValue26
  t46 := Tryd.underlying70
  a46 := Tryd.isAgg70
  z46 := Tryd.sizeOf70
  v46 := Tryd.zeroValue70
  t51 := Tryd.underlying90
  a51 := Tryd.isAgg90
  z51 := Tryd.sizeOf90
  v51 := Tryd.zeroValue90 }
/-- a slice of bytes of the call's own, behind block B -/
structure Buf (B : Nat) (w : World) (v : Value) (l : List Nat) : Prop where
  own : w.ownsRow B 5 1 v l.length (cel l)
  le : B ≤ w.heap.size
/-- a slice of bytes grows -/
structure Grew (B : Nat) (w : World) (w' : World) (v' : Value) (l : List Nat) : Prop where
  buf : Buf B w' v' l
  bel : Below B w w'
  iter : ∀ (k : Nat) (s : ByteArray) (pos : Nat), w.heap[k]? = some (Obj.stringIter s pos) → w'.heap[k]? = some (Obj.stringIter s pos)
theorem own_ne_it {w : World} {B e size n : Nat} {v : Value} {xs : List Value} {k : Nat} {s : ByteArray} {pos : Nat} (h : w.ownsRow B e size v n xs) (hk : w.heap[k]? = some (.stringIter s pos)) : some k ≠ v.ownBlock := by
  rcases h.2 with ⟨rfl, _⟩ | ⟨g, cap, cur, rfl, hb, hg, rest⟩
  · simp [Value.ownBlock]
  · intro e
    simp only [Value.ownBlock, Option.some.injEq] at e
    subst e
    rw [hk] at hg
    cases hg
theorem Buf.lt {B : Nat} {w : World} {v : Value} {l : List Nat} (h : Buf B w v l) : ∀ k, v.ownBlock = some k → B ≤ k := fun k hk => (h.own.lt k hk).1
theorem Buf.alloc {B : Nat} {w : World} {v : Value} {l : List Nat} (h : Buf B w v l) (o : Obj) : Buf B (w.alloc o) v l := ⟨h.own.alloc o, by have := h.le; simp; omega⟩
theorem Buf.grew {B : Nat} {w w' : World} {v v' : Value} {l m : List Nat} {o : Obj} {n : Nat} (h : Buf B w v l) (hn : n = l.length + m.length) (ho : w'.ownsRow B 5 1 v' n (cel l ++ cel m)) (hg : (w.alloc o).grownBy w' v.ownBlock) : Grew B w w' v' (l ++ m) := by
  have hb : Below B w w' := ((Below.refl B w).alloc h.le o).grown hg (by have := h.le; simp; omega) h.lt
  refine ⟨⟨?_, Nat.le_trans h.le hb.size⟩, hb, ?_⟩
  · rw [cel_app, List.length_append, ← hn]; exact ho
  · intro k s pos hk
    have hlt : k < w.heap.size := (Array.getElem?_eq_some_iff.1 hk).1
    exact (hg.block k (by simp; omega) (own_ne_it h.own hk)).trans ((Below.heap_alloc _ _ _ hlt).trans hk)
theorem Buf.grewD {B : Nat} {w w' : World} {v v' : Value} {l m : List Nat} {o : Obj} {n : Nat} (h : Buf B w v l) (hn : n = l.length + m.length) (ho : w'.ownsRow B 5 1 v' n (cel l ++ cel m)) (hg : (w.alloc o).drew.grownBy w' v.ownBlock) : Grew B w w' v' (l ++ m) := by
  have hb : Below B w w' := (((Below.refl B w).alloc h.le o).drew).grown hg (by have := h.le; simp; omega) h.lt
  refine ⟨⟨?_, Nat.le_trans h.le hb.size⟩, hb, ?_⟩
  · rw [cel_app, List.length_append, ← hn]; exact ho
  · intro k s pos hk
    have hlt : k < w.heap.size := (Array.getElem?_eq_some_iff.1 hk).1
    exact (hg.block k (by simp; omega) (own_ne_it h.own hk)).trans ((Below.heap_alloc _ _ _ hlt).trans hk)
theorem rune_put {c : Nat} (hc : Sg c) : Lib.runeCells (c : Int) = cel (put c) := by
  unfold Lib.runeCells
  unfold Sg at hc
  rcases put_cases c with ⟨h1, h⟩ | ⟨h1, h2, h⟩ | ⟨h1, h2, h⟩ | ⟨h1, h⟩ <;> rw [h]
  · rw [Lib.encodeRuneZ_one (by omega) (by omega)]; rfl
  · rw [Lib.encodeRuneZ_two (by omega) (by omega)]; rfl
  · rw [Lib.encodeRuneZ_three (by omega)]; rfl
  · rw [Lib.encodeRuneZ_four (by omega) (by omega)]; rfl
/-- AppendRune of a sign -/
theorem rune_any {B : Nat} {v : Value} {l : List Nat} {c : Nat} {w : World} (h : Buf B w v l) (hc : Sg c) (hl : l.length ≤ 1000000000000) :
    Calls Tryd.prog 49 #[v, .int .i32 (c : Nat)] w fun e w' => ∃ v', e = .returned v' ∧ Grew B w w' v' (l ++ put c) := by
  have hc' := hc
  unfold Sg at hc'
  refine (Any.utf8_AppendRune_plain rune_lays (by kernel_rfl) B v l.length (cel l) (c : Nat) (by omega) (by omega) w h.own (by omega) h.le).mono ?_
  rintro e w' ⟨v', rfl, ho, o, hg⟩
  rw [rune_put hc, cel_len] at ho
  exact ⟨v', rfl, h.grew rfl ho hg⟩
/-- AppendRune of a surrogate: whatever it puts -/
theorem rune_bad {B : Nat} {v : Value} {l : List Nat} {c : Nat} {w : World} (h : Buf B w v l) (hc : c < 1114112) (hl : l.length ≤ 1000000000000) :
    Calls Tryd.prog 49 #[v, .int .i32 (c : Nat)] w fun e w' => ∃ v' m, e = .returned v' ∧ m.length ≤ 4 ∧ (Sg c → m = put c) ∧ (55296 ≤ c → c < 57344 → m.length ≤ 3) ∧ Grew B w w' v' (l ++ m) := by
  refine (Any.utf8_AppendRune_plain rune_lays (by kernel_rfl) B v l.length (cel l) (c : Nat) (by omega) (by omega) w h.own (by omega) h.le).mono ?_
  rintro e w' ⟨v', rfl, ho, o, hg⟩
  by_cases hs : Sg c
  · rw [rune_put hs, cel_len] at ho
    exact ⟨v', put c, rfl, (put_len c).2, fun _ => rfl, fun h1 h2 => by unfold Sg at hs; omega, h.grew rfl ho hg⟩
  · have e : Lib.runeCells (c : Int) = cel [239, 191, 189] := by
      unfold Lib.runeCells
      unfold Sg at hs
      rw [Lib.encodeRuneZ_bad (by omega)]; rfl
    rw [e, cel_len] at ho
    exact ⟨v', _, rfl, by simp, fun h => absurd h hs, fun _ _ => by simp, h.grew rfl ho hg⟩
end Ut
end Go.Proofs.YtpddkchnogfjkaaDoor
