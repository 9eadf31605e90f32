/- What appendQuoted and Quote answer, of every string. -/
import Derived.Test.YtbolnciofcmoaaaUtQuoLow
import Derived.Lib.OthersKept
namespace Go.Proofs.Ytbolnciofcmoaaa
open Go.RowKit
namespace Ut
theorem lt32 {c : Nat} (h : c < 32) : c = 0 ∨ c = 1 ∨ c = 2 ∨ c = 3 ∨ c = 4 ∨ c = 5 ∨ c = 6 ∨ c = 7 ∨ c = 8 ∨ c = 9 ∨ c = 10 ∨ c = 11 ∨ c = 12 ∨ c = 13 ∨ c = 14 ∨ c = 15 ∨ c = 16 ∨ c = 17 ∨ c = 18 ∨ c = 19 ∨ c = 20 ∨ c = 21 ∨ c = 22 ∨ c = 23 ∨ c = 24 ∨ c = 25 ∨ c = 26 ∨ c = 27 ∨ c = 28 ∨ c = 29 ∨ c = 30 ∨ c = 31 := by omega
set_option maxRecDepth 100000 in
theorem appq_any (c : Nat) (hc : Sg c) (B : Nat) (v : Value) (l : List Nat) (w : World) (h : Buf B w v l) (hl : l.length ≤ 100000000000) :
    Calls Try.prog 20 #[v, .int .i32 (c : Nat)] w fun e w' => ∃ v', e = .returned v' ∧ Grew B w w' v' (l ++ quo c) := by
  by_cases h32 : c < 32
  · rcases lt32 h32 with rfl | rfl | rfl | rfl | rfl | rfl | rfl | rfl | rfl | rfl | rfl | rfl | rfl | rfl | rfl | rfl | rfl | rfl | rfl | rfl | rfl | rfl | rfl | rfl | rfl | rfl | rfl | rfl | rfl | rfl | rfl | rfl
    · exact appq_0 B v l w h hl
    · exact appq_1 B v l w h hl
    · exact appq_2 B v l w h hl
    · exact appq_3 B v l w h hl
    · exact appq_4 B v l w h hl
    · exact appq_5 B v l w h hl
    · exact appq_6 B v l w h hl
    · exact appq_7 B v l w h hl
    · exact appq_8 B v l w h hl
    · exact appq_9 B v l w h hl
    · exact appq_10 B v l w h hl
    · exact appq_11 B v l w h hl
    · exact appq_12 B v l w h hl
    · exact appq_13 B v l w h hl
    · exact appq_14 B v l w h hl
    · exact appq_15 B v l w h hl
    · exact appq_16 B v l w h hl
    · exact appq_17 B v l w h hl
    · exact appq_18 B v l w h hl
    · exact appq_19 B v l w h hl
    · exact appq_20 B v l w h hl
    · exact appq_21 B v l w h hl
    · exact appq_22 B v l w h hl
    · exact appq_23 B v l w h hl
    · exact appq_24 B v l w h hl
    · exact appq_25 B v l w h hl
    · exact appq_26 B v l w h hl
    · exact appq_27 B v l w h hl
    · exact appq_28 B v l w h hl
    · exact appq_29 B v l w h hl
    · exact appq_30 B v l w h hl
    · exact appq_31 B v l w h hl
  by_cases h34 : c = 34
  · subst h34; exact appq_34 B v l w h hl
  by_cases h92 : c = 92
  · subst h92; exact appq_92 B v l w h hl
  rw [quo_put h32 h34 h92]
  have hr := fun w (h : Buf B w v l) => rune_any h hc (by omega)
  have HB := Lib.hid h
  clear h
  have e34 : ((c : Int) == 34) = false := by simp; omega
  have e92 : ((c : Int) == 92) = false := by simp; omega
  have e8 : ((c : Int) == 8) = false := by simp; omega
  have e9 : ((c : Int) == 9) = false := by simp; omega
  have e10 : ((c : Int) == 10) = false := by simp; omega
  have e12 : ((c : Int) == 12) = false := by simp; omega
  have e13 : ((c : Int) == 13) = false := by simp; omega
  go_enter Try.func20, Try.ntmps20
  go_wp2_with (go_at_call 23; refine (hr _ HB.out).mono ?_; rintro e w' ⟨v', rfl, hg⟩)
  go_ret
  exact ⟨_, rfl, hg⟩
/-- what Quote answers -/
def quoV : Option (List Nat) → Value
  | none => .tuple #[.string ByteArray.empty, .int .i64 7]
  | some cs => .tuple #[.string (str (quoted cs)), .int .i64 0]
theorem quoV_eq {cs : List Nat} {l : List Nat} {o : Option (List Nat)} (h : o = some cs) (hl : l = quoted cs) : Ending.returned (.tuple #[.string (str l), .int .i64 0]) = .returned (quoV o) := by rw [h, hl]; rfl
theorem Buf.iterAt {B : Nat} {w : World} {v : Value} {l : List Nat} {k : Nat} {s : ByteArray} {pos : Nat} (h : Buf B w v l) (hk : w.heap[k]? = some (Obj.stringIter s pos)) (pos' : Nat) : Buf B (w.iterAt k s pos') v l := by
  refine ⟨⟨h.own.1, ?_⟩, by rw [Lib.iterAt_size]; exact h.le⟩
  rcases h.own.2 with h0 | ⟨g, cap, cur, hv, hb, hg, rest⟩
  · exact .inl h0
  · refine .inr ⟨g, cap, cur, hv, hb, ?_, rest⟩
    rw [Lib.iterAt_other _ _ _ _ _ (fun e => by subst e; rw [hk] at hg; cases hg)]
    exact hg
/-- how far Quote has come -/
structure QuoRel (s : ByteArray) (w : World) (it : Nat) (pos : Nat) (cs : List Nat) (v : Value) (wr : World) : Prop where
  rd : Read s pos cs
  buf : Buf w.heap.size wr v (34 :: quos cs)
  it : wr.heap[it]? = some (Obj.stringIter s pos)
  bel : Below w.heap.size w wr
set_option maxRecDepth 100000 in
set_option maxHeartbeats 2000000 in
theorem quote_any (s : ByteArray) (w : World) (hs : s.size ≤ 1000000000) :
    Calls Try.prog 14 #[.string s] w fun e w' => e = .returned (quoV (sigs (byt s))) ∧ Below w.heap.size w w' := by
  have hv := valid_any s w (by unfold maxLen; omega)
  obtain ⟨i0, hi, hz0, hz1, hz2⟩ := info_parts info_b
  cases hg : sigs (byt s) with
  | none =>
    rw [vldB_none hg] at hv
    clear hg
    go_enter Try.func14, Try.ntmps14
    go_wp2_with (go_at_call 11; refine hv.mono ?_; rintro e w' ⟨rfl, rfl⟩)
    go_ret2
    exact ⟨rfl, Below.refl _ _⟩
  | some cs' =>
    rw [vldB_some hg] at hv
    have HG := Lib.hid hg
    clear hg
    obtain ⟨W0, hmk, hown0, hg0⟩ := run_make_own (P := Try.prog) w w.heap.size 26 5 i0 _ 1 Try.underlying26 hi hz0 hz1 .i64 .i64 (s.size + 2) (by rw [hz2]; omega) (by unfold maxLen; omega) (Nat.le_refl _)
    have hb0 : Below w.heap.size w W0 := (Below.refl _ _).grown hg0 (Nat.le_refl _) (fun k hk => by simp at hk)
    have HB : Hid (Buf w.heap.size W0 (.slice (some ⟨w.heap.size, 0, none⟩) 0 (s.size + 2)) []) := Lib.hid ⟨hown0, hb0.size⟩
    have HB0 := Lib.hid hb0
    clear hown0 hg0 hb0
    rw [show ((s.size + 2 : Nat) : Int) = (s.size : Int) + 2 by omega] at hmk
    go_enter Try.func14, Try.ntmps14
    go_wp2_with (first | (go_at_call 11; refine hv.mono ?_; rintro e w' ⟨rfl, rfl⟩) | (at_builtin; refine wpList_append_own _ rfl _ _ 26 rfl w.heap.size 5 i0 (.int .u8 0) 1 1 Try.underlying26 hi hz0 hz1 hz2 rfl (by decide) _ _ _ rfl (HB.out.own.alloc _) ⟨W0.heap.size, 0, none⟩ 1 1 (cel [34]) rfl rfl ?c1 ?c2 ?c3 ?c4 ?c5 ?c6))
    case c1 => exact cells_put W0 _
    case c2 => exact cel_one _
    case c3 => decide
    case c4 => decide
    case c5 => have := HB.out.le; simp; omega
    case c6 =>
      intro v1 w2 hown1 hgrow1 _
      have HG1 := Lib.hid (HB.out.grew rfl hown1 hgrow1)
      clear hown1 hgrow1
      go_wp2
      go_loopw [4, 6] (fun v _ wr => ∃ (pos : Nat) (cs : List Nat), QuoRel s w w2.heap.size pos cs v wr) (fun _ _ wr => s.size - wr.iterPos w2.heap.size)
      case atStart =>
        exact ⟨0, [], Read.start s, HG1.out.buf.alloc _, World.iter_heap w2 s 0, (HB0.out.trans HG1.out.bel).alloc HG1.out.buf.le _⟩
      case round =>
        obtain ⟨pos, cs, hr⟩ := hrel
        have HR := Lib.hid hr
        have hle := hr.rd.le
        have hlen := hr.rd.len.1
        have hql := quos_len cs
        have hit := hr.it
        clear hr
        by_cases hp : pos < s.size
        · obtain ⟨c, r, hc, hcs, _, hr2, hd⟩ := HR.out.rd.next hp HG.out
          have hpl := put_len c
          have hnx : ∀ ty, (Instr.next (.pointer (some ⟨w2.heap.size, 0, none⟩)) true ty).run Try.prog wr = .ok (.tuple #[.bool true, .int .i64 pos, .int .i32 (c : Nat)]) (wr.iterAt w2.heap.size s (pos + (put c).length)) := fun ty => by
            have := Lib.run_next_any_at (P := Try.prog) wr w2.heap.size s pos ty hit hp
            rw [hd] at this; exact this
          have hap := appq_any c hc w.heap.size _ _ _ (HR.out.buf.iterAt hit (pos + (put c).length)) (by simp; omega)
          clear hd hcs
          have hit2 := Lib.iterAt_heap wr w2.heap.size s pos (pos + (put c).length) hit
          have HIT := Lib.hid hit2
          have HR2 := Lib.hid hr2
          clear hit hit2 hr2
          go_wp2_with (go_at_call 20; refine hap.mono ?_; rintro e w' ⟨v', rfl, hg⟩)
          have hit3 := hg.iter _ _ _ HIT.out
          go_roundw
          case rel =>
            refine ⟨_, cs ++ [c], HR2.out, ?_, hit3, (Lib.below_iterAt HR.out.bel (Nat.le_trans HB.out.le HG1.out.bel.size) _ _).trans hg.bel⟩
            rw [quos_snoc]
            exact hg.buf
          case measure =>
            have e1 : wr.iterPos w2.heap.size = pos := by unfold World.iterPos; rw [HR.out.it]
            have e2 : w'.iterPos w2.heap.size = pos + (put c).length := by unfold World.iterPos; rw [hit3]
            rw [e1, e2]; omega
        · have hnx : ∀ ty, (Instr.next (.pointer (some ⟨w2.heap.size, 0, none⟩)) true ty).run Try.prog wr = _ := fun ty => Lib.run_next_end_at wr w2.heap.size s pos ty hit hp
          have HD := Lib.hid (HR.out.rd.done hp)
          clear hit
          go_wp2_with (at_builtin; refine wpList_append_own _ rfl _ _ 26 rfl w.heap.size 5 i0 (.int .u8 0) 1 1 Try.underlying26 hi hz0 hz1 hz2 rfl (by decide) _ _ _ rfl (HR.out.buf.own.alloc _) ⟨wr.heap.size, 0, none⟩ 1 1 (cel [34]) rfl rfl ?d1 ?d2 ?d3 ?d4 ?d5 ?d6)
          case d1 => exact cells_put wr _
          case d2 => exact cel_one _
          case d3 => simp; unfold maxLen; omega
          case d4 => simp; omega
          case d5 => have := HR.out.buf.le; simp; omega
          case d6 =>
            intro v3 w3 hown3 hgrow3 _
            have hg3 := HR.out.buf.grew (m := [34]) rfl hown3 hgrow3
            have hcv := conv_own hg3.buf.own
            clear hown3 hgrow3
            go_wp2
            go_ret2
            refine ⟨quoV_eq (HG.out.symm.trans HD.out |>.symm ▸ rfl) rfl, HR.out.bel.trans hg3.bel⟩
end Ut
end Go.Proofs.Ytbolnciofcmoaaa
