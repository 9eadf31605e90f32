/- node: values with labels in memory, read as data. -/
import Derived.Test.YtelladgeehlkpaaPb
namespace Go.Proofs.Ytelladgeehlkpaa
open Go.RowKit
namespace Nd
open _root_.Go.Proofs.Ytelladgeehlkpaa.Nm _root_.Go.Proofs.Ytelladgeehlkpaa.Jv
/-- a node as data -/
inductive NV where
  | mk (la de k c s : Int) (st : ByteArray) (items : List NV) (keys : List ByteArray)
def NV.la : NV → Int | .mk a _ _ _ _ _ _ _ => a
def NV.de : NV → Int | .mk _ d _ _ _ _ _ _ => d
def NV.k : NV → Int | .mk _ _ k _ _ _ _ _ => k
def NV.c : NV → Int | .mk _ _ _ c _ _ _ _ => c
def NV.s : NV → Int | .mk _ _ _ _ s _ _ _ => s
def NV.st : NV → ByteArray | .mk _ _ _ _ _ st _ _ => st
def NV.items : NV → List NV | .mk _ _ _ _ _ _ i _ => i
def NV.keys : NV → List ByteArray | .mk _ _ _ _ _ _ _ ks => ks
/-- a node: its label, its Deep, its kind, its number, its text, its items, its keys -/
def nV (la de k c s : Int) (st : ByteArray) (items keys : Value) : Value := .agg #[.int .i64 la, .int .i64 de, .int .i64 k, .int .i64 c, .int .i64 s, .string st, items, keys]
/-- the eight cells of a node -/
structure Eight where
  la : Int
  de : Int
  k : Int
  c : Int
  s : Int
  st : ByteArray
  iv : Value
  kv : Value
def Eight.cells (x : Eight) : List Value := [.int .i64 x.la, .int .i64 x.de, .int .i64 x.k, .int .i64 x.c, .int .i64 x.s, .string x.st, x.iv, x.kv]
def Eight.val (x : Eight) : Value := nV x.la x.de x.k x.c x.s x.st x.iv x.kv
theorem Eight.cells_len (x : Eight) : x.cells.length = 8 := rfl
/-- the eight cells stand at a place -/
def At8 (w : World) (b p : Nat) (x : Eight) : Prop :=
  w.cell? ⟨b, p, none⟩ = some (.int .i64 x.la) ∧ w.cell? ⟨b, p + 1, none⟩ = some (.int .i64 x.de) ∧ w.cell? ⟨b, p + 2, none⟩ = some (.int .i64 x.k) ∧ w.cell? ⟨b, p + 3, none⟩ = some (.int .i64 x.c) ∧ w.cell? ⟨b, p + 4, none⟩ = some (.int .i64 x.s) ∧
  w.cell? ⟨b, p + 5, none⟩ = some (.string x.st) ∧ w.cell? ⟨b, p + 6, none⟩ = some x.iv ∧ w.cell? ⟨b, p + 7, none⟩ = some x.kv
theorem At8.on {a w : World} {b p : Nat} {x : Eight} (h : At8 a b p x) (hk : b < a.heap.size) (hb : Below a.heap.size a w) : At8 w b p x := by
  obtain ⟨h0, h1, h2, h3, h4, h5, h6, h7⟩ := h
  exact ⟨(hb.cell (p := ⟨b, _, none⟩) hk).trans h0, (hb.cell (p := ⟨b, _, none⟩) hk).trans h1, (hb.cell (p := ⟨b, _, none⟩) hk).trans h2,
    (hb.cell (p := ⟨b, _, none⟩) hk).trans h3, (hb.cell (p := ⟨b, _, none⟩) hk).trans h4, (hb.cell (p := ⟨b, _, none⟩) hk).trans h5, (hb.cell (p := ⟨b, _, none⟩) hk).trans h6, (hb.cell (p := ⟨b, _, none⟩) hk).trans h7⟩
/-- a slice of nodes that reads as a list; its first cell may be compared -/
def Ns (w : World) (v : Value) (l : List Eight) : Prop :=
  ∃ ao cap, v = .slice ao l.length cap ∧ l.length ≤ cap ∧ cap ≤ maxLen ∧ (ao = none → cap = 0) ∧ (0 < l.length → ∃ k o, ao = some ⟨k, o, none⟩ ∧ k < w.heap.size ∧ w.frozen? ⟨k, o, none⟩ = false ∧ ∀ j x, l[j]? = some x → At8 w k (o + j * 8) x)
theorem Ns.nil0 (w : World) : Ns w (.slice none 0 0) [] := ⟨_, 0, rfl, Nat.le_refl _, by decide, fun _ => rfl, fun h => absurd h (by simp)⟩
theorem Ns.on {a b : World} {v : Value} {l : List Eight} (h : Ns a v l) (hb : Below a.heap.size a b) : Ns b v l := by
  obtain ⟨ao, cap, h1, h2, h3, h4, h⟩ := h
  exact ⟨ao, cap, h1, h2, h3, h4, fun h0 => by
    obtain ⟨k, o, h5, hk, hf, h⟩ := h h0
    exact ⟨k, o, h5, Nat.lt_of_lt_of_le hk hb.size, (hb.frozen (p := ⟨k, o, none⟩) hk).trans hf, fun j d hj => (h j d hj).on hk hb⟩⟩
theorem Ns.form {w : World} {v : Value} {l : List Eight} (h : Ns w v l) : ∃ ao cap, v = .slice ao l.length cap ∧ l.length ≤ cap ∧ (0 < l.length → ∃ k o, ao = some ⟨k, o, none⟩ ∧ k < w.heap.size ∧ w.frozen? ⟨k, o, none⟩ = false ∧ ∀ j x, l[j]? = some x → At8 w k (o + j * 8) x) := by
  obtain ⟨ao, cap, h1, h2, _, _, h⟩ := h
  exact ⟨ao, cap, h1, h2, h⟩
/-- labels that memory can hold -/
def Bl (la de : Int) : Prop := (-9223372036854775808 ≤ la ∧ la < 9223372036854775808) ∧ (-9223372036854775808 ≤ de ∧ de < 9223372036854775808)
/-- a node in memory reads as data, in at most n steps -/
def NT (w : World) : Nat → Eight → NV → Prop
  | 0, _, _ => False
  | n + 1, x, t => x.la = t.la ∧ x.de = t.de ∧ x.k = t.k ∧ x.c = t.c ∧ x.s = t.s ∧ x.st = t.st ∧ Ks w x.kv t.keys ∧ Bd x.k x.c x.s x.st t.keys ∧ Bl x.la x.de ∧
      ∃ l : List Eight, Ns w x.iv l ∧ l.length = t.items.length ∧ ∀ (j : Nat) (y : Eight) (z : NV), l[j]? = some y → t.items[j]? = some z → NT w n y z
theorem NT.on {a b : World} (hb : Below a.heap.size a b) : ∀ (n : Nat) {x : Eight} {t : NV}, NT a n x t → NT b n x t
  | 0, _, _, h => h.elim
  | n + 1, _, _, ⟨h1, h2, h3, h4, h5, h5', h5a, hb1, hb2, l, h6, h7, h8⟩ => ⟨h1, h2, h3, h4, h5, h5', h5a.on hb, hb1, hb2, l, h6.on hb, h7, fun j y z hy hz => NT.on hb n (h8 j y z hy hz)⟩
theorem NT.mono {w : World} : ∀ (n : Nat) {m : Nat} {x : Eight} {t : NV}, n ≤ m → NT w n x t → NT w m x t
  | 0, _, _, _, _, h => h.elim
  | n + 1, 0, _, _, hm, _ => absurd hm (by omega)
  | n + 1, m + 1, _, _, hm, ⟨h1, h2, h3, h4, h5, h5', h5a, hb1, hb2, l, h6, h7, h8⟩ => ⟨h1, h2, h3, h4, h5, h5', h5a, hb1, hb2, l, h6, h7, fun j y z hy hz => NT.mono n (by omega) (h8 j y z hy hz)⟩
/-- a block that holds nodes -/
def Wb (w : World) (k : Nat) (cs : Array Value) : Prop := w.heap[k]? = some (.cells cs 27 (0, 0))
section
variable {w a b : World} {k : Nat} {cs : Array Value}
theorem Wb.lt (h : Wb w k cs) : k < w.heap.size := (Array.getElem?_eq_some_iff.1 h).1
theorem Wb.new (w : World) (cs : Array Value) : Wb (w.alloc (.cells cs 27)) w.heap.size cs := heap_alloc_new w _
theorem Wb.on (h : Wb a k cs) (hb : Below a.heap.size a b) : Wb b k cs := (hb.block k h.lt).trans h
theorem Wb.alloc (h : Wb a k cs) (o : Obj) : Wb (a.alloc o) k cs := h.on (bA1 a o)
theorem Wb.set (h : Wb a k cs) (i : Nat) (u : Value) : Wb (a.setCell ⟨k, i, none⟩ u) k (cs.setIfInBounds i u) := by
  unfold Wb at h ⊢
  simp [World.setCell, Array.getElem?_modify, h]
theorem Wb.cell (h : Wb w k cs) (i : Nat) : w.cell? ⟨k, i, none⟩ = cs[i]? := cell_of_row w k i cs _ _ h
theorem Wb.free (h : Wb w k cs) (i : Nat) : w.frozen? ⟨k, i, none⟩ = false := by
  unfold Wb at h
  simp [World.frozen?, h]
theorem Wb.eight {x0 x1 x2 x3 x4 x5 x6 x7 : Value} (h : Wb w k #[x0, x1, x2, x3, x4, x5, x6, x7]) : w.cell? ⟨k, 0, none⟩ = some x0 ∧ w.cell? ⟨k, 1, none⟩ = some x1 ∧ w.cell? ⟨k, 2, none⟩ = some x2 ∧ w.cell? ⟨k, 3, none⟩ = some x3 ∧ w.cell? ⟨k, 4, none⟩ = some x4 ∧ w.cell? ⟨k, 5, none⟩ = some x5 ∧ w.cell? ⟨k, 6, none⟩ = some x6 ∧ w.cell? ⟨k, 7, none⟩ = some x7 :=
  ⟨h.cell 0, h.cell 1, h.cell 2, h.cell 3, h.cell 4, h.cell 5, h.cell 6, h.cell 7⟩
end
end Nd
end Go.Proofs.Ytelladgeehlkpaa
namespace Go.Proofs.Ytelladgeehlkpaa
open Go.RowKit
namespace Nd
open _root_.Go.Proofs.Ytelladgeehlkpaa.Nm _root_.Go.Proofs.Ytelladgeehlkpaa.Jv
/-- is nothing deeper than so? (one more than the document counts) -/
def flatB : Nat → NV → Bool
  | 0, _ => false
  | n + 1, t => t.items.all (flatB n)
mutual
/-- how many values there are -/
def NV.cnt : NV → Nat
  | .mk _ _ _ _ _ _ items _ => 1 + cntL items
def cntL : List NV → Nat
  | [] => 0
  | x :: xs => x.cnt + cntL xs
end
theorem cnt_is (t : NV) : t.cnt = 1 + cntL t.items := by obtain ⟨la, de, k, c, s, st, i, ks⟩ := t; simp [NV.cnt, NV.items]
theorem cntL_snoc (l : List NV) (x : NV) : cntL (l ++ [x]) = cntL l + x.cnt := by
  induction l with
  | nil => simp [cntL]
  | cons y l ih => simp [cntL, ih]; omega
theorem cntL_len (l : List NV) : l.length ≤ cntL l := by
  induction l with
  | nil => simp
  | cons y l ih => have := cnt_is y; simp [cntL]; omega
theorem cntL_le (l : List NV) (x : NV) (h : x ∈ l) : x.cnt ≤ cntL l := by
  induction l with
  | nil => simp at h
  | cons y l ih =>
    simp only [List.mem_cons] at h
    rcases h with rfl | h
    · simp [cntL]
    · have := ih h; simp [cntL]; omega
/-- a value whose box stands in memory -/
theorem Wb.newS (w : World) (x : Eight) : Wb (w.alloc (.cells x.cells.toArray 27)) w.heap.size x.cells.toArray := Wb.new w _
set_option maxRecDepth 100000 in
set_option maxHeartbeats 2000000 in
theorem flat_any : ∀ (m n : Nat) (x : Eight) (t : NV) (d : Int) (w : World), d = (m : Int) - 1 → m ≤ 1000 → NT w n x t →
    Calls Try.prog 20 #[x.val, .int .i64 d] w fun e w' => e = .returned (.bool (flatB m t)) ∧ Below w.heap.size w w' := by
  intro m
  induction m with
  | zero =>
    intro n x t d w hd hm hv
    subst hd
    have hf : flatB 0 t = false := rfl
    rw [hf]
    unfold Eight.val nV
    go_enter Try.func20, Try.ntmps20
    go_wp2_with fail
    go_ret
    exact ⟨rfl, bA1 _ _⟩
  | succ m ih =>
    intro n x t d w hd hm hv
    obtain ⟨b, hb⟩ : ∃ b, flatB (m + 1) t = b := ⟨_, rfl⟩
    rw [hb]
    have HB := Lib.hid hb
    have h0 : 0 ≤ d := by omega
    have h1 : d ≤ 1000 := by omega
    have HD := Lib.hid hd
    have IH := Lib.hid ih
    clear hb hd ih
    cases n with
    | zero => exact hv.elim
    | succ n =>
    obtain ⟨ea, ed, e1, e2, e3, e4, e5, hB, hBl, l, hl, hll, hlt⟩ := hv
    obtain ⟨la, de, k, c, s, st, iv, kv⟩ := x
    obtain ⟨ao, cap, rfl, hc, h⟩ := hl.form
    have hmx : l.length ≤ maxLen := by obtain ⟨_, _, q1, q2, q3, _⟩ := hl; omega
    unfold maxLen at hmx
    have H := Lib.hid h
    have HL := Lib.hid hll
    have HT := Lib.hid hlt
    clear h hll hlt ea ed e1 e2 e3 e4 e5 hB hBl hl
    unfold Eight.val nV
    go_enter Try.func20, Try.ntmps20
    have hnd : ¬ d < 0 := by omega
    have hnd2 : decide (d < 0) = false := by simp; omega
    go_wp2_with fail
    go_loopw [5] (fun i wr => ∃ j : Nat, i = .int .i64 (j : Nat) ∧ j ≤ l.length ∧ Hid (Wb wr w.heap.size #[.int .i64 la, .int .i64 de, .int .i64 k, .int .i64 c, .int .i64 s, .string st, .slice ao l.length cap, kv]) ∧ Hid (Below w.heap.size w wr) ∧ Hid (∀ p z, p < j → t.items[p]? = some z → flatB m z = true)) (fun i _ => l.length - (intOf i).toNat)
    case atStart => exact ⟨0, rfl, by omega, Lib.hid (Wb.new w _), Lib.hid (bA1 _ _), Lib.hid (fun p z hp => by omega)⟩
    case round =>
      obtain ⟨j, rfl, hj, HV, HW, HA⟩ := hrel
      obtain ⟨z0, z1, z2, z3, z4, z5, z6, z7⟩ := HV.out.eight
      by_cases hlt : j < l.length
      · obtain ⟨y, hy⟩ : ∃ y, l[j]? = some y := ⟨l[j], List.getElem?_eq_getElem hlt⟩
        obtain ⟨z, hz⟩ : ∃ z, t.items[j]? = some z := ⟨t.items[j]'(by rw [← HL.out]; exact hlt), List.getElem?_eq_getElem _⟩
        obtain ⟨g, o, rfl, hg, _, hcl⟩ := H.out (by omega)
        have h6 := (hcl j y hy).on hg HW.out
        have hvt := NT.on HW.out n (HT.out j y z hy hz)
        have hf := IH.out n y z (d - 1) wr (by have := HD.out; omega) (by omega) hvt
        obtain ⟨ya, yd, yk, yc, ys, yst, yi, yv⟩ := y
        obtain ⟨c0, c1, c2, c3, c4, c5, c6, c7⟩ := h6
        simp only at c0 c1 c2 c3 c4 c5 c6 c7
        unfold Eight.val nV at hf
        simp only at hf
        have HZ := Lib.hid hz
        have HFF := Lib.hid hf
        clear hcl hy hvt hz hf H
        cases hr : flatB m z
        · rw [hr] at HFF
          have HBF : Hid (b = false) := Lib.hid (by
            rw [← HB.out, Bool.eq_false_iff]
            intro h
            have := List.all_eq_true.1 h z (List.mem_of_getElem? HZ.out)
            rw [hr] at this
            cases this)
          clear hr
          go_wp2_with (go_at_call 20; refine HFF.out.mono ?_; rintro e w1 ⟨rfl, b1⟩)
          go_ret
          exact ⟨by rw [HBF.out]; rfl, bT HW.out b1⟩
        · rw [hr] at HFF
          have HA' : Hid (∀ p z, p < j + 1 → t.items[p]? = some z → flatB m z = true) := Lib.hid (fun p z' hp hz' => by
            by_cases e : p = j
            · subst e
              rw [HZ.out] at hz'
              obtain rfl := Option.some.inj hz'
              exact hr
            · exact HA.out p z' (by omega) hz')
          clear hr HA
          go_wp2_with (go_at_call 20; refine HFF.out.mono ?_; rintro e w1 ⟨rfl, b1⟩)
          go_roundw
          case rel => exact ⟨j + 1, by go_num, by omega, Lib.hid (HV.out.on b1), Lib.hid (bT HW.out b1), HA'⟩
          case measure => simp [intOf]; omega
      · have HBT : Hid (b = true) := Lib.hid (by
          rw [← HB.out]
          show t.items.all (flatB m) = true
          rw [List.all_eq_true]
          intro x hx
          obtain ⟨p, hp, e⟩ := List.getElem_of_mem hx
          exact HA.out p x (by have := HL.out; omega) (by rw [List.getElem?_eq_getElem hp, e]))
        clear HA
        go_wp2_with fail
        go_ret
        exact ⟨by rw [HBT.out]; rfl, HW.out⟩
set_option maxRecDepth 100000 in
set_option maxHeartbeats 2000000 in
theorem size_any : ∀ (f : Nat) (x : Eight) (t : NV) (n most : Int) (w : World), NT w f x t → 0 ≤ n → most < 9223372036854775807 →
    Calls Try.prog 19 #[x.val, .int .i64 n, .int .i64 most] w fun e w' => e = .returned (.int .i64 (if most ≤ n then n else min most (n + (t.cnt : Nat)))) ∧ Below w.heap.size w w' := by
  intro f
  induction f with
  | zero => intro x t n most w hv; exact hv.elim
  | succ f ih =>
    intro x t n most w hv hn0 hmo
    by_cases hge : most ≤ n
    · rw [if_pos hge]
      unfold Eight.val nV
      have hge2 : decide (most ≤ n) = true := by simpa using hge
      go_enter Try.func19, Try.ntmps19
      go_wp2_with fail
      go_ret
      exact ⟨rfl, bA1 _ _⟩
    rw [if_neg hge]
    obtain ⟨b, hb⟩ : ∃ b : Int, min most (n + (t.cnt : Nat)) = b := ⟨_, rfl⟩
    rw [hb]
    have HB := Lib.hid hb
    have IH := Lib.hid ih
    clear hb ih
    obtain ⟨ea, ed, e1, e2, e3, e4, e5, hB, hBl, l, hl, hll, hlt⟩ := hv
    obtain ⟨la, de, k, c, s, st, iv, kv⟩ := x
    obtain ⟨ao, cap, rfl, hc, h⟩ := hl.form
    have hmx : l.length ≤ maxLen := by obtain ⟨_, _, q1, q2, q3, _⟩ := hl; omega
    unfold maxLen at hmx
    have H := Lib.hid h
    have HL := Lib.hid hll
    have HT := Lib.hid hlt
    clear h hll hlt ea ed e1 e2 e3 e4 e5 hB hBl hl
    unfold Eight.val nV
    have hge2 : decide (most ≤ n) = false := by simpa using hge
    go_enter Try.func19, Try.ntmps19
    go_wp2_with fail
    go_loopw [1, 7] (fun nv i wr => ∃ (j : Nat) (q : Int), i = .int .i64 (j : Nat) ∧ nv = .int .i64 q ∧ 0 ≤ q ∧ q ≤ most ∧ j ≤ l.length ∧ Hid (Wb wr w.heap.size #[.int .i64 la, .int .i64 de, .int .i64 k, .int .i64 c, .int .i64 s, .string st, .slice ao l.length cap, kv]) ∧ Hid (Below w.heap.size w wr) ∧ Hid (q = min most (n + 1 + (cntL (t.items.take j) : Nat)))) (fun _ i _ => l.length - (intOf i).toNat)
    case atStart => exact ⟨0, n + 1, rfl, rfl, by omega, by omega, by omega, Lib.hid (Wb.new w _), Lib.hid (bA1 _ _), Lib.hid (by simp [cntL]; omega)⟩
    case round =>
      obtain ⟨j, q, rfl, rfl, hq0, hq1, hj, HV, HW, HA⟩ := hrel
      obtain ⟨z0, z1, z2, z3, z4, z5, z6, z7⟩ := HV.out.eight
      by_cases hlt : j < l.length
      · obtain ⟨y, hy⟩ : ∃ y, l[j]? = some y := ⟨l[j], List.getElem?_eq_getElem hlt⟩
        obtain ⟨z, hz⟩ : ∃ z, t.items[j]? = some z := ⟨t.items[j]'(by rw [← HL.out]; exact hlt), List.getElem?_eq_getElem _⟩
        obtain ⟨g, o, rfl, hg, _, hcl⟩ := H.out (by omega)
        have h6 := (hcl j y hy).on hg HW.out
        have hvt := NT.on HW.out f (HT.out j y z hy hz)
        have hf := IH.out y z q most wr hvt hq0 hmo
        obtain ⟨ya, yd, yk, yc, ys, yst, yi, yv⟩ := y
        obtain ⟨c0, c1, c2, c3, c4, c5, c6, c7⟩ := h6
        simp only at c0 c1 c2 c3 c4 c5 c6 c7
        unfold Eight.val nV at hf
        simp only at hf
        obtain ⟨r, hr⟩ : ∃ r : Int, (if most ≤ q then q else min most (q + (z.cnt : Nat))) = r := ⟨_, rfl⟩
        rw [hr] at hf
        have hr0 : 0 ≤ r := by rw [← hr]; split <;> omega
        have hr1 : r ≤ most := by rw [← hr]; split <;> omega
        have HA' : Hid (r = min most (n + 1 + (cntL (t.items.take (j + 1)) : Nat))) := Lib.hid (by
          rw [← hr, List.take_add_one, hz, Option.toList_some, cntL_snoc, HA.out]
          have := cnt_is z
          split <;> omega)
        have HFF := Lib.hid hf
        clear hcl hy hvt hz hf H hr HA
        go_wp2_with (go_at_call 19; refine HFF.out.mono ?_; rintro e w1 ⟨rfl, b1⟩)
        go_roundw
        case rel => exact ⟨j + 1, r, by go_num, rfl, hr0, hr1, by omega, Lib.hid (HV.out.on b1), Lib.hid (bT HW.out b1), HA'⟩
        case measure => simp [intOf]; omega
      · have HQ : Hid (q = b) := Lib.hid (by
          rw [← HB.out, HA.out, cnt_is, List.take_of_length_le (by have := HL.out; omega)]
          omega)
        clear HA
        go_wp2_with fail
        go_ret
        exact ⟨by rw [HQ.out]; rfl, HW.out⟩
end Nd
end Go.Proofs.Ytelladgeehlkpaa
