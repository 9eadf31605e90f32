/- Rows of bytes in memory, and strings made of them. -/
import Derived.Test.YtpddkchnogfjkaaDoorUtPut
import Derived.Laws.BytesString
import Derived.Laws.Cells
namespace Go.Proofs.YtpddkchnogfjkaaDoor
open Go.RowKit
namespace Ut
theorem cel_app (a b : List Nat) : cel (a ++ b) = cel a ++ cel b := by unfold cel; simp
theorem cel_len (a : List Nat) : (cel a).length = a.length := by unfold cel; simp
theorem cel_one (a : List Nat) : ∀ u ∈ cel a, u.oneCell' = true := by
  intro u hu
  unfold cel at hu
  rw [List.mem_map] at hu
  obtain ⟨x, _, rfl⟩ := hu
  rfl
theorem push_str : ∀ (l : List Nat) (s : ByteArray), (l.map fun (x : Nat) => (x : Int)).foldl (fun r n => r.push (UInt8.ofNat n.toNat)) s = s ++ str l := by
  intro l
  induction l with
  | nil => intro s; simp only [List.map_nil, List.foldl_nil]; apply byt_inj; rw [byt_app]; simp [str, byt]
  | cons x l ih =>
    intro s
    simp only [List.map_cons, List.foldl_cons]
    rw [ih]
    apply byt_inj
    rw [byt_app, byt_app]
    have e1 : byt (s.push (UInt8.ofNat ((x : Int)).toNat)) = byt s ++ [(UInt8.ofNat x).toNat] := by unfold byt; simp
    have e2 : byt (str (x :: l)) = (UInt8.ofNat x).toNat :: byt (str l) := by unfold byt str; simp
    rw [e1, e2]; simp
theorem info_b : (Tryd.prog.info? 5).map (fun i => (i.zero, i.size, i.bytes)) = some (some (.int .u8 0), 1, 1) := by kernel_rfl
theorem info_i : (Tryd.prog.info? 3).map (fun i => (i.zero, i.size, i.bytes)) = some (some (.int .i64 0), 1, 8) := by kernel_rfl
/-- a row of bytes as a string -/
theorem conv_at {w : World} {a : Addr} {n cap : Nat} {l : List Nat} (hl : l.length = n) (h : ∀ j u, (cel l)[j]? = some u → w.cell? (a.add j) = some u) :
    (convert 26 9 (.slice (some a) n cap)).run Tryd.prog w = .ok (.string (str l)) w := by
  rw [run_convert_bytes_string w _ _ _ _ _ _ Tryd.underlying26 Tryd.underlying5 Tryd.underlying9]
  have e : (l.map fun (x : Nat) => (x : Int)).map (Value.int .u8) = cel l := by unfold cel; rw [List.map_map]; rfl
  have h1 := run_loadCells_list (P := Tryd.prog) (w := w) a (cel l) h
  rw [cel_len, hl] at h1
  rw [run_bytesToString w a n cap (l.map fun (x : Nat) => (x : Int)) (by rw [e]; exact h1), push_str]
  have : ByteArray.empty ++ str l = str l := by apply byt_inj; rw [byt_app]; rfl
  rw [this]
theorem conv_own {w : World} {B n : Nat} {v : Value} {l : List Nat} (h : w.ownsRow B 5 1 v n (cel l)) :
    (convert 26 9 v).run Tryd.prog w = .ok (.string (str l)) w := by
  have hl : l.length = n := by have := h.1; rw [cel_len] at this; omega
  rcases h.2 with ⟨rfl, rfl⟩ | ⟨g, cap, cur, rfl, _⟩
  · rw [run_convert_bytes_string w _ _ _ _ _ _ Tryd.underlying26 Tryd.underlying5 Tryd.underlying9]
    obtain rfl := List.length_eq_zero_iff.1 hl
    rfl
  · exact conv_at hl (h.cells rfl)
theorem put_own (w : World) (B : Nat) (l : List Nat) (hB : B ≤ w.heap.size) (hl : l.length ≤ maxLen) : (w.alloc (.cells (cel l).toArray 5)).ownsRow B 5 1 (.slice (some ⟨w.heap.size, 0, none⟩) l.length l.length) l.length (cel l) := by
  refine ⟨by rw [cel_len]; omega, .inr ⟨w.heap.size, l.length, (cel l).toArray, rfl, hB, heap_alloc_new w _, Nat.le_refl _, hl, by simp [cel_len], ?_⟩⟩
  rw [List.take_of_length_le (by simp [cel_len])]
theorem conv_put (w : World) (l : List Nat) (n : Nat) (hn : l.length = n) (hl : l.length ≤ maxLen) :
    (convert 26 9 (.slice (some ⟨w.heap.size, 0, none⟩) n n)).run Tryd.prog (w.alloc (.cells (cel l).toArray 5)) = .ok (.string (str l)) (w.alloc (.cells (cel l).toArray 5)) := by
  subst hn
  exact conv_own (put_own w 0 l (by omega) hl)
theorem cells_put (w : World) (l : List Nat) : ∀ j u, (cel l)[j]? = some u → (w.alloc (.cells (cel l).toArray 5)).cell? ((⟨w.heap.size, 0, none⟩ : Addr).add j) = some u := by
  intro j u hj
  have hadd : (⟨w.heap.size, 0, none⟩ : Addr).add j = ⟨w.heap.size, j, none⟩ := by unfold Addr.add; split <;> simp_all
  rw [hadd, cell_of_row _ w.heap.size j (cel l).toArray 5 (0, 0) (heap_alloc_new w _)]
  simpa using hj
end Ut
end Go.Proofs.YtpddkchnogfjkaaDoor
