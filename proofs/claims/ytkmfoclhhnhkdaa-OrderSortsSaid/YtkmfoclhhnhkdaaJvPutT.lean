/- jval.Put and jval.Get of values read as data. -/
import Derived.Test.YtkmfoclhhnhkdaaJvPut3
import Derived.Test.YtkmfoclhhnhkdaaJvMath
namespace Go.Proofs.Ytkmfoclhhnhkdaa
open Go.RowKit
namespace Jv
open _root_.Go.Proofs.Ytkmfoclhhnhkdaa.Nm
/-- the value behind Put -/
def putT (t : JV) (key : ByteArray) (v : JV) : JV := if t.k = 6 ∧ t.keys.length = t.items.length then .mk t.k t.c t.s t.st (putI t.keys t.items key v) (putK t.keys key) else t
/-- the zero value -/
def jv0 : JV := .mk 0 0 0 ⟨#[]⟩ [] []
/-- what a key has in a value -/
def gotT (t : JV) (key : ByteArray) : JV × Bool := if t.k = 6 ∧ t.keys.length = t.items.length then gotL t.keys t.items jv0 key else (jv0, false)
theorem VT.one {w : World} {n : Nat} {x : Six} {t : JV} (h : VT w n x t) : x.one := by
  cases n with
  | zero => exact h.elim
  | succ n =>
    obtain ⟨_, _, _, _, h5, _, l, h6, _⟩ := h
    exact ⟨h6.form', h5.form'⟩
theorem VT.zero (w : World) : VT w 1 six0 jv0 := ⟨rfl, rfl, rfl, rfl, Ks.nil0 w, ⟨by decide, by decide, by decide, by decide, fun x hx => by simp [jv0, JV.keys] at hx⟩, [], Vs.nil0 w, rfl, fun j y z h => by simp at h⟩
theorem putK_mem {K : List ByteArray} {key x : ByteArray} (h : x ∈ putK K key) : x = key ∨ x ∈ K := by
  unfold putK at h
  split at h
  · exact Or.inr h
  · simp only [List.mem_append, List.mem_cons, List.not_mem_nil, or_false] at h
    rcases h with h | rfl | h
    · exact Or.inr (List.mem_of_mem_take h)
    · exact Or.inl rfl
    · exact Or.inr (List.mem_of_mem_drop h)
theorem pw_ins {α β : Type} {R : α → β → Prop} {l : List α} {t : List β} {v : α} {u : β} (hl : l.length = t.length) (h : ∀ (j : Nat) (y : α) (z : β), l[j]? = some y → t[j]? = some z → R y z) (i j : Nat) (hv : R v u) :
    ∀ (q : Nat) (y : α) (z : β), (l.take i ++ ([v] ++ l.drop j))[q]? = some y → (t.take i ++ ([u] ++ t.drop j))[q]? = some z → R y z := by
  intro q y z hy hz
  have hp : ((l.take i ++ ([v] ++ l.drop j)).zip (t.take i ++ ([u] ++ t.drop j)))[q]? = some (y, z) := List.getElem?_zip_eq_some.2 ⟨hy, hz⟩
  have hm := List.mem_of_getElem? hp
  rw [List.zip_append (by simp; omega), List.mem_append] at hm
  rcases hm with hm | hm
  · obtain ⟨p, hp⟩ := List.getElem?_of_mem hm
    obtain ⟨h1, h2⟩ := List.getElem?_zip_eq_some.1 hp
    rw [List.getElem?_take] at h1 h2
    split at h1
    · rename_i hlt
      rw [if_pos hlt] at h2
      exact h p y z h1 h2
    · cases h1
  · simp only [List.cons_append, List.nil_append, List.zip_cons_cons, List.mem_cons, Prod.mk.injEq] at hm
    rcases hm with ⟨rfl, rfl⟩ | hm
    · exact hv
    · obtain ⟨p, hp⟩ := List.getElem?_of_mem hm
      obtain ⟨h1, h2⟩ := List.getElem?_zip_eq_some.1 hp
      rw [List.getElem?_drop] at h1 h2
      exact h _ y z h1 h2
theorem put_anyT (n m : Nat) (x v : Six) (tx tv : JV) (key : ByteArray) (w : World) (hx : VT w n x tx) (hv : VT w m v tv) (hn : tx.items.length ≤ 1000000000) (hks : key.size ≤ maxLen) :
    Calls Try.prog 25 #[x.val, .string key, v.val] w fun e w' => ∃ y, e = .returned y.val ∧ VT w' (n + m) y (putT tx key tv) ∧ Below w.heap.size w w' := by
  cases n with
  | zero => exact hx.elim
  | succ n =>
  have hx' := hx
  obtain ⟨e1, e2, e3, e4, e5, hB, l, hl, hll, hlt⟩ := hx
  have hone : ∀ y ∈ l, y.one := fun y hy => by
    obtain ⟨j, hj⟩ := List.getElem?_of_mem hy
    have hjl := (List.getElem?_eq_some_iff.1 hj).1
    exact (hlt j y _ hj (List.getElem?_eq_getElem (by omega))).one
  by_cases ho : tx.k = 6 ∧ tx.keys.length = tx.items.length
  · have ho' : x.k = 6 ∧ tx.keys.length = l.length := ⟨by rw [e1]; exact ho.1, by rw [hll]; exact ho.2⟩
    have hpt : putT tx key tv = .mk tx.k tx.c tx.s tx.st (putI tx.keys tx.items key tv) (putK tx.keys key) := by unfold putT; rw [if_pos ho]
    have hBd : Bd x.k x.c x.s x.st (putK tx.keys key) := by
      obtain ⟨b1, b2, b3, b4, b5⟩ := hB
      exact ⟨b1, b2, b3, b4, fun y hy => by
        rcases putK_mem hy with rfl | hy
        · exact hks
        · exact b5 y hy⟩
    rw [hpt, show n + 1 + m = (n + m) + 1 by omega]
    rcases idx_cases tx.keys key with ⟨h1, h2⟩ | ⟨i, h1, h2, h3, h4⟩
    · refine (put_new x v tx.keys l key (plc tx.keys key) w e5 hl hone hv.one (by omega) ho' h1 rfl).mono ?_
      rintro e w' ⟨iv', kv', rfl, hi', hk', b, _, _⟩
      have ek : putK tx.keys key = tx.keys.take (plc tx.keys key) ++ ([key] ++ tx.keys.drop (plc tx.keys key)) := by unfold putK; rw [if_neg (by omega)]
      have ei : putI tx.keys tx.items key tv = tx.items.take (plc tx.keys key) ++ ([tv] ++ tx.items.drop (plc tx.keys key)) := by unfold putI; rw [if_neg (by omega)]
      refine ⟨_, rfl, ⟨e1, e2, e3, e4, ?_, hBd, _, hi', ?_, ?_⟩, b⟩
      · rw [show (JV.mk tx.k tx.c tx.s tx.st (putI tx.keys tx.items key tv) (putK tx.keys key)).keys = putK tx.keys key from rfl, ek]
        exact hk'
      · show _ = (putI tx.keys tx.items key tv).length
        rw [ei]
        simp [hll]
      · show ∀ (j : Nat) (y : Six) (z : JV), _ → (putI tx.keys tx.items key tv)[j]? = some z → _
        rw [ei]
        refine pw_ins hll (fun j y z hy hz => ?_) _ _ ?_
        · exact VT.mono n (by omega) (VT.on b n (hlt j y z hy hz))
        · exact VT.mono m (by omega) (VT.on b m hv)
    · refine (put_has x v tx.keys l key i w e5 hl hone hv.one (by omega) ho' h1 (by omega)).mono ?_
      rintro e w' ⟨iv', rfl, hi', b, _⟩
      have ek : putK tx.keys key = tx.keys := by unfold putK; rw [if_pos (by omega)]
      have ei : putI tx.keys tx.items key tv = tx.items.take i ++ ([tv] ++ tx.items.drop (i + 1)) := by unfold putI; rw [if_pos (by omega), h1]; rfl
      refine ⟨_, rfl, ⟨e1, e2, e3, e4, ?_, hBd, _, hi', ?_, ?_⟩, b⟩
      · rw [show (JV.mk tx.k tx.c tx.s tx.st (putI tx.keys tx.items key tv) (putK tx.keys key)).keys = putK tx.keys key from rfl, ek]
        exact e5.on b
      · show _ = (putI tx.keys tx.items key tv).length
        rw [ei]
        simp [hll]
      · show ∀ (j : Nat) (y : Six) (z : JV), _ → (putI tx.keys tx.items key tv)[j]? = some z → _
        rw [ei]
        refine pw_ins hll (fun j y z hy hz => ?_) _ _ ?_
        · exact VT.mono n (by omega) (VT.on b n (hlt j y z hy hz))
        · exact VT.mono m (by omega) (VT.on b m hv)
  · have hpt : putT tx key tv = tx := by unfold putT; rw [if_neg ho]
    rw [hpt]
    refine (put_no x v tx.keys l key w e5 hl (by rw [e1, hll]; exact ho)).mono ?_
    rintro e w' ⟨rfl, b⟩
    exact ⟨x, rfl, VT.on b _ (VT.mono (n + 1) (by omega) hx'), b⟩
end Jv
end Go.Proofs.Ytkmfoclhhnhkdaa
