/- Put and Get as mathematics: what stands in an object behind Put. -/
import Derived.Test.YtkmfoclhhnhkdaaJvPut2
namespace Go.Proofs.Ytkmfoclhhnhkdaa
open Go.RowKit
namespace Jv
open _root_.Go.Proofs.Ytkmfoclhhnhkdaa.Nm
theorem bl_irrefl : ∀ x : List UInt8, Op.bytesLess x x = false
  | [] => by simp [Op.bytesLess]
  | a :: x => by simp [Op.bytesLess, bl_irrefl x]
theorem bl_trans : ∀ x y z : List UInt8, Op.bytesLess x y = true → Op.bytesLess y z = true → Op.bytesLess x z = true
  | [], [], _, h, _ => by simp [Op.bytesLess] at h
  | [], _ :: _, [], _, h => by simp [Op.bytesLess] at h
  | [], _ :: _, _ :: _, _, _ => by simp [Op.bytesLess]
  | _ :: _, [], _, h, _ => by simp [Op.bytesLess] at h
  | _ :: _, _ :: _, [], _, h => by simp [Op.bytesLess] at h
  | a :: x, b :: y, c :: z, h1, h2 => by
    simp only [Op.bytesLess, Bool.or_eq_true, Bool.and_eq_true, decide_eq_true_eq, beq_iff_eq] at h1 h2 ⊢
    rcases h1 with h1 | ⟨rfl, h1⟩
    · rcases h2 with h2 | ⟨rfl, h2⟩
      · exact Or.inl (UInt8.lt_trans h1 h2)
      · exact Or.inl h1
    · rcases h2 with h2 | ⟨rfl, h2⟩
      · exact Or.inl h2
      · exact Or.inr ⟨rfl, bl_trans x y z h1 h2⟩
theorem bl_total : ∀ x y : List UInt8, Op.bytesLess x y = true ∨ x = y ∨ Op.bytesLess y x = true
  | [], [] => Or.inr (Or.inl rfl)
  | [], _ :: _ => Or.inl (by simp [Op.bytesLess])
  | _ :: _, [] => Or.inr (Or.inr (by simp [Op.bytesLess]))
  | a :: x, b :: y => by
    simp only [Op.bytesLess, Bool.or_eq_true, Bool.and_eq_true, decide_eq_true_eq, beq_iff_eq, List.cons.injEq]
    rcases UInt8.lt_or_lt_of_ne (a := a) (b := b) |> fun h => Classical.em (a = b) with rfl | hne
    · rcases bl_total x y with h | rfl | h
      · exact Or.inl (Or.inr ⟨rfl, h⟩)
      · exact Or.inr (Or.inl ⟨rfl, rfl⟩)
      · exact Or.inr (Or.inr (Or.inr ⟨rfl, h⟩))
    · rcases UInt8.lt_or_lt_of_ne hne with h | h
      · exact Or.inl (Or.inl h)
      · exact Or.inr (Or.inr (Or.inl h))
/-- is a text below another one? -/
def ltB (x y : ByteArray) : Bool := Op.bytesLess x.toList y.toList
/-- is a text below another one, or it? -/
def leB (x y : ByteArray) : Bool := Op.bytesLess x.toList y.toList || x.toList == y.toList
theorem ltB_irrefl (x : ByteArray) : ltB x x = false := bl_irrefl _
theorem ltB_trans {x y z : ByteArray} (h : ltB x y = true) (h' : ltB y z = true) : ltB x z = true := bl_trans _ _ _ h h'
theorem toList_inj {a b : ByteArray} (h : a.toList = b.toList) : a = b := by
  rw [Lib.toList_data, Lib.toList_data] at h
  exact ByteArray.ext (Array.toList_inj.1 h)
theorem ltB_total {x y : ByteArray} (h : x ≠ y) : ltB x y = true ∨ ltB y x = true := by
  rcases bl_total x.toList y.toList with h1 | h1 | h1
  · exact Or.inl h1
  · exact absurd (toList_inj h1) h
  · exact Or.inr h1
theorem ltB_ne {x y : ByteArray} (h : ltB x y = true) : x ≠ y := by rintro rfl; rw [ltB_irrefl] at h; cases h
theorem ltB_asymm {x y : ByteArray} (h : ltB x y = true) : ltB y x = false := by
  cases h' : ltB y x with
  | false => rfl
  | true => have := ltB_trans h h'; rw [ltB_irrefl] at this; cases this
theorem leB_no {x y : ByteArray} : leB x y = false ↔ ltB y x = true := by
  constructor
  · intro h
    unfold leB at h
    rw [Bool.or_eq_false_iff] at h
    have hne : x ≠ y := by rintro rfl; simp at h
    rcases ltB_total hne with h1 | h1
    · rw [ltB, h.1] at h1; cases h1
    · exact h1
  · intro h
    have h1 := ltB_asymm h
    have h2 := str_ne (ltB_ne h).symm
    unfold leB
    rw [h2, Bool.or_false]
    exact h1
theorem gtB_is (x y : ByteArray) : gtB x y = ltB y x := by
  have : gtB x y = !leB x y := rfl
  rw [this]
  cases h : ltB y x with
  | true => rw [leB_no.2 h]; rfl
  | false =>
    cases h' : leB x y with
    | true => rfl
    | false => rw [leB_no.1 h'] at h; cases h
/-- do keys rise? -/
def Up (K : List ByteArray) : Prop := K.Pairwise fun a b => ltB a b = true
/-- do keys rise, as a loop looks at it? -/
theorem up_of {K : List ByteArray} (h : ∀ i a b, K[i]? = some a → K[i + 1]? = some b → leB b a = false) : Up K := by
  induction K with
  | nil => exact List.Pairwise.nil
  | cons x K ih =>
    have hK : Up K := ih fun i a b ha hb => h (i + 1) a b (by simpa using ha) (by simpa using hb)
    refine List.Pairwise.cons ?_ hK
    intro y hy
    cases K with
    | nil => simp at hy
    | cons z K =>
      have hz := leB_no.1 (h 0 x z rfl rfl)
      rcases List.mem_cons.1 hy with rfl | hy
      · exact hz
      · exact ltB_trans hz ((List.pairwise_cons.1 hK).1 y hy)
theorem up_at {K : List ByteArray} (h : Up K) {i j : Nat} {a b : ByteArray} (hij : i < j) (ha : K[i]? = some a) (hb : K[j]? = some b) : ltB a b = true := by
  obtain ⟨h1, rfl⟩ := List.getElem?_eq_some_iff.1 ha
  obtain ⟨h2, rfl⟩ := List.getElem?_eq_some_iff.1 hb
  exact List.pairwise_iff_getElem.1 h i j h1 h2 hij
theorem up_next {K : List ByteArray} (h : Up K) {i : Nat} {a b : ByteArray} (ha : K[i]? = some a) (hb : K[i + 1]? = some b) : leB b a = false := leB_no.2 (up_at h (by omega) ha hb)
theorem idx_up {K : List ByteArray} (h : Up K) {i : Nat} {a : ByteArray} (ha : K[i]? = some a) : idx K a = i :=
  idx_at ha fun j s hj hs e => by have := up_at h hj hs ha; rw [e, ltB_irrefl] at this; cases this
/-- two lists by rising keys with the same members are the same -/
theorem up_ext {α : Type} : ∀ {L M : List (ByteArray × α)}, L.Pairwise (fun a b => ltB a.1 b.1 = true) → M.Pairwise (fun a b => ltB a.1 b.1 = true) → (∀ p, p ∈ L ↔ p ∈ M) → L = M
  | [], [], _, _, _ => rfl
  | [], b :: M, _, _, h => absurd ((h b).2 List.mem_cons_self) (by simp)
  | a :: L, [], _, _, h => absurd ((h a).1 List.mem_cons_self) (by simp)
  | a :: L, b :: M, h1, h2, h => by
    obtain ⟨p1, q1⟩ := List.pairwise_cons.1 h1
    obtain ⟨p2, q2⟩ := List.pairwise_cons.1 h2
    have e : a = b := by
      rcases List.mem_cons.1 ((h a).1 List.mem_cons_self) with e | e
      · exact e
      · rcases List.mem_cons.1 ((h b).2 List.mem_cons_self) with e' | e'
        · exact e'.symm
        · have := ltB_trans (p2 _ e) (p1 _ e'); rw [ltB_irrefl] at this; cases this
    subst e
    rw [up_ext q1 q2 fun p => ?_]
    constructor
    · intro hp
      rcases List.mem_cons.1 ((h p).1 (List.mem_cons_of_mem _ hp)) with e | e
      · subst e; have := p1 _ hp; rw [ltB_irrefl] at this; cases this
      · exact e
    · intro hp
      rcases List.mem_cons.1 ((h p).2 (List.mem_cons_of_mem _ hp)) with e | e
      · subst e; have := p2 _ hp; rw [ltB_irrefl] at this; cases this
      · exact e
theorem zip_up {α : Type} : ∀ {K : List ByteArray} {I : List α}, Up K → (K.zip I).Pairwise (fun a b => ltB a.1 b.1 = true)
  | [], _, _ => by simp
  | _ :: _, [], _ => by simp
  | k :: K, i :: I, h => by
    obtain ⟨h1, h2⟩ := List.pairwise_cons.1 h
    rw [List.zip_cons_cons]
    exact List.Pairwise.cons (fun p hp => h1 _ (List.of_mem_zip hp).1) (zip_up h2)
theorem zip_inj {α : Type} : ∀ {K K' : List ByteArray} {I I' : List α}, K.length = I.length → K'.length = I'.length → K.zip I = K'.zip I' → K = K' ∧ I = I'
  | [], [], [], [], _, _, _ => ⟨rfl, rfl⟩
  | _ :: _, [], _ :: _, [], _, _, h => by simp at h
  | [], _ :: _, [], _ :: _, _, _, h => by simp at h
  | k :: K, k' :: K', i :: I, i' :: I', h1, h2, h => by
    simp only [List.zip_cons_cons, List.cons.injEq, Prod.mk.injEq] at h
    obtain ⟨rfl, rfl⟩ := zip_inj (by simpa using h1) (by simpa using h2) h.2
    exact ⟨by rw [h.1.1], by rw [h.1.2]⟩
theorem plc_up {K : List ByteArray} {key : ByteArray} (h : Up K) (hk : key ∉ K) : (∀ x ∈ K.take (plc K key), ltB x key = true) ∧ ∀ x ∈ K.drop (plc K key), ltB key x = true := by
  have hsp : ∀ x ∈ K, ltB key x = false → ltB x key = true := fun x hx h => by
    rcases ltB_total (x := x) (y := key) (by rintro rfl; exact hk hx) with h1 | h1
    · exact h1
    · rw [h] at h1; cases h1
  unfold plc
  cases hf : K.findIdx? (fun x => gtB x key) with
  | none =>
    rw [Option.getD_none]
    refine ⟨fun x hx => ?_, fun x hx => by simp at hx⟩
    have hx := List.mem_of_mem_take hx
    have := List.findIdx?_eq_none_iff.1 hf x hx
    rw [gtB_is] at this
    exact hsp x hx this
  | some i =>
    rw [Option.getD_some]
    obtain ⟨hi, h1, h2⟩ := List.findIdx?_eq_some_iff_getElem.1 hf
    rw [gtB_is] at h1
    refine ⟨fun x hx => ?_, fun x hx => ?_⟩
    · obtain ⟨j, hj, e⟩ := List.getElem_of_mem hx
      rw [List.length_take] at hj
      rw [List.getElem_take] at e
      have := h2 j (by omega)
      rw [e, gtB_is] at this
      exact hsp x (List.mem_of_mem_take hx) (by simpa using this)
    · obtain ⟨j, hj, e⟩ := List.getElem_of_mem hx
      rw [List.length_drop] at hj
      rw [List.getElem_drop] at e
      cases j with
      | zero => rw [← e]; exact h1
      | succ j => exact ltB_trans h1 (up_at h (i := i) (j := i + (j + 1)) (by omega) (List.getElem?_eq_getElem hi) (by rw [List.getElem?_eq_getElem (by omega), e]))
theorem putK_up {K : List ByteArray} {key : ByteArray} (h : Up K) : Up (putK K key) := by
  unfold putK
  split
  · exact h
  · rename_i hi
    have hk : key ∉ K := by
      rcases idx_cases K key with ⟨_, h1⟩ | ⟨i, h1, _⟩
      · exact h1
      · omega
    obtain ⟨h1, h2⟩ := plc_up h hk
    have hs : (K.take (plc K key) ++ K.drop (plc K key)).Pairwise fun a b => ltB a b = true := by rw [List.take_append_drop]; exact h
    obtain ⟨g1, g2, g3⟩ := List.pairwise_append.1 hs
    refine List.pairwise_append.2 ⟨g1, List.Pairwise.cons h2 g2, fun a ha b hb => ?_⟩
    rcases List.mem_cons.1 hb with rfl | hb
    · exact h1 a ha
    · exact g3 a ha b hb
theorem putKI_len {α : Type} {K : List ByteArray} {I : List α} {key : ByteArray} {v : α} (h : K.length = I.length) : (putK K key).length = (putI K I key v).length := by
  unfold putK putI
  split
  · rename_i hi
    rcases idx_cases K key with ⟨h1, _⟩ | ⟨i, h1, h2, _⟩
    · omega
    · rw [h1]; simp; omega
  · have := plc_le K key
    simp; omega
/-- what stands in an object behind Put -/
theorem put_mem {α : Type} {K : List ByteArray} {I : List α} {key : ByteArray} {v : α} (h : K.length = I.length) (hu : Up K) (p : ByteArray × α) :
    p ∈ (putK K key).zip (putI K I key v) ↔ p = (key, v) ∨ (p ∈ K.zip I ∧ p.1 ≠ key) := by
  have zsplit : ∀ i, K.zip I = (K.take i).zip (I.take i) ++ (K.drop i).zip (I.drop i) := fun i => by
    rw [← List.zip_append (by simp; omega), List.take_append_drop, List.take_append_drop]
  unfold putK putI
  rcases idx_cases K key with ⟨h1, h2⟩ | ⟨i, h1, h2, h3, h4⟩
  · rw [if_neg (by omega), if_neg (by omega), List.zip_append (by simp; omega), zsplit (plc K key)]
    simp only [List.cons_append, List.nil_append, List.zip_cons_cons, List.mem_append, List.mem_cons]
    have hn : ∀ p : ByteArray × α, p ∈ K.zip I → p.1 ≠ key := fun p hp e => h2 (e ▸ (List.of_mem_zip hp).1)
    constructor
    · rintro (hp | rfl | hp)
      · exact Or.inr ⟨Or.inl hp, hn p (by rw [zsplit (plc K key)]; exact List.mem_append_left _ hp)⟩
      · exact Or.inl rfl
      · exact Or.inr ⟨Or.inr hp, hn p (by rw [zsplit (plc K key)]; exact List.mem_append_right _ hp)⟩
    · rintro (rfl | ⟨hp | hp, _⟩)
      · exact Or.inr (Or.inl rfl)
      · exact Or.inl hp
      · exact Or.inr (Or.inr hp)
  · rw [if_pos (by omega), if_pos (by omega), h1, Int.toNat_natCast]
    have hiK : K[i]'(by omega) = key := by have := List.getElem?_eq_some_iff.1 h3; exact this.2
    have eK : K = K.take i ++ (key :: K.drop (i + 1)) := by
      rw [← hiK, List.getElem_cons_drop, List.take_append_drop]
    have eI : I = I.take i ++ (I[i]'(by omega) :: I.drop (i + 1)) := by
      rw [List.getElem_cons_drop, List.take_append_drop]
    have hu' := eK ▸ hu
    obtain ⟨_, g2, g3⟩ := List.pairwise_append.1 hu'
    have g4 := (List.pairwise_cons.1 g2).1
    have z1 : K.zip (I.take i ++ ([v] ++ I.drop (i + 1))) = (K.take i).zip (I.take i) ++ ((key, v) :: (K.drop (i + 1)).zip (I.drop (i + 1))) := by
      conv => lhs; rw [eK]
      rw [List.zip_append (by simp; omega)]
      rfl
    have z2 : K.zip I = (K.take i).zip (I.take i) ++ ((key, I[i]'(by omega)) :: (K.drop (i + 1)).zip (I.drop (i + 1))) := by
      conv => lhs; rw [eK, eI]
      rw [List.zip_append (by simp; omega)]
      rfl
    rw [z1, z2]
    simp only [List.mem_append, List.mem_cons]
    have n1 : ∀ p : ByteArray × α, p ∈ (K.take i).zip (I.take i) → p.1 ≠ key := fun p hp => ltB_ne (g3 _ (List.of_mem_zip hp).1 _ List.mem_cons_self)
    have n2 : ∀ p : ByteArray × α, p ∈ (K.drop (i + 1)).zip (I.drop (i + 1)) → p.1 ≠ key := fun p hp => (ltB_ne (g4 _ (List.of_mem_zip hp).1)).symm
    constructor
    · rintro (hp | rfl | hp)
      · exact Or.inr ⟨Or.inl hp, n1 p hp⟩
      · exact Or.inl rfl
      · exact Or.inr ⟨Or.inr (Or.inr hp), n2 p hp⟩
    · rintro (rfl | ⟨hp | rfl | hp, hne⟩)
      · exact Or.inr (Or.inl rfl)
      · exact Or.inl hp
      · exact absurd rfl hne
      · exact Or.inr (Or.inr hp)
/-- what a key has among some -/
def gotL {α : Type} (K : List ByteArray) (I : List α) (z : α) (key : ByteArray) : α × Bool := match I[(idx K key).toNat]? with | some y => if 0 ≤ idx K key then (y, true) else (z, false) | none => (z, false)
theorem gotL_some {α : Type} {K : List ByteArray} {I : List α} {z v : α} {key : ByteArray} (hu : Up K) (hp : (key, v) ∈ K.zip I) : gotL K I z key = (v, true) := by
  obtain ⟨i, hi, e⟩ := List.getElem_of_mem hp
  rw [List.length_zip] at hi
  rw [List.getElem_zip] at e
  have h1 : K[i]? = some key := by rw [List.getElem?_eq_getElem (by omega)]; exact congrArg some (Prod.mk.inj e).1
  have h2 : I[i]? = some v := by rw [List.getElem?_eq_getElem (by omega)]; exact congrArg some (Prod.mk.inj e).2
  unfold gotL
  rw [idx_up hu h1, Int.toNat_natCast, h2]
  simp only
  rw [if_pos (by omega)]
theorem gotL_none {α : Type} {K : List ByteArray} {I : List α} {z : α} {key : ByteArray} (hp : key ∉ K) : gotL K I z key = (z, false) := by
  have : idx K key = -1 := by
    rcases idx_cases K key with ⟨h, _⟩ | ⟨i, _, _, h, _⟩
    · exact h
    · exact absurd (List.mem_of_getElem? h) hp
  unfold gotL
  rw [this]
  split
  · rfl
  · rfl
theorem mem_zip_of {α : Type} {K : List ByteArray} {I : List α} {key : ByteArray} (h : K.length = I.length) (hk : key ∈ K) : ∃ v, (key, v) ∈ K.zip I := by
  obtain ⟨i, hi, rfl⟩ := List.getElem_of_mem hk
  exact ⟨I[i]'(by omega), by rw [List.mem_iff_getElem]; exact ⟨i, by simp; omega, by simp⟩⟩
section
variable {α : Type} {K : List ByteArray} {I : List α} {key other : ByteArray} {v z : α}
theorem got_put (h : K.length = I.length) (hu : Up K) : gotL (putK K key) (putI K I key v) z key = (v, true) := gotL_some (putK_up hu) ((put_mem h hu _).2 (Or.inl rfl))
theorem got_other (h : K.length = I.length) (hu : Up K) (hne : other ≠ key) : gotL (putK K key) (putI K I key v) z other = gotL K I z other := by
  by_cases hk : other ∈ K
  · obtain ⟨u, hu'⟩ := mem_zip_of h hk
    rw [gotL_some hu hu', gotL_some (putK_up hu) ((put_mem h hu _).2 (Or.inr ⟨hu', hne⟩))]
  · rw [gotL_none hk, gotL_none]
    intro hk'
    obtain ⟨u, hu'⟩ := mem_zip_of (putKI_len (v := v) h) hk'
    rcases (put_mem h hu _).1 hu' with e | ⟨e, _⟩
    · exact hne (Prod.mk.inj e).1
    · exact hk (List.of_mem_zip e).1
theorem idx_mem : 0 ≤ idx K key ↔ key ∈ K := by
  rcases idx_cases K key with ⟨h1, h2⟩ | ⟨i, h1, h2, h3, h4⟩
  · exact ⟨fun h => by omega, fun h => absurd h h2⟩
  · exact ⟨fun _ => List.mem_of_getElem? h3, fun _ => by omega⟩
theorem got_snd (h : K.length = I.length) : (gotL K I z key).2 = decide (0 ≤ idx K key) := by
  rcases idx_cases K key with ⟨h1, h2⟩ | ⟨i, h1, h2, h3, h4⟩
  · rw [gotL_none h2, decide_eq_false (by omega)]
  · unfold gotL
    rw [h1, Int.toNat_natCast, List.getElem?_eq_getElem (by omega)]
    simp only
    rw [if_pos (by omega), decide_eq_true (by omega)]
theorem putK_len : (putK K key).length = if 0 ≤ idx K key then K.length else K.length + 1 := by
  unfold putK
  split
  · rfl
  · have := plc_le K key
    simp; omega
theorem puts_turn {k0 k1 : ByteArray} {v0 v1 : α} (h : K.length = I.length) (hu : Up K) (hne : k0 ≠ k1) :
    putK (putK K k0) k1 = putK (putK K k1) k0 ∧ putI (putK K k0) (putI K I k0 v0) k1 v1 = putI (putK K k1) (putI K I k1 v1) k0 v0 := by
  have l0 := putKI_len (key := k0) (v := v0) h
  have l1 := putKI_len (key := k1) (v := v1) h
  have u0 := putK_up (key := k0) hu
  have u1 := putK_up (key := k1) hu
  refine zip_inj (putKI_len l0) (putKI_len l1) (up_ext (zip_up (putK_up u0)) (zip_up (putK_up u1)) fun p => ?_)
  rw [put_mem l0 u0, put_mem l1 u1, put_mem h hu, put_mem h hu]
  constructor
  · rintro (rfl | ⟨rfl | ⟨h1, h2⟩, h3⟩)
    · exact Or.inr ⟨Or.inl rfl, hne.symm⟩
    · exact Or.inl rfl
    · exact Or.inr ⟨Or.inr ⟨h1, h3⟩, h2⟩
  · rintro (rfl | ⟨rfl | ⟨h1, h2⟩, h3⟩)
    · exact Or.inr ⟨Or.inl rfl, hne⟩
    · exact Or.inl rfl
    · exact Or.inr ⟨Or.inr ⟨h1, h3⟩, h2⟩
end
end Jv
end Go.Proofs.Ytkmfoclhhnhkdaa
