/- The bytes of a string as a list of numbers; what a range over a string takes for a sign. No condition. -/
import Derived.Test.YtpddkchnogfjkaaDoorUtMath
import Derived.Laws.RangeAny
import Derived.Lib.Hide
namespace Go.Proofs.YtpddkchnogfjkaaDoor
namespace Ut
/-- a string's bytes -/
def byt (s : ByteArray) : List Nat := s.data.toList.map UInt8.toNat
theorem byt_len (s : ByteArray) : (byt s).length = s.size := by unfold byt; simp
theorem byt_get (s : ByteArray) (k : Nat) (h : k < s.size) : (byt s)[k]? = some s[k].toNat := by
  have h' : k < s.data.toList.length := by simpa using h
  unfold byt
  rw [List.getElem?_map, List.getElem?_eq_getElem h']; rfl
theorem byt_at (s : ByteArray) (k : Nat) (h : k < s.size) : (byt s).drop k = s[k].toNat :: (byt s).drop (k + 1) := by
  have h' : k < (byt s).length := by rw [byt_len]; exact h
  rw [List.drop_eq_getElem_cons h']
  congr 1
  have := byt_get s k h
  rw [List.getElem?_eq_getElem h'] at this
  exact Option.some.inj this
theorem byt_lt (s : ByteArray) : ∀ x ∈ byt s, x < 256 := by
  intro x hx
  unfold byt at hx
  rw [List.mem_map] at hx
  obtain ⟨u, _, rfl⟩ := hx
  exact u.toNat_lt
theorem map_inj : ∀ {a b : List UInt8}, a.map UInt8.toNat = b.map UInt8.toNat → a = b := by
  intro a
  induction a with
  | nil => intro b h; simpa using h.symm
  | cons x a ih =>
    intro b h
    match b with
    | [] => simp at h
    | y :: b =>
      simp at h
      rw [ih h.2, UInt8.toNat_inj.1 h.1]
theorem byt_inj {s t : ByteArray} (h : byt s = byt t) : s = t := by
  unfold byt at h
  have := map_inj h
  cases s; cases t
  simp at this
  rw [this]
theorem byt_app (s t : ByteArray) : byt (s ++ t) = byt s ++ byt t := by
  unfold byt
  rw [ByteArray.data_append]; simp
theorem byt_ext (s : ByteArray) (i j : Nat) : byt (s.extract i j) = ((byt s).take j).drop i := by
  unfold byt
  rw [ByteArray.data_extract]
  simp [List.map_drop, List.map_take, List.drop_take]
theorem byt_from (s : ByteArray) (i : Nat) : byt (s.extract i s.size) = (byt s).drop i := by
  rw [byt_ext, List.take_of_length_le (by rw [byt_len]; exact Nat.le_refl _)]
theorem byt_upto (s : ByteArray) (j : Nat) : byt (s.extract 0 j) = (byt s).take j := by
  rw [byt_ext]; simp
/-- the string of some numbers -/
def str (l : List Nat) : ByteArray := ⟨(l.map Nat.toUInt8).toArray⟩
theorem byt_str {l : List Nat} (h : ∀ x ∈ l, x < 256) : byt (str l) = l := by
  unfold byt str
  simp only [List.map_map]
  conv => rhs; rw [← List.map_id l]
  apply List.map_congr_left
  intro x hx
  have := h x hx
  simp only [Function.comp, id]
  show (UInt8.ofNat x).toNat = x
  rw [UInt8.toNat_ofNat']
  omega
theorem str_byt (s : ByteArray) : str (byt s) = s := byt_inj (byt_str (byt_lt s))
theorem str_of {s : ByteArray} {l : List Nat} (h : byt s = l) : s = str l := by rw [← h, str_byt]
theorem str_len (l : List Nat) : (str l).size = l.length := by show (l.map Nat.toUInt8).toArray.size = _; simp
theorem byt_nil {s : ByteArray} (h : s.size = 0) : byt s = [] := by
  rw [← List.length_eq_zero_iff, byt_len, h]

theorem get_byt (s : ByteArray) (k : Nat) (h : k < s.size) : (s.get! k).toNat = (byt s).getD k 0 := by
  have e : s.get! k = s[k] := by simp [ByteArray.get!, getElem!_pos, h]; rfl
  rw [e, List.getD_eq_getElem?_getD, byt_get s k h]; rfl
/-- where a sign stands the range takes just it -/
theorem decode_sign (s : ByteArray) (i c : Nat) (r : List Nat) (hc : Sg c) (h : (byt s).drop i = put c ++ r) : Utf8.decode s i = (c, (put c).length) := by
  have hlen : s.size - i = (put c).length + r.length := by
    have := congrArg List.length h
    rw [List.length_drop, byt_len, List.length_append] at this; exact this
  have hp := put_len c
  have key : ∀ k x, k < (put c).length → (put c)[k]? = some x → (s.get! (i + k)).toNat = x := by
    intro k x hk hx
    rw [get_byt s (i + k) (by omega), List.getD_eq_getElem?_getD]
    have : ((byt s).drop i)[k]? = some x := by rw [h, List.getElem?_append_left hk]; exact hx
    rw [List.getElem?_drop] at this
    rw [this]; rfl
  unfold Sg at hc
  rcases put_cases c with ⟨h1, e⟩ | ⟨h1, h2, e⟩ | ⟨h1, h2, e⟩ | ⟨h1, e⟩ <;> rw [e] at key hlen hp ⊢ <;> simp only [List.length_cons, List.length_nil, Nat.zero_add, Nat.reduceAdd] at key hlen hp ⊢
  · have k0 := key 0 _ (by omega) rfl
    simp only [Utf8.decode, k0]
    rw [if_pos h1]
  · have k0 := key 0 _ (by omega) rfl
    have k1 := key 1 _ (by omega) rfl
    have s1 : i + 1 < s.size := by omega
    simp only [Utf8.decode, k0, k1]
    rw [if_neg (by omega), if_pos (by simp; omega), if_pos (by omega)]
    congr 1
    omega
  · have k0 := key 0 _ (by omega) rfl
    have k1 := key 1 _ (by omega) rfl
    have k2 := key 2 _ (by omega) rfl
    have s1 : i + 1 < s.size := by omega
    have s2 : i + 2 < s.size := by omega
    simp only [Utf8.decode, k0, k1, k2]
    have e : (224 + c / 4096) % 16 * 4096 + (128 + c / 64 % 64) % 64 * 64 + (128 + c % 64) % 64 = c := by omega
    rw [if_neg (by omega), if_neg (by simp; omega), if_pos (by simp; omega), e, if_pos]
    simp [Utf8.valid]; omega
  · have k0 := key 0 _ (by omega) rfl
    have k1 := key 1 _ (by omega) rfl
    have k2 := key 2 _ (by omega) rfl
    have k3 := key 3 _ (by omega) rfl
    have s1 : i + 1 < s.size := by omega
    have s2 : i + 2 < s.size := by omega
    have s3 : i + 3 < s.size := by omega
    simp only [Utf8.decode, k0, k1, k2, k3]
    have e : (240 + c / 262144) % 8 * 262144 + (128 + c / 4096 % 64) % 64 * 4096 + (128 + c / 64 % 64) % 64 * 64 + (128 + c % 64) % 64 = c := by omega
    rw [if_neg (by omega), if_neg (by simp; omega), if_neg (by simp; omega), if_pos (by simp; omega), e, if_pos]
    simp [Utf8.valid]; omega
end Ut
end Go.Proofs.YtpddkchnogfjkaaDoor
