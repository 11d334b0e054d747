/- Reading on: what Byte gives behind k bytes, what Text gives, what is read of a number's bytes: plain mathematics. -/
import Derived.Test.YtdgbbfhhjhhahaaCurM
namespace Go.Proofs.Ytdgbbfhhjhhahaa.CurG
open VarM FixM CurM

theorem size_data (s : ByteArray) : s.data.toList.length = s.size := rfl
theorem toList_get (s : ByteArray) (k : Nat) (h : k < s.size) : s.data.toList[k]'h = s[k] := rfl

/-- Text of a cursor: an error, or the next bytes. -/
theorem text_cases (c : Cur) (n : Int) : (∃ x : Int, 0 < x ∧ pText c n = (⟨#[]⟩, c, x)) ∨ ∃ m : Nat, n = m ∧ m ≤ (rest c).size ∧ pText c n = ((rest c).extract 0 m, fwd c m, 0) := by
  unfold pText
  by_cases h1 : n < 0
  · exact .inl ⟨1, by omega, by rw [if_pos h1]⟩
  · by_cases h2 : ((rest c).size : Int) < n
    · exact .inl ⟨4, by omega, by rw [if_neg h1, if_pos h2]⟩
    · by_cases h3 : c.t < n
      · exact .inl ⟨3, by omega, by rw [if_neg h1, if_neg h2, if_pos h3]⟩
      · refine .inr ⟨n.toNat, by omega, by omega, ?_⟩
        rw [if_neg h1, if_neg h2, if_neg h3]
        have e : ((n.toNat : Nat) : Int) = n := by omega
        rw [e]

/-- The byte k of a part is read behind k bytes. -/
theorem byte_fwd {c : Cur} {k m : Nat} {s : ByteArray} (hs : s = (rest c).extract 0 m) (hm : m ≤ (rest c).size) (hk : k < m) (hk' : k < s.size) :
    pByte (fwd c k) = ((s[k]).toNat, fwd c (k + 1 : Nat), 0) := by
  have hsd : sound c = true := by
    cases h : sound c with
    | true => rfl
    | false => rw [rest_size_no h] at hm; omega
  have h1 := sound_iff.1 hsd
  have h2 := rest_size_yes hsd
  have hsd' : sound (fwd c k) = true := sound_iff.2 ⟨by simp only [fwd]; omega, by simp only [fwd]; omega, by simp only [fwd]; omega⟩
  have h3 := rest_size_yes hsd'
  have h4 : (fwd c k).e - (fwd c k).a = c.e - (c.a + k) := rfl
  rw [h4] at h3
  have e2 : fwd (fwd c k) 1 = fwd c (k + 1 : Nat) := by
    unfold fwd
    simp only [Cur.mk.injEq, true_and, and_true]
    omega
  unfold pByte
  rw [dif_pos (by omega), e2]
  congr 2
  subst hs
  have e3 := rest_yes hsd
  have e4 := rest_yes hsd'
  have e5 : (fwd c k).a.toNat = c.a.toNat + k := by simp only [fwd]; omega
  have e6 : (fwd c k).d = c.d := rfl
  have e7 : (fwd c k).e = c.e := rfl
  rw [e5, e6, e7] at e4
  simp only [ByteArray.getElem_extract, e3, e4]
  congr 1
  simp only [Nat.zero_add, Nat.add_zero]

/-- A number's varint, with a tail. -/
theorem open_tail {s : ByteArray} (hs : s.size ≤ 4000) : pOpen s 4000 0 0 0 = (⟨s, 0, s.size, 0, 0, 0⟩, 0) := by
  unfold pOpen
  rw [if_pos (by omega), if_neg (by omega)]
theorem sound_at {s : ByteArray} {k : Nat} (h : k ≤ s.size) : sound ⟨s, k, s.size, 0, 0, 0⟩ = true := sound_iff.2 ⟨by simp, by simp only; omega, by simp⟩
theorem rest_all (s : ByteArray) : rest ⟨s, 0, s.size, 0, 0, 0⟩ = s := by
  have h := rest_yes (sound_at (s := s) (k := 0) (Nat.zero_le _))
  have e : ((0 : Nat) : Int) = 0 := rfl
  rw [e] at h
  rw [h]
  simp
theorem left_at {s : ByteArray} {k : Nat} (h : k ≤ s.size) : (rest ⟨s, k, s.size, 0, 0, 0⟩).size = s.size - k := by
  have := rest_size_yes (sound_at h)
  simp only at this
  omega
theorem fwd_zero (s : ByteArray) (k : Nat) : fwd ⟨s, 0, s.size, 0, 0, 0⟩ k = ⟨s, k, s.size, 0, 0, 0⟩ := by
  unfold fwd; simp
theorem varint_tail {s tail : ByteArray} {u : Nat} (hs : s.data.toList = put u ++ tail.data.toList) (hu : u < 18446744073709551616) :
    pVarint ⟨s, 0, s.size, 0, 0, 0⟩ = (u, ⟨s, (put u).length, s.size, 0, 0, 0⟩, 0) := by
  have ht := take_put hu tail.data.toList
  rw [← hs] at ht
  unfold pVarint
  rw [rest_all, ht, if_pos rfl, fwd_zero]
theorem fixed_tail {s tail : ByteArray} {u : Nat} (hs : s.data.toList = fix 8 u ++ tail.data.toList) (hu : u < 18446744073709551616) :
    pFixed ⟨s, 0, s.size, 0, 0, 0⟩ = (u, ⟨s, (8 : Nat), s.size, 0, 0, 0⟩, 0) := by
  have hl : s.size = 8 + tail.size := by
    have := congrArg List.length hs
    rw [List.length_append, fix_length, size_data, size_data] at this
    exact this
  unfold pFixed
  rw [rest_all, if_neg (by omega), hs]
  have e : (fix 8 u ++ tail.data.toList).take 8 = fix 8 u := List.take_left' (fix_length 8 u)
  rw [e, num_fix]
  have e2 : fwd ⟨s, 0, s.size, 0, 0, 0⟩ 8 = ⟨s, (8 : Nat), s.size, 0, 0, 0⟩ := fwd_zero s 8
  rw [e2]
  have e3 : u % 256 ^ 8 = u := Nat.mod_eq_of_lt (by omega)
  rw [e3]
end Go.Proofs.Ytdgbbfhhjhhahaa.CurG
