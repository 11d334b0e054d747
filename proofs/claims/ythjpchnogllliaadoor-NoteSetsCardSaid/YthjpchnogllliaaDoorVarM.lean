/- Varints on lists of bytes: plain mathematics, without the program. -/
import Derived.Below
namespace Go.Proofs.YthjpchnogllliaaDoor.VarM

/-- The varint of a number: its groups of seven bits, the least one first. -/
def put (u : Nat) : List UInt8 :=
  if u < 128 then [UInt8.ofNat u] else UInt8.ofNat (u % 128 + 128) :: put (u / 128)
termination_by u
decreasing_by omega

/-- What is read at index i, with k bytes left to read and the number u so far. 0: read, 4: too short, 6: too great. -/
def takeA : Nat → Nat → Nat → List UInt8 → Nat × Nat × Nat
  | 0, _, _, _ => (0, 0, 6)
  | _ + 1, _, _, [] => (0, 0, 4)
  | k + 1, i, u, c :: l =>
    if i = 9 ∧ 1 < c.toNat then (0, 0, 6)
    else if c.toNat < 128 then (u + c.toNat % 128 * 128 ^ i, i + 1, 0)
    else takeA k (i + 1) (u + c.toNat % 128 * 128 ^ i) l
def take (l : List UInt8) : Nat × Nat × Nat := takeA 10 0 0 l

theorem put_small {u : Nat} (h : u < 128) : put u = [UInt8.ofNat u] := by rw [put, if_pos h]
theorem put_large {u : Nat} (h : ¬ u < 128) : put u = UInt8.ofNat (u % 128 + 128) :: put (u / 128) := by rw [put, if_neg h]

theorem put_ne (u : Nat) : put u ≠ [] := by
  by_cases h : u < 128
  · rw [put_small h]; simp
  · rw [put_large h]; simp

/-- A number below 128 to the k (k at least 1) has at most k groups. -/
theorem put_le : ∀ (k u : Nat), u < 128 ^ (k + 1) → (put u).length ≤ k + 1
  | 0, u, h => by rw [put_small (by simpa using h)]; simp
  | k + 1, u, h => by
    by_cases h1 : u < 128
    · rw [put_small h1]; simp
    · rw [put_large h1]
      have hu : u / 128 < 128 ^ (k + 1) := by
        rw [Nat.pow_succ] at h
        omega
      have := put_le k (u / 128) hu
      simp; omega
theorem put_ge : ∀ (k u : Nat), 128 ^ k ≤ u → k + 1 ≤ (put u).length
  | 0, u, _ => by
    have := put_ne u
    cases h : put u with
    | nil => exact absurd h this
    | cons a l => simp
  | k + 1, u, h => by
    have h1 : ¬ u < 128 := by
      have : 128 ^ (k + 1) ≥ 128 ^ 1 := Nat.pow_le_pow_right (by omega) (by omega)
      omega
    rw [put_large h1]
    have hu : 128 ^ k ≤ u / 128 := by
      rw [Nat.pow_succ] at h
      omega
    have := put_ge k (u / 128) hu
    simp; omega
theorem put_mono {u v : Nat} (h : u ≤ v) : (put u).length ≤ (put v).length := by
  have hv : 1 ≤ (put v).length := by
    have := put_ne v
    cases hh : put v with
    | nil => exact absurd hh this
    | cons a l => simp
  obtain ⟨k, hk⟩ : ∃ k, (put v).length = k + 1 := ⟨(put v).length - 1, by omega⟩
  rw [hk]
  apply put_le
  refine Nat.lt_of_le_of_lt h (Nat.lt_of_not_le fun hge => ?_)
  have := put_ge (k + 1) v hge
  omega

theorem toNat_ofNat {n : Nat} (h : n < 256) : (UInt8.ofNat n).toNat = n := by
  rw [UInt8.toNat_ofNat']; exact Nat.mod_eq_of_lt (by omega)

/-- What was written is read again, whatever follows. -/
theorem takeA_put : ∀ (k i u acc : Nat) (r : List UInt8), i + k = 10 → 1 ≤ k → u < 128 ^ k → (i + k = 10 → u * 128 ^ i < 18446744073709551616) →
    takeA k i acc (put u ++ r) = (acc + u * 128 ^ i, i + (put u).length, 0)
  | 0, _, _, _, _, _, h, _, _ => by omega
  | k + 1, i, u, acc, r, hik, _, hu, h64 => by
    by_cases h : u < 128
    · rw [put_small h]
      have e := toNat_ofNat (n := u) (by omega)
      simp only [List.cons_append, List.nil_append, takeA, e]
      have h9 : ¬ (i = 9 ∧ 1 < u) := by
        rintro ⟨rfl, hu1⟩
        have := h64 hik
        omega
      rw [if_neg h9, if_pos h, Nat.mod_eq_of_lt h]
      simp
    · rw [put_large h]
      have e := toNat_ofNat (n := u % 128 + 128) (by omega)
      have h9 : ¬ (i = 9 ∧ 1 < u % 128 + 128) := by
        rintro ⟨rfl, _⟩
        have := h64 hik
        omega
      simp only [List.cons_append, takeA, e]
      rw [if_neg h9, if_neg (by omega)]
      have hk : 1 ≤ k := by
        rcases Nat.eq_zero_or_pos k with rfl | hk
        · simp at hu; omega
        · exact hk
      have hu' : u / 128 < 128 ^ k := by
        rw [Nat.pow_succ] at hu
        omega
      have hm : u * 128 ^ i = u % 128 * 128 ^ i + u / 128 * 128 ^ (i + 1) := by
        rw [Nat.pow_succ, ← Nat.mul_assoc, Nat.mul_right_comm, ← Nat.add_mul]
        congr 1
        omega
      rw [takeA_put k (i + 1) (u / 128) _ r (by omega) hk hu' (fun _ => Nat.lt_of_le_of_lt (by rw [hm]; omega) (h64 hik))]
      have e2 : (u % 128 + 128) % 128 = u % 128 := by omega
      rw [e2, hm]
      simp only [List.length_cons, Prod.mk.injEq]
      refine ⟨by omega, by omega, trivial⟩
theorem take_put {u : Nat} (h : u < 18446744073709551616) (r : List UInt8) : take (put u ++ r) = (u, (put u).length, 0) := by
  rw [take, takeA_put 10 0 u 0 r (by omega) (by omega) (by omega) (by intro _; omega)]
  simp

/-- What is read begins with the varint of the number, or with a longer form of it; what is accepted as short is the varint. -/
theorem takeA_bound : ∀ (k i acc : Nat) (l : List UInt8) (u n : Nat), takeA k i acc l = (u, n, 0) → i < n ∧ n ≤ i + l.length ∧ n ≤ i + k
  | 0, _, _, _, _, _, h => by simp [takeA] at h
  | _ + 1, _, _, [], _, _, h => by simp [takeA] at h
  | k + 1, i, acc, c :: l, u, n, h => by
    simp only [takeA] at h
    split at h
    · simp at h
    · split at h
      · simp only [Prod.mk.injEq, and_true] at h
        simp; omega
      · have := takeA_bound k (i + 1) _ l u n h
        simp; omega
theorem step_short {l : List UInt8} {k acc : Nat} (h : take l = takeA (10 - k) k acc (l.drop k)) (hk : k ≤ 9) (hl : l.length ≤ k) : take l = (0, 0, 4) := by
  rw [h, List.drop_eq_nil_of_le hl, show 10 - k = (9 - k) + 1 from by omega]
  rfl
theorem step_range {l : List UInt8} {k acc : Nat} (h : take l = takeA (10 - k) k acc (l.drop k)) (hk : k = 9) (hl : k < l.length) (hc : 1 < l[k].toNat) : take l = (0, 0, 6) := by
  subst hk
  rw [h, List.drop_eq_getElem_cons hl]
  simp only [takeA]
  rw [if_pos ⟨trivial, hc⟩]
theorem step_done {l : List UInt8} {k acc : Nat} (h : take l = takeA (10 - k) k acc (l.drop k)) (hk : k ≤ 9) (hl : k < l.length) (h9 : ¬ (k = 9 ∧ 1 < l[k].toNat)) (hc : l[k].toNat < 128) :
    take l = (acc + l[k].toNat % 128 * 128 ^ k, k + 1, 0) := by
  rw [h, List.drop_eq_getElem_cons hl, show 10 - k = (9 - k) + 1 from by omega]
  simp only [takeA]
  rw [if_neg h9, if_pos hc]
theorem step_more {l : List UInt8} {k acc : Nat} (h : take l = takeA (10 - k) k acc (l.drop k)) (hk : k ≤ 9) (hl : k < l.length) (h9 : ¬ (k = 9 ∧ 1 < l[k].toNat)) (hc : ¬ l[k].toNat < 128) :
    take l = takeA (10 - (k + 1)) (k + 1) (acc + l[k].toNat % 128 * 128 ^ k) (l.drop (k + 1)) := by
  rw [h, List.drop_eq_getElem_cons hl, show 10 - k = (9 - k) + 1 from by omega]
  simp only [takeA]
  rw [if_neg h9, if_neg hc, show 10 - (k + 1) = 9 - k from by omega]
/-- One group more stays below the next power. -/
theorem acc_lt {acc k c : Nat} (h : acc < 128 ^ k) : acc + c % 128 * 128 ^ k < 128 ^ (k + 1) := by
  rw [Nat.pow_succ]
  have h1 : c % 128 * 128 ^ k ≤ 127 * 128 ^ k := Nat.mul_le_mul_right _ (by omega)
  omega
/-- What has been read fits in 64 bits. -/
theorem acc_le {acc k c : Nat} (h : acc < 128 ^ k) (hk : k ≤ 9) (h9 : ¬ (k = 9 ∧ 1 < c)) : acc + c % 128 * 128 ^ k ≤ 18446744073709551615 := by
  by_cases e : k = 9
  · subst e
    have : c ≤ 1 := by omega
    have h1 : c % 128 * 128 ^ 9 ≤ 1 * 128 ^ 9 := Nat.mul_le_mul_right _ (by omega)
    omega
  · have h1 := acc_lt (c := c) h
    have h2 : 128 ^ (k + 1) ≤ 128 ^ 9 := Nat.pow_le_pow_right (by omega) (by omega)
    omega

theorem bstep_short {s : ByteArray} {k acc : Nat} (h : take s.data.toList = takeA (10 - k) k acc (s.data.toList.drop k)) (hk : k ≤ 9) (hl : s.size ≤ k) : take s.data.toList = (0, 0, 4) := step_short h hk hl
theorem bstep_range {s : ByteArray} {k acc : Nat} (h : take s.data.toList = takeA (10 - k) k acc (s.data.toList.drop k)) (hk : k = 9) (hl : k < s.size) (hc : 1 < (s[k].toNat : Int)) : take s.data.toList = (0, 0, 6) :=
  step_range h hk hl (show 1 < s[k].toNat from by omega)
theorem bstep_done {s : ByteArray} {k acc : Nat} (h : take s.data.toList = takeA (10 - k) k acc (s.data.toList.drop k)) (hk : k ≤ 9) (hl : k < s.size) (h9 : ¬ (k = 9 ∧ 1 < (s[k].toNat : Int))) (hc : (s[k].toNat : Int) < 128) :
    take s.data.toList = (acc + s[k].toNat % 128 * 128 ^ k, k + 1, 0) :=
  step_done h hk hl (show ¬ (k = 9 ∧ 1 < s[k].toNat) from fun e => h9 ⟨e.1, by omega⟩) (show s[k].toNat < 128 from by omega)
theorem bstep_more {s : ByteArray} {k acc : Nat} (h : take s.data.toList = takeA (10 - k) k acc (s.data.toList.drop k)) (hk : k ≤ 9) (hl : k < s.size) (h9 : ¬ (k = 9 ∧ 1 < (s[k].toNat : Int))) (hc : ¬ (s[k].toNat : Int) < 128) :
    take s.data.toList = takeA (10 - (k + 1)) (k + 1) (acc + s[k].toNat % 128 * 128 ^ k) (s.data.toList.drop (k + 1)) :=
  step_more h hk hl (show ¬ (k = 9 ∧ 1 < s[k].toNat) from fun e => h9 ⟨e.1, by omega⟩) (show ¬ s[k].toNat < 128 from by omega)

theorem pow_le8 {W k : Nat} (h : W = 128 ^ k) (hk : k ≤ 8) : (W : Int) * 128 ≤ 18446744073709551615 := by
  have h2 : 128 ^ k ≤ 128 ^ 8 := Nat.pow_le_pow_right (by omega) hk
  have h3 : W ≤ 72057594037927936 := by rw [h]; exact h2
  omega

end Go.Proofs.YthjpchnogllliaaDoor.VarM
