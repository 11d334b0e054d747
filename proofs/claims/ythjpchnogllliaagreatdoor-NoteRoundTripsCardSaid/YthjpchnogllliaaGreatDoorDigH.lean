import Derived.Below
import Derived.Test.YthjpchnogllliaaGreatDoorRows
import Derived.WalkKit
/- Varints on lists of bytes: plain mathematics, without the program. -/
namespace Go.Proofs.YthjpchnogllliaaGreatDoor.VarM

/-- The varint of a number: its groups of seven bits, the least one first. -/
def put (u : Nat) : List UInt8 :=
  if u < 128 then [UInt8.ofNat u] else UInt8.ofNat (u % 128 + 128) :: put (u / 128)
termination_by u
decreasing_by omega

/-- What is read at index i, with k bytes left to read and the number u so far. 0: read, 4: too short, 6: too great. -/
def takeA : Nat → Nat → Nat → List UInt8 → Nat × Nat × Nat
  | 0, _, _, _ => (0, 0, 6)
  | _ + 1, _, _, [] => (0, 0, 4)
  | k + 1, i, u, c :: l =>
    if i = 9 ∧ 1 < c.toNat then (0, 0, 6)
    else if c.toNat < 128 then (u + c.toNat % 128 * 128 ^ i, i + 1, 0)
    else takeA k (i + 1) (u + c.toNat % 128 * 128 ^ i) l
def take (l : List UInt8) : Nat × Nat × Nat := takeA 10 0 0 l

theorem put_small {u : Nat} (h : u < 128) : put u = [UInt8.ofNat u] := by rw [put, if_pos h]
theorem put_large {u : Nat} (h : ¬ u < 128) : put u = UInt8.ofNat (u % 128 + 128) :: put (u / 128) := by rw [put, if_neg h]

theorem put_ne (u : Nat) : put u ≠ [] := by
  by_cases h : u < 128
  · rw [put_small h]; simp
  · rw [put_large h]; simp

/-- A number below 128 to the k (k at least 1) has at most k groups. -/
theorem put_le : ∀ (k u : Nat), u < 128 ^ (k + 1) → (put u).length ≤ k + 1
  | 0, u, h => by rw [put_small (by simpa using h)]; simp
  | k + 1, u, h => by
    by_cases h1 : u < 128
    · rw [put_small h1]; simp
    · rw [put_large h1]
      have hu : u / 128 < 128 ^ (k + 1) := by
        rw [Nat.pow_succ] at h
        omega
      have := put_le k (u / 128) hu
      simp; omega
theorem put_ge : ∀ (k u : Nat), 128 ^ k ≤ u → k + 1 ≤ (put u).length
  | 0, u, _ => by
    have := put_ne u
    cases h : put u with
    | nil => exact absurd h this
    | cons a l => simp
  | k + 1, u, h => by
    have h1 : ¬ u < 128 := by
      have : 128 ^ (k + 1) ≥ 128 ^ 1 := Nat.pow_le_pow_right (by omega) (by omega)
      omega
    rw [put_large h1]
    have hu : 128 ^ k ≤ u / 128 := by
      rw [Nat.pow_succ] at h
      omega
    have := put_ge k (u / 128) hu
    simp; omega
theorem put_mono {u v : Nat} (h : u ≤ v) : (put u).length ≤ (put v).length := by
  have hv : 1 ≤ (put v).length := by
    have := put_ne v
    cases hh : put v with
    | nil => exact absurd hh this
    | cons a l => simp
  obtain ⟨k, hk⟩ : ∃ k, (put v).length = k + 1 := ⟨(put v).length - 1, by omega⟩
  rw [hk]
  apply put_le
  refine Nat.lt_of_le_of_lt h (Nat.lt_of_not_le fun hge => ?_)
  have := put_ge (k + 1) v hge
  omega

theorem toNat_ofNat {n : Nat} (h : n < 256) : (UInt8.ofNat n).toNat = n := by
  rw [UInt8.toNat_ofNat']; exact Nat.mod_eq_of_lt (by omega)

/-- What was written is read again, whatever follows. -/
theorem takeA_put : ∀ (k i u acc : Nat) (r : List UInt8), i + k = 10 → 1 ≤ k → u < 128 ^ k → (i + k = 10 → u * 128 ^ i < 18446744073709551616) →
    takeA k i acc (put u ++ r) = (acc + u * 128 ^ i, i + (put u).length, 0)
  | 0, _, _, _, _, _, h, _, _ => by omega
  | k + 1, i, u, acc, r, hik, _, hu, h64 => by
    by_cases h : u < 128
    · rw [put_small h]
      have e := toNat_ofNat (n := u) (by omega)
      simp only [List.cons_append, List.nil_append, takeA, e]
      have h9 : ¬ (i = 9 ∧ 1 < u) := by
        rintro ⟨rfl, hu1⟩
        have := h64 hik
        omega
      rw [if_neg h9, if_pos h, Nat.mod_eq_of_lt h]
      simp
    · rw [put_large h]
      have e := toNat_ofNat (n := u % 128 + 128) (by omega)
      have h9 : ¬ (i = 9 ∧ 1 < u % 128 + 128) := by
        rintro ⟨rfl, _⟩
        have := h64 hik
        omega
      simp only [List.cons_append, takeA, e]
      rw [if_neg h9, if_neg (by omega)]
      have hk : 1 ≤ k := by
        rcases Nat.eq_zero_or_pos k with rfl | hk
        · simp at hu; omega
        · exact hk
      have hu' : u / 128 < 128 ^ k := by
        rw [Nat.pow_succ] at hu
        omega
      have hm : u * 128 ^ i = u % 128 * 128 ^ i + u / 128 * 128 ^ (i + 1) := by
        rw [Nat.pow_succ, ← Nat.mul_assoc, Nat.mul_right_comm, ← Nat.add_mul]
        congr 1
        omega
      rw [takeA_put k (i + 1) (u / 128) _ r (by omega) hk hu' (fun _ => Nat.lt_of_le_of_lt (by rw [hm]; omega) (h64 hik))]
      have e2 : (u % 128 + 128) % 128 = u % 128 := by omega
      rw [e2, hm]
      simp only [List.length_cons, Prod.mk.injEq]
      refine ⟨by omega, by omega, trivial⟩
theorem take_put {u : Nat} (h : u < 18446744073709551616) (r : List UInt8) : take (put u ++ r) = (u, (put u).length, 0) := by
  rw [take, takeA_put 10 0 u 0 r (by omega) (by omega) (by omega) (by intro _; omega)]
  simp

/-- What is read begins with the varint of the number, or with a longer form of it; what is accepted as short is the varint. -/
theorem takeA_bound : ∀ (k i acc : Nat) (l : List UInt8) (u n : Nat), takeA k i acc l = (u, n, 0) → i < n ∧ n ≤ i + l.length ∧ n ≤ i + k
  | 0, _, _, _, _, _, h => by simp [takeA] at h
  | _ + 1, _, _, [], _, _, h => by simp [takeA] at h
  | k + 1, i, acc, c :: l, u, n, h => by
    simp only [takeA] at h
    split at h
    · simp at h
    · split at h
      · simp only [Prod.mk.injEq, and_true] at h
        simp; omega
      · have := takeA_bound k (i + 1) _ l u n h
        simp; omega
theorem step_short {l : List UInt8} {k acc : Nat} (h : take l = takeA (10 - k) k acc (l.drop k)) (hk : k ≤ 9) (hl : l.length ≤ k) : take l = (0, 0, 4) := by
  rw [h, List.drop_eq_nil_of_le hl, show 10 - k = (9 - k) + 1 from by omega]
  rfl
theorem step_range {l : List UInt8} {k acc : Nat} (h : take l = takeA (10 - k) k acc (l.drop k)) (hk : k = 9) (hl : k < l.length) (hc : 1 < l[k].toNat) : take l = (0, 0, 6) := by
  subst hk
  rw [h, List.drop_eq_getElem_cons hl]
  simp only [takeA]
  rw [if_pos ⟨trivial, hc⟩]
theorem step_done {l : List UInt8} {k acc : Nat} (h : take l = takeA (10 - k) k acc (l.drop k)) (hk : k ≤ 9) (hl : k < l.length) (h9 : ¬ (k = 9 ∧ 1 < l[k].toNat)) (hc : l[k].toNat < 128) :
    take l = (acc + l[k].toNat % 128 * 128 ^ k, k + 1, 0) := by
  rw [h, List.drop_eq_getElem_cons hl, show 10 - k = (9 - k) + 1 from by omega]
  simp only [takeA]
  rw [if_neg h9, if_pos hc]
theorem step_more {l : List UInt8} {k acc : Nat} (h : take l = takeA (10 - k) k acc (l.drop k)) (hk : k ≤ 9) (hl : k < l.length) (h9 : ¬ (k = 9 ∧ 1 < l[k].toNat)) (hc : ¬ l[k].toNat < 128) :
    take l = takeA (10 - (k + 1)) (k + 1) (acc + l[k].toNat % 128 * 128 ^ k) (l.drop (k + 1)) := by
  rw [h, List.drop_eq_getElem_cons hl, show 10 - k = (9 - k) + 1 from by omega]
  simp only [takeA]
  rw [if_neg h9, if_neg hc, show 10 - (k + 1) = 9 - k from by omega]
/-- One group more stays below the next power. -/
theorem acc_lt {acc k c : Nat} (h : acc < 128 ^ k) : acc + c % 128 * 128 ^ k < 128 ^ (k + 1) := by
  rw [Nat.pow_succ]
  have h1 : c % 128 * 128 ^ k ≤ 127 * 128 ^ k := Nat.mul_le_mul_right _ (by omega)
  omega
/-- What has been read fits in 64 bits. -/
theorem acc_le {acc k c : Nat} (h : acc < 128 ^ k) (hk : k ≤ 9) (h9 : ¬ (k = 9 ∧ 1 < c)) : acc + c % 128 * 128 ^ k ≤ 18446744073709551615 := by
  by_cases e : k = 9
  · subst e
    have : c ≤ 1 := by omega
    have h1 : c % 128 * 128 ^ 9 ≤ 1 * 128 ^ 9 := Nat.mul_le_mul_right _ (by omega)
    omega
  · have h1 := acc_lt (c := c) h
    have h2 : 128 ^ (k + 1) ≤ 128 ^ 9 := Nat.pow_le_pow_right (by omega) (by omega)
    omega

theorem bstep_short {s : ByteArray} {k acc : Nat} (h : take s.data.toList = takeA (10 - k) k acc (s.data.toList.drop k)) (hk : k ≤ 9) (hl : s.size ≤ k) : take s.data.toList = (0, 0, 4) := step_short h hk hl
theorem bstep_range {s : ByteArray} {k acc : Nat} (h : take s.data.toList = takeA (10 - k) k acc (s.data.toList.drop k)) (hk : k = 9) (hl : k < s.size) (hc : 1 < (s[k].toNat : Int)) : take s.data.toList = (0, 0, 6) :=
  step_range h hk hl (show 1 < s[k].toNat from by omega)
theorem bstep_done {s : ByteArray} {k acc : Nat} (h : take s.data.toList = takeA (10 - k) k acc (s.data.toList.drop k)) (hk : k ≤ 9) (hl : k < s.size) (h9 : ¬ (k = 9 ∧ 1 < (s[k].toNat : Int))) (hc : (s[k].toNat : Int) < 128) :
    take s.data.toList = (acc + s[k].toNat % 128 * 128 ^ k, k + 1, 0) :=
  step_done h hk hl (show ¬ (k = 9 ∧ 1 < s[k].toNat) from fun e => h9 ⟨e.1, by omega⟩) (show s[k].toNat < 128 from by omega)
theorem bstep_more {s : ByteArray} {k acc : Nat} (h : take s.data.toList = takeA (10 - k) k acc (s.data.toList.drop k)) (hk : k ≤ 9) (hl : k < s.size) (h9 : ¬ (k = 9 ∧ 1 < (s[k].toNat : Int))) (hc : ¬ (s[k].toNat : Int) < 128) :
    take s.data.toList = takeA (10 - (k + 1)) (k + 1) (acc + s[k].toNat % 128 * 128 ^ k) (s.data.toList.drop (k + 1)) :=
  step_more h hk hl (show ¬ (k = 9 ∧ 1 < s[k].toNat) from fun e => h9 ⟨e.1, by omega⟩) (show ¬ s[k].toNat < 128 from by omega)

theorem pow_le8 {W k : Nat} (h : W = 128 ^ k) (hk : k ≤ 8) : (W : Int) * 128 ≤ 18446744073709551615 := by
  have h2 : 128 ^ k ≤ 128 ^ 8 := Nat.pow_le_pow_right (by omega) hk
  have h3 : W ≤ 72057594037927936 := by rw [h]; exact h2
  omega

end Go.Proofs.YthjpchnogllliaaGreatDoor.VarM

/- Eight bytes of a number: plain mathematics. -/
namespace Go.Proofs.YthjpchnogllliaaGreatDoor.FixM
open Go.RowKit VarM

/-- The first k bytes of u, the least one first. -/
def fix : Nat → Nat → List UInt8
  | 0, _ => []
  | k + 1, u => UInt8.ofNat (u % 256) :: fix k (u / 256)
theorem fix_length : ∀ k u, (fix k u).length = k
  | 0, _ => rfl
  | k + 1, u => by simp [fix, fix_length k]
theorem fix_snoc : ∀ k u, fix (k + 1) u = fix k u ++ [UInt8.ofNat (u / 256 ^ k % 256)]
  | 0, u => by simp [fix]
  | k + 1, u => by
    rw [fix, fix_snoc k (u / 256), fix]
    simp only [List.cons_append]
    congr 5
    rw [Nat.div_div_eq_div_mul, Nat.pow_succ, Nat.mul_comm]

/-- The number of bytes, the least one first. -/
def num : List UInt8 → Nat
  | [] => 0
  | c :: l => c.toNat + 256 * num l
theorem num_append : ∀ (l r : List UInt8), num (l ++ r) = num l + 256 ^ l.length * num r
  | [], r => by simp [num]
  | c :: l, r => by
    rw [List.cons_append, num, num_append l r, num, List.length_cons, Nat.pow_succ, Nat.mul_add, ← Nat.mul_assoc, Nat.mul_comm 256 (256 ^ l.length), Nat.add_assoc]
theorem num_lt : ∀ l : List UInt8, num l < 256 ^ l.length
  | [] => by simp [num]
  | c :: l => by
    have := num_lt l
    have := c.toNat_lt
    rw [num, List.length_cons, Nat.pow_succ]
    omega
theorem num_fix : ∀ k u, num (fix k u) = u % 256 ^ k
  | 0, u => by simp [num, fix, Nat.mod_one]
  | k + 1, u => by
    rw [fix, num, num_fix k, toNat_ofNat (by omega), Nat.pow_succ, Nat.mul_comm (256 ^ k) 256, Nat.mod_mul]

/-- Bytes i up to 8 of a string, as a number. -/
theorem take_snoc (s : ByteArray) (k : Nat) (h : k < s.size) : s.data.toList.take (k + 1) = s.data.toList.take k ++ [s[k]] := by
  rw [List.take_succ_eq_append_getElem (by simpa using h)]; rfl
theorem num_snoc (s : ByteArray) (k : Nat) (h : k < s.size) : num (s.data.toList.take (k + 1)) = num (s.data.toList.take k) + s[k].toNat * 256 ^ k := by
  have hl : (s.data.toList.take k).length = k := by
    have e : s.data.toList.length = s.size := rfl
    rw [List.length_take, e]; omega
  rw [take_snoc s k h, num_append, hl]
  simp [num, Nat.mul_comm]
theorem num_take_lt (s : ByteArray) (k : Nat) : num (s.data.toList.take k) < 256 ^ k := by
  refine Nat.lt_of_lt_of_le (num_lt _) (Nat.pow_le_pow_right (by omega) (List.length_take_le _ _))
theorem num_drop (s : ByteArray) (k : Nat) (h : k < s.size) (hk : k < 8) : num ((s.data.toList.take 8).drop k) = s[k].toNat + 256 * num ((s.data.toList.take 8).drop (k + 1)) := by
  have hl : k < (s.data.toList.take 8).length := by
    have e : s.data.toList.length = s.size := rfl
    rw [List.length_take, e]; omega
  rw [List.drop_eq_getElem_cons hl, num, List.getElem_take]
  rfl
/-- What TakeFixed returns. -/
def fixed (l : List UInt8) : Nat × Nat := if l.length < 8 then (0, 4) else (num (l.take 8), 0)

theorem ret2 {u u' e e' : Int} (h1 : u = u') (h3 : e = e') : Ending.returned (.tuple #[.int .u64 u, .int .i64 e]) = .returned (.tuple #[.int .u64 u', .int .i64 e']) := by rw [h1, h3]

end Go.Proofs.YthjpchnogllliaaGreatDoor.FixM

/- Hexadecimal numbers as plain mathematics: the shortest form, sixteen digits, and what is read of them. Of no program. -/
set_option linter.unusedSimpArgs false
set_option linter.unusedVariables false
namespace Go.Proofs.YthjpchnogllliaaGreatDoor.DigH

/-- A digit. -/
def hxd (n : Nat) : UInt8 := if n < 10 then UInt8.ofNat (48 + n) else UInt8.ofNat (87 + n)
/-- The shortest form. -/
def hexd (u : Nat) : List UInt8 := if u < 16 then [hxd u] else hexd (u / 16) ++ [hxd (u % 16)]
termination_by u
decreasing_by omega
theorem hexd_small {u : Nat} (h : u < 16) : hexd u = [hxd u] := by rw [hexd, if_pos h]
theorem hexd_large {u : Nat} (h : ¬ u < 16) : hexd u = hexd (u / 16) ++ [hxd (u % 16)] := by rw [hexd, if_neg h]
/-- n digits. -/
def hexN : Nat → Nat → List UInt8
  | 0, _ => []
  | n + 1, u => hexN n (u / 16) ++ [hxd (u % 16)]
theorem hexN_len : ∀ n u, (hexN n u).length = n
  | 0, u => rfl
  | n + 1, u => by rw [hexN, List.length_append, hexN_len n]; rfl
theorem hexd_pos (u : Nat) : 1 ≤ (hexd u).length := by
  rw [hexd]; split <;> simp
theorem hexd_le : ∀ (n u : Nat), u < 16 ^ (n + 1) → (hexd u).length ≤ n + 1
  | 0, u, h => by rw [hexd_small (by omega)]; simp
  | n + 1, u, h => by
    by_cases hu : u < 16
    · rw [hexd_small hu]; simp
    · have := hexd_le n (u / 16) (by rw [Nat.pow_succ] at h; omega)
      rw [hexd_large hu, List.length_append]; simp; omega
theorem hexN_zero : ∀ n, hexN n 0 = List.replicate n 48
  | 0 => rfl
  | n + 1 => by
    rw [hexN, show 0 / 16 = 0 from rfl, hexN_zero n, List.replicate_succ']
    rfl
theorem hexN_pad : ∀ (n u : Nat), u < 16 ^ (n + 1) → hexN (n + 1) u = List.replicate (n + 1 - (hexd u).length) 48 ++ hexd u
  | 0, u, h => by
    have hu : u < 16 := by omega
    rw [hexd_small hu, hexN, hexN, Nat.mod_eq_of_lt hu]; rfl
  | n + 1, u, h => by
    by_cases hu : u < 16
    · rw [hexd_small hu, hexN, Nat.mod_eq_of_lt hu, Nat.div_eq_of_lt hu, hexN_zero]
      rfl
    · have ih := hexN_pad n (u / 16) (by rw [Nat.pow_succ] at h; omega)
      rw [hexN, ih, hexd_large hu, List.length_append, List.append_assoc]
      congr 2
      simp
/-- Sixteen digits. -/
def hex16 (u : Nat) : List UInt8 := hexN 16 u
theorem hex16_pad {u : Nat} (h : u ≤ 18446744073709551615) : List.replicate (16 - (hexd u).length) 48 ++ hexd u = hex16 u := (hexN_pad 15 u (by omega)).symm
theorem hexd_16 {u : Nat} (h : u ≤ 18446744073709551615) : (hexd u).length ≤ 16 := hexd_le 15 u (by omega)
theorem hex16_len (u : Nat) : (hex16 u).length = 16 := hexN_len 16 u

/-- What a small digit means. -/
def digv (c : UInt8) : Option Nat := if 48 ≤ c.toNat ∧ c.toNat ≤ 57 then some (c.toNat - 48) else if 97 ≤ c.toNat ∧ c.toNat ≤ 102 then some (c.toNat - 87) else none
theorem digv_hxd {n : Nat} (h : n < 16) : digv (hxd n) = some n := by
  have : ∀ k : Fin 16, digv (hxd k.val) = some k.val := by decide
  exact this ⟨n, h⟩
theorem hxd_digv {c : UInt8} {d : Nat} (h : digv c = some d) : hxd d = c ∧ d < 16 := by
  have hc := c.toNat_lt
  unfold digv at h
  split at h
  · injection h with h
    refine ⟨?_, by omega⟩
    apply UInt8.toNat_inj.1
    unfold hxd
    rw [if_pos (by omega), VarM.toNat_ofNat (by omega)]; omega
  · split at h
    · injection h with h
      refine ⟨?_, by omega⟩
      apply UInt8.toNat_inj.1
      unfold hxd
      rw [if_neg (by omega), VarM.toNat_ofNat (by omega)]; omega
    · cases h
def par (acc : Nat) : List UInt8 → Option Nat
  | [] => some acc
  | c :: l => match digv c with | none => none | some d => par (acc * 16 + d) l
theorem par_back : ∀ (l : List UInt8) (acc m v : Nat), par acc l = some v → hexN (m + l.length) v = hexN m acc ++ l
  | [], acc, m, v, h => by
    injection h with h; subst h; simp
  | c :: l, acc, m, v, h => by
    rw [par] at h
    cases hd : digv c with
    | none => rw [hd] at h; cases h
    | some d =>
      rw [hd] at h
      obtain ⟨h1, h2⟩ := hxd_digv hd
      have ih := par_back l (acc * 16 + d) (m + 1) v h
      rw [List.length_cons, show m + (l.length + 1) = m + 1 + l.length by omega, ih, hexN, show (acc * 16 + d) / 16 = acc by omega, show (acc * 16 + d) % 16 = d by omega, h1]
      simp
theorem par_snoc : ∀ (l : List UInt8) (acc v d : Nat) (c : UInt8), par acc l = some v → digv c = some d → par acc (l ++ [c]) = some (v * 16 + d)
  | [], acc, v, d, c, h, hd => by injection h with h; subst h; show (match digv c with | none => none | some d => par (acc * 16 + d) []) = _; rw [hd]; rfl
  | b :: l, acc, v, d, c, h, hd => by
    rw [par] at h
    rw [List.cons_append, par]
    cases hb : digv b with
    | none => rw [hb] at h; cases h
    | some e => rw [hb] at h; exact par_snoc l _ v d c h hd
theorem par_hexN : ∀ (n u : Nat), u < 16 ^ n → par 0 (hexN n u) = some u
  | 0, u, h => by
    obtain rfl : u = 0 := by simpa using h
    rfl
  | n + 1, u, h => by
    rw [hexN, par_snoc _ 0 (u / 16) (u % 16) _ (par_hexN n (u / 16) (by rw [Nat.pow_succ] at h; omega)) (digv_hxd (Nat.mod_lt _ (by decide)))]
    congr 1; omega

/-- What Parse returns. -/
def parP (l : List UInt8) : Nat × Int := if l.length = 16 then (match par 0 l with | some v => (v, 0) | none => (0, 2)) else (0, 2)
theorem parP_some {l : List UInt8} {v : Nat} (hl : l.length = 16) (h : par 0 l = some v) : parP l = (v, 0) := by unfold parP; rw [if_pos hl, h]
theorem parP_none {l : List UInt8} (h : par 0 l = none) : parP l = (0, 2) := by unfold parP; rw [h]; simp
theorem parP_len {l : List UInt8} (h : ¬ l.length = 16) : parP l = (0, 2) := by unfold parP; rw [if_neg h]
theorem parP_text {u : Nat} (h : u ≤ 18446744073709551615) : parP (hex16 u) = (u, 0) := parP_some (hex16_len u) (par_hexN 16 u (by omega))
theorem parP_back {l : List UInt8} {u : Nat} (h : parP l = (u, 0)) : hex16 u = l := by
  by_cases hl : l.length = 16
  · cases hp : par 0 l with
    | none =>
      rw [parP_none hp] at h
      have e : (2 : Int) = 0 := congrArg Prod.snd h
      omega
    | some v =>
      rw [parP_some hl hp] at h
      have e : v = u := congrArg Prod.fst h
      have := par_back l 0 0 v hp
      rw [hl, Nat.zero_add] at this
      have e2 : hexN 0 0 ++ l = l := rfl
      rw [e2, e] at this
      exact this
  · rw [parP_len hl] at h
    have e : (2 : Int) = 0 := congrArg Prod.snd h
    omega
theorem par_lt : ∀ (l : List UInt8) (acc k v : Nat), acc < 16 ^ k → par acc l = some v → v < 16 ^ (k + l.length)
  | [], acc, k, v, ha, h => by injection h with h; subst h; exact ha
  | c :: l, acc, k, v, ha, h => by
    rw [par] at h
    cases hd : digv c with
    | none => rw [hd] at h; cases h
    | some d =>
      rw [hd] at h
      obtain ⟨_, h2⟩ := hxd_digv hd
      have := par_lt l (acc * 16 + d) (k + 1) v (by rw [Nat.pow_succ]; omega) h
      rw [List.length_cons, show k + (l.length + 1) = k + 1 + l.length by omega]; exact this

theorem parP_lt {l : List UInt8} {u : Nat} (h : parP l = (u, 0)) : u ≤ 18446744073709551615 := by
  by_cases hl : l.length = 16
  · cases hp : par 0 l with
    | none =>
      rw [parP_none hp] at h
      have e : (2 : Int) = 0 := congrArg Prod.snd h
      omega
    | some v =>
      rw [parP_some hl hp] at h
      have e : v = u := congrArg Prod.fst h
      have := par_lt l 0 0 v (by omega) hp
      rw [hl] at this
      omega
  · rw [parP_len hl] at h
    have e : (2 : Int) = 0 := congrArg Prod.snd h
    omega

/-- The library's ParseUint at base 16: digits of both cases; a number of more than 64 bits is out of range. -/
inductive Pu | ok (n : Nat) | syn | rng
def hexv (c : UInt8) : Option Nat :=
  if 48 ≤ c.toNat ∧ c.toNat ≤ 57 then some (c.toNat - 48) else if 97 ≤ c.toNat ∧ c.toNat ≤ 102 then some (c.toNat - 87) else if 65 ≤ c.toNat ∧ c.toNat ≤ 70 then some (c.toNat - 55) else none
def pu (acc : Nat) : List UInt8 → Pu
  | [] => .ok acc
  | c :: l => match hexv c with | none => .syn | some d => if 1152921504606846976 ≤ acc then .rng else pu (acc * 16 + d) l
theorem hexv_lt {c : UInt8} {d : Nat} (h : hexv c = some d) : d < 16 := by
  unfold hexv at h
  repeat' split at h
  all_goals first | (injection h with h; omega) | cases h
theorem hexv_digv {c : UInt8} {d : Nat} (h : digv c = some d) : hexv c = some d := by
  unfold digv at h
  unfold hexv
  split at h
  · rename_i h1; rw [if_pos h1]; exact h
  · rename_i h1
    rw [if_neg h1]
    split at h
    · rename_i h2; rw [if_pos h2]; exact h
    · cases h
theorem pu_lt : ∀ (l : List UInt8) (acc v : Nat), acc ≤ 18446744073709551615 → pu acc l = .ok v → v ≤ 18446744073709551615
  | [], acc, v, ha, h => by injection h with h; omega
  | c :: l, acc, v, ha, h => by
    rw [pu] at h
    cases hd : hexv c with
    | none => rw [hd] at h; cases h
    | some d =>
      have := hexv_lt hd
      rw [hd] at h
      by_cases hc : 1152921504606846976 ≤ acc
      · simp only [hc, if_true] at h; cases h
      · simp only [hc, if_false] at h
        exact pu_lt l (acc * 16 + d) v (by omega) h
theorem pu_par : ∀ (l : List UInt8) (acc k v : Nat), acc < 16 ^ k → k + l.length ≤ 16 → par acc l = some v → pu acc l = .ok v
  | [], acc, k, v, ha, hk, h => by injection h with h; subst h; rfl
  | c :: l, acc, k, v, ha, hk, h => by
    rw [par] at h
    rw [pu]
    cases hd : digv c with
    | none => rw [hd] at h; cases h
    | some d =>
      rw [hd] at h
      obtain ⟨_, h2⟩ := hxd_digv hd
      rw [hexv_digv hd]
      rw [List.length_cons] at hk
      have hb : 16 ^ k ≤ 16 ^ 15 := Nat.pow_le_pow_right (by decide) (by omega)
      have hc : ¬ 1152921504606846976 ≤ acc := by omega
      simp only [hc, if_false]
      exact pu_par l (acc * 16 + d) (k + 1) v (by rw [Nat.pow_succ]; omega) (by omega) h
/-- Only a text of sixteen small digits is one of its number. -/
theorem parP_of_pu {l : List UInt8} {v : Nat} (h : pu 0 l = .ok v) : parP l = if hex16 v = l then (v, 0) else (0, 2) := by
  split
  · rename_i e
    rw [← e]
    exact parP_text (pu_lt l 0 v (by omega) h)
  · rename_i e
    by_cases hl : l.length = 16
    · cases hp : par 0 l with
      | none => exact parP_none hp
      | some x =>
        have := pu_par l 0 0 x (by omega) (by omega) hp
        rw [h] at this
        injection this with this
        subst this
        exact absurd (parP_back (parP_some hl hp)) e
    · exact parP_len hl
theorem parP_not {l : List UInt8} (h : ∀ v, pu 0 l ≠ .ok v) : parP l = (0, 2) := by
  by_cases hl : l.length = 16
  · cases hp : par 0 l with
    | none => exact parP_none hp
    | some x => exact absurd (pu_par l 0 0 x (by omega) (by omega) hp) (h x)
  · exact parP_len hl
end Go.Proofs.YthjpchnogllliaaGreatDoor.DigH
