/- Varints with zero groups at the end: plain mathematics. -/
import Derived.Test.YtnhkbbbafoglfaaVarS
namespace Go.Proofs.Ytnhkbbbafoglfaa.VarG
open VarM VarS

/-- The groups of u, all with the high bit. -/
def putc (u : Nat) : List UInt8 :=
  if u < 128 then [UInt8.ofNat (u + 128)] else UInt8.ofNat (u % 128 + 128) :: putc (u / 128)
termination_by u
decreasing_by omega
theorem putc_small {u : Nat} (h : u < 128) : putc u = [UInt8.ofNat (u + 128)] := by rw [putc, if_pos h]
theorem putc_large {u : Nat} (h : ¬ u < 128) : putc u = UInt8.ofNat (u % 128 + 128) :: putc (u / 128) := by rw [putc, if_neg h]

/-- The number of groups that all have the high bit. -/
def val : List UInt8 → Nat
  | [] => 0
  | c :: l => c.toNat % 128 + 128 * val l
def allc (l : List UInt8) : Prop := ∀ c ∈ l, 128 ≤ c.toNat

theorem putc_all (u : Nat) : allc (putc u) := by
  by_cases h : u < 128
  · rw [putc_small h]
    intro c hc
    simp only [List.mem_singleton] at hc
    subst hc
    rw [toNat_ofNat (by omega)]; omega
  · rw [putc_large h]
    intro c hc
    rcases List.mem_cons.1 hc with rfl | hc
    · rw [toNat_ofNat (by omega)]; omega
    · exact putc_all (u / 128) c hc
termination_by u
decreasing_by omega
theorem putc_val (u : Nat) : val (putc u) = u := by
  by_cases h : u < 128
  · rw [putc_small h, val, val, toNat_ofNat (by omega)]; omega
  · rw [putc_large h, val, putc_val (u / 128), toNat_ofNat (by omega)]; omega
termination_by u
decreasing_by omega
theorem val_zero : ∀ m, val (List.replicate m 128) = 0
  | 0 => rfl
  | m + 1 => by
    rw [List.replicate_succ, val, val_zero m]; rfl
theorem val_append_zero : ∀ (l : List UInt8) (m : Nat), val (l ++ List.replicate m 128) = val l
  | [], m => val_zero m
  | c :: l, m => by rw [List.cons_append, val, val, val_append_zero l m]

theorem take_cont : ∀ (k i acc : Nat) (cs r : List UInt8), i + k = 10 → allc cs → k ≤ cs.length → takeA k i acc (cs ++ r) = (0, 0, 6)
  | 0, _, _, _, _, _, _, _ => rfl
  | k + 1, _, _, [], _, _, _, h => by simp at h
  | k + 1, i, acc, c :: cs, r, hik, ha, hl => by
    have hc := ha c (by simp)
    simp only [List.cons_append, takeA]
    split
    · rfl
    · rw [if_neg (by omega)]
      exact take_cont k (i + 1) _ cs r (by omega) (fun x hx => ha x (by simp [hx])) (by simpa using hl)
theorem take_cont_short : ∀ (k i acc : Nat) (cs r : List UInt8), i + k = 10 → allc cs → cs.length < k → takeA k i acc (cs ++ r) = takeA (k - cs.length) (i + cs.length) (acc + val cs * 128 ^ i) r
  | 0, _, _, _, _, _, _, h => by omega
  | k + 1, i, acc, [], r, _, _, _ => by simp [val]
  | k + 1, i, acc, c :: cs, r, hik, ha, hl => by
    have hc := ha c (by simp)
    simp only [List.length_cons] at hl
    simp only [List.cons_append, takeA, List.length_cons]
    rw [if_neg (by omega), if_neg (by omega), take_cont_short k (i + 1) _ cs r (by omega) (fun x hx => ha x (by simp [hx])) (by omega)]
    have e1 : k + 1 - (cs.length + 1) = k - cs.length := by omega
    have e2 : i + 1 + cs.length = i + (cs.length + 1) := by omega
    have e3 : acc + c.toNat % 128 * 128 ^ i + val cs * 128 ^ (i + 1) = acc + val (c :: cs) * 128 ^ i := by
      rw [val, Nat.pow_succ, Nat.add_mul, Nat.add_assoc]
      congr 2
      rw [Nat.mul_comm 128 (val cs), Nat.mul_assoc, Nat.mul_comm 128]
    rw [e1, e2, e3]

/-- The bytes without their last one are too short. -/
theorem put_dropLast_all (u : Nat) : allc (put u).dropLast := by
  by_cases h : u < 128
  · rw [put_small h]; intro c hc; simp at hc
  · rw [put_large h, List.dropLast_cons_of_ne_nil (put_ne _)]
    intro c hc
    rcases List.mem_cons.1 hc with rfl | hc
    · rw [toNat_ofNat (by omega)]; omega
    · exact put_dropLast_all (u / 128) c hc
termination_by u
decreasing_by omega
theorem take_before {u : Nat} (h : u < 18446744073709551616) : take (put u).dropLast = (0, 0, 4) := by
  have hl := put_le 9 u (by omega)
  have := take_cont_short 10 0 0 (put u).dropLast [] rfl (put_dropLast_all u) (by rw [List.length_dropLast]; omega)
  rw [List.append_nil] at this
  rw [take, this, List.length_dropLast]
  obtain ⟨k, hk⟩ : ∃ k, 10 - ((put u).length - 1) = k + 1 := ⟨10 - ((put u).length - 1) - 1, by omega⟩
  rw [hk]; rfl

/-- The last byte of a varint gets the high bit. -/
theorem put_set (u : Nat) : (put u).set ((put u).length - 1) (UInt8.ofNat ((last (put u)).toNat + 128)) = putc u ∧ (last (put u)).toNat < 128 := by
  by_cases h : u < 128
  · rw [put_small h, putc_small h]
    have e : (UInt8.ofNat u).toNat = u := toNat_ofNat (by omega)
    simp [last, e, h]
  · have hn := put_ne (u / 128)
    have hl : 1 ≤ (put (u / 128)).length := by
      cases hh : put (u / 128) with
      | nil => exact absurd hh hn
      | cons a l => simp
    obtain ⟨h1, h2⟩ := put_set (u / 128)
    rw [put_large h, putc_large h, last_cons hl]
    refine ⟨?_, h2⟩
    rw [← h1]
    obtain ⟨m, hm⟩ : ∃ m, (put (u / 128)).length = m + 1 := ⟨(put (u / 128)).length - 1, by omega⟩
    simp [hm]
termination_by u
decreasing_by omega
theorem putc_length (u : Nat) : (putc u).length = (put u).length := by
  rw [← (put_set u).1, List.length_set]

/-- The bytes that the law makes: k - 1 groups of zero with the high bit, and one without. -/
def longer (u k : Nat) : List UInt8 := putc u ++ List.replicate (k - 1) 128 ++ [0]
theorem longer_length {u k : Nat} (hk : 1 ≤ k) : (longer u k).length = (put u).length + k := by
  unfold longer
  simp [putc_length]; omega
theorem allc_cs (u m : Nat) : allc (putc u ++ List.replicate m 128) := by
  intro c hc
  rcases List.mem_append.1 hc with hc | hc
  · exact putc_all u c hc
  · have := List.eq_of_mem_replicate hc
    subst this
    decide
theorem longer_range {u k : Nat} (hk : 1 ≤ k) (h : 10 < (put u).length + k) : take (longer u k) = (0, 0, 6) := by
  unfold longer take
  exact take_cont 10 0 0 _ _ rfl (allc_cs u _) (by simp [putc_length]; omega)
theorem longer_ok {u k : Nat} (hk : 1 ≤ k) (h : (put u).length + k ≤ 10) : take (longer u k) = (u, (put u).length + k, 0) := by
  unfold longer take
  have hl : (putc u ++ List.replicate (k - 1) 128).length = (put u).length + k - 1 := by simp [putc_length]; omega
  rw [take_cont_short 10 0 0 _ _ rfl (allc_cs u _) (by rw [hl]; omega), val_append_zero, putc_val, hl]
  obtain ⟨j, hj⟩ : ∃ j, 10 - ((put u).length + k - 1) = j + 1 := ⟨10 - ((put u).length + k - 1) - 1, by omega⟩
  rw [hj]
  simp only [takeA]
  have hz : (0 : UInt8).toNat = 0 := rfl
  rw [hz, if_neg (by omega), if_pos (by omega)]
  simp; omega
theorem longer_short {u k : Nat} (hk : 1 ≤ k) : short (longer u k) = false := by
  by_cases h : (put u).length + k ≤ 10
  · have h1 := longer_ok hk h
    have hne := put_ne u
    have hl : 1 ≤ (put u).length := by
      cases hh : put u with
      | nil => exact absurd hh hne
      | cons a l => simp
    rw [short_last h1 (longer_length hk).symm (by omega)]
    have : last (longer u k) = 0 := by
      unfold last longer
      simp [List.getD]
    rw [this]; rfl
  · exact short_err (longer_range hk (by omega)) (by omega)
end Go.Proofs.Ytnhkbbbafoglfaa.VarG
