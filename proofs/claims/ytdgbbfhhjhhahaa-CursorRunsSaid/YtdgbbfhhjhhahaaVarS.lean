/- The shortest form of a varint is the one whose last group is not zero, or which has one group: plain mathematics. -/
import Derived.Test.YtdgbbfhhjhhahaaVarM
namespace Go.Proofs.Ytdgbbfhhjhhahaa.VarS
open VarM

/-- The last byte. -/
def last (l : List UInt8) : UInt8 := l.getD (l.length - 1) 0
theorem last_cons {c : UInt8} {l : List UInt8} (h : 1 ≤ l.length) : last (c :: l) = last l := by
  unfold last
  obtain ⟨m, hm⟩ : ∃ m, l.length = m + 1 := ⟨l.length - 1, by omega⟩
  simp [hm, List.getD]

theorem short_aux : ∀ (k i acc : Nat) (l : List UInt8) (u : Nat), takeA k i acc l = (u, i + l.length, 0) →
    ∃ v, u = acc + v * 128 ^ i ∧ (put v = l ↔ (l.length = 1 ∨ last l ≠ 0))
  | 0, _, _, _, _, h => by simp [takeA] at h
  | _ + 1, _, _, [], _, h => by simp [takeA] at h
  | k + 1, i, acc, c :: l, u, h => by
    simp only [takeA] at h
    split at h
    · simp at h
    · split at h
      · rename_i hc
        simp only [Prod.mk.injEq, and_true, List.length_cons] at h
        have hl : l = [] := List.eq_nil_of_length_eq_zero (by omega)
        subst hl
        refine ⟨c.toNat, ?_, ?_⟩
        · rw [← h.1, Nat.mod_eq_of_lt hc]
        · rw [put_small hc]
          simp
      · rename_i hc
        have hc2 := c.toNat_lt
        obtain ⟨v, hv, hiff⟩ := short_aux k (i + 1) _ l u (by rw [h]; simp [Nat.add_comm, Nat.add_left_comm])
        have hl : 1 ≤ l.length := by
          cases l with
          | nil => cases k <;> simp [takeA] at h
          | cons a l => simp
        refine ⟨c.toNat % 128 + 128 * v, ?_, ?_⟩
        · rw [hv, Nat.pow_succ, Nat.add_mul, Nat.add_assoc]
          congr 2
          rw [Nat.mul_comm 128 v, Nat.mul_assoc, Nat.mul_comm 128]
        · rw [last_cons hl]
          have hlen : ¬ (c :: l).length = 1 := by simp only [List.length_cons]; omega
          simp only [hlen, false_or]
          by_cases hv0 : v = 0
          · subst hv0
            rw [Nat.mul_zero, Nat.add_zero, put_small (show c.toNat % 128 < 128 from by omega)]
            rw [put_small (show 0 < 128 from by omega)] at hiff
            constructor
            · intro e
              simp only [List.cons.injEq] at e
              rw [← e.2] at hl
              simp at hl
            · intro e
              have := hiff.2 (.inr e)
              rw [← this] at e
              simp [last] at e
          · rw [put_large (show ¬ c.toNat % 128 + 128 * v < 128 from by omega)]
            have e1 : (c.toNat % 128 + 128 * v) % 128 + 128 = c.toNat := by omega
            have e2 : (c.toNat % 128 + 128 * v) / 128 = v := by omega
            rw [e1, e2]
            simp only [UInt8.ofNat_toNat, List.cons.injEq, true_and]
            rw [hiff]
            constructor
            · rintro (h1 | h1)
              · have hp := hiff.2 (.inl h1)
                intro h0
                rw [← hp] at h0 h1
                by_cases hs : v < 128
                · rw [put_small hs] at h0
                  simp only [last, List.length_cons, List.length_nil, Nat.zero_add, Nat.sub_self, List.getD_cons_zero] at h0
                  have := congrArg UInt8.toNat h0
                  rw [toNat_ofNat (by omega)] at this
                  exact hv0 this
                · rw [put_large hs] at h1
                  have := put_ne (v / 128)
                  cases hh : put (v / 128) with
                  | nil => exact this hh
                  | cons a b => rw [hh] at h1; simp at h1
              · exact h1
            · exact .inr

theorem short_iff {l : List UInt8} {u : Nat} (h : take l = (u, l.length, 0)) : put u = l ↔ (l.length = 1 ∨ last l ≠ 0) := by
  obtain ⟨v, hv, hiff⟩ := short_aux 10 0 0 l u (by rw [← take, h]; simp)
  have : u = v := by omega
  rw [this]; exact hiff

/-- Whether l is the varint of a number. -/
def short (l : List UInt8) : Bool := decide ((take l).2.2 = 0 ∧ (take l).2.1 = l.length ∧ put (take l).1 = l)
theorem short_err {l : List UInt8} {u n e : Nat} (h : take l = (u, n, e)) (he : e ≠ 0) : short l = false := by
  unfold short; rw [h]; simp [he]
theorem short_len {l : List UInt8} {u n e : Nat} (h : take l = (u, n, e)) (hn : n ≠ l.length) : short l = false := by
  unfold short; rw [h]; simp [hn]
theorem short_ok {l : List UInt8} {u n : Nat} (h : take l = (u, n, 0)) (hn : n = l.length) : short l = decide (put u = l) := by
  unfold short; rw [h]; simp [hn]
theorem short_one {l : List UInt8} {u n : Nat} (h : take l = (u, n, 0)) (hn : n = l.length) (h1 : n = 1) : short l = true := by
  rw [short_ok h hn, decide_eq_true_iff]
  subst hn
  exact (short_iff h).2 (.inl h1)
theorem short_last {l : List UInt8} {u n : Nat} (h : take l = (u, n, 0)) (hn : n = l.length) (h1 : n ≠ 1) : short l = decide (last l ≠ 0) := by
  rw [short_ok h hn]
  subst hn
  exact decide_eq_decide.2 ((short_iff h).trans ⟨fun e => e.resolve_left h1, .inr⟩)
theorem short_put {u : Nat} (h : u < 18446744073709551616) : short (put u) = true := by
  have := take_put h []
  rw [List.append_nil] at this
  rw [short_ok this rfl]; simp

/-- What is read is a number of 64 bits, and not longer than the bytes. -/
theorem takeA_lt : ∀ (k i acc : Nat) (l : List UInt8), i + k = 10 → acc < 128 ^ i → (takeA k i acc l).1 < 18446744073709551616
  | 0, _, _, _, _, _ => by simp [takeA]
  | _ + 1, _, _, [], _, _ => by simp [takeA]
  | k + 1, i, acc, c :: l, hik, ha => by
    simp only [takeA]
    split
    · simp
    · rename_i h9
      have hb := acc_le ha (by omega) h9
      split
      · show acc + c.toNat % 128 * 128 ^ i < 18446744073709551616
        omega
      · exact takeA_lt k (i + 1) _ l (by omega) (acc_lt ha)
theorem take_lt (l : List UInt8) : (take l).1 < 18446744073709551616 := takeA_lt 10 0 0 l rfl (by omega)
theorem takeA_n : ∀ (k i acc : Nat) (l : List UInt8), (takeA k i acc l).2.1 ≤ i + l.length ∧ (takeA k i acc l).2.2 ≤ 6 ∧ ((takeA k i acc l).2.2 = 0 → i + 1 ≤ (takeA k i acc l).2.1)
  | 0, _, _, _ => by simp [takeA]
  | _ + 1, _, _, [] => by simp [takeA]
  | k + 1, i, acc, c :: l => by
    simp only [takeA]
    split
    · simp
    · split
      · simp
      · have := takeA_n k (i + 1) (acc + c.toNat % 128 * 128 ^ i) l
        simp only [List.length_cons]
        omega
theorem take_n (l : List UInt8) : (take l).2.1 ≤ l.length ∧ (take l).2.2 ≤ 6 ∧ ((take l).2.2 = 0 → 1 ≤ (take l).2.1) := by
  have := takeA_n 10 0 0 l
  simpa [take] using this
end Go.Proofs.Ytdgbbfhhjhhahaa.VarS
