/- Comparing as an order: plain mathematics. -/
import Derived.Test.YtgjbpadhdnclnaaGreatDoorScalarComparesW
set_option linter.unusedSimpArgs false
set_option linter.unusedVariables false
namespace Go.Proofs.YtgjbpadhdnclnaaGreatDoor.OrdM
open Go.RowKit Nums Byt UtfM UtfS ScaM ScaV ScaA ScaB ScaC ScaS ScpM ScpA ScpE Ld Box Val CloM CloB CloC NorP CmpP ScalarKindsW ScalarNormsW ScalarComparesW

/-- Three comparings that belong together. -/
def Tri (p q r : Int) : Prop := (p = 0 → q = 0 → r = 0) ∧ (p ≤ 0 → q ≤ 0 → p = -1 ∨ q = -1 → r = -1)
theorem tri_R (x y z : Int) : Tri (cmpR x y) (cmpR y z) (cmpR x z) := by
  unfold Tri cmpR
  refine ⟨?_, ?_⟩
  · repeat' split
    all_goals first
      | (intro h1 h2; rfl)
      | (intro h1 h2; exfalso; omega)
  · repeat' split
    all_goals first
      | (intro h1 h2 h3; rfl)
      | (intro h1 h2 h3; exfalso; omega)
theorem tri_left {q r : Int} (h : r = -1) : Tri (-1) q r := ⟨fun h1 => by omega, fun _ _ _ => h⟩
theorem tri_one {q r : Int} : Tri 1 q r := ⟨fun h1 => by omega, fun h1 => by omega⟩
theorem tri_mid {p r : Int} : Tri p 1 r := ⟨fun _ h1 => by omega, fun _ h1 => by omega⟩
theorem tri_right {p r : Int} (h : r = -1) : Tri p (-1) r := ⟨fun _ h1 => by omega, fun _ _ _ => h⟩
theorem cb_lt {a b : UInt8} (h : a < b) (xs ys : List UInt8) : Lib.compareBytes (a :: xs) (b :: ys) = -1 := by unfold Lib.compareBytes; rw [if_pos h]
theorem cb_gt {a b : UInt8} (h : b < a) (xs ys : List UInt8) : Lib.compareBytes (a :: xs) (b :: ys) = 1 := by
  have h1 : ¬ a < b := by rw [UInt8.lt_iff_toNat_lt] at *; omega
  unfold Lib.compareBytes; rw [if_neg h1, if_pos h]
theorem cb_eq (a : UInt8) (xs ys : List UInt8) : Lib.compareBytes (a :: xs) (a :: ys) = Lib.compareBytes xs ys := by
  have h1 : ¬ a < a := by rw [UInt8.lt_iff_toNat_lt]; omega
  rw [Lib.compareBytes, if_neg h1, if_neg h1]
theorem tri_bytes : ∀ (x y z : List UInt8), Tri (Lib.compareBytes x y) (Lib.compareBytes y z) (Lib.compareBytes x z)
  | [], [], [] => ⟨fun _ _ => rfl, fun h1 h2 h3 => by simp [Lib.compareBytes] at h3⟩
  | [], [], _ :: _ => tri_right rfl
  | [], _ :: _, [] => tri_mid
  | [], _ :: _, _ :: _ => tri_left rfl
  | _ :: _, [], _ => tri_one
  | _ :: _, _ :: _, [] => tri_mid
  | a :: xs, b :: ys, c :: zs => by
    rcases u8_lt_or a b with h | h | h
    · rw [cb_lt h]
      rcases u8_lt_or b c with k | k | k
      · exact tri_left (cb_lt (by rw [UInt8.lt_iff_toNat_lt] at *; omega) _ _)
      · rw [cb_gt k]; exact tri_mid
      · subst k; exact tri_left (cb_lt h _ _)
    · rw [cb_gt h]; exact tri_one
    · subst h
      rcases u8_lt_or a c with k | k | k
      · rw [cb_lt k, cb_lt k]; exact tri_right rfl
      · rw [cb_gt k]; exact tri_mid
      · subst k; rw [cb_eq, cb_eq, cb_eq]; exact tri_bytes xs ys zs
theorem tri_C (k : Int) (b b' b'' : Nat) (t t' t'' : List UInt8) : Tri (cmpC k b b' t t') (cmpC k b' b'' t' t'') (cmpC k b b'' t t'') := by
  unfold cmpC
  by_cases h1 : k = 2 ∨ k = 3
  · rw [if_pos h1, if_pos h1, if_pos h1]; exact tri_R _ _ _
  · rw [if_neg h1, if_neg h1, if_neg h1]
    by_cases h2 : k = 7 ∨ k = 8
    · rw [if_pos h2, if_pos h2, if_pos h2]; exact tri_bytes _ _ _
    · rw [if_neg h2, if_neg h2, if_neg h2]
      by_cases h3 : k = 6
      · rw [if_pos h3, if_pos h3, if_pos h3]; exact tri_R _ _ _
      · rw [if_neg h3, if_neg h3, if_neg h3]
        by_cases h4 : k = 1 ∨ k = 4 ∨ k = 5 ∨ k = 9
        · rw [if_pos h4, if_pos h4, if_pos h4]; exact tri_R _ _ _
        · rw [if_neg h4, if_neg h4, if_neg h4]; exact ⟨fun _ _ => rfl, fun h1 h2 h3 => by omega⟩
theorem tri_P (a b c : Sc) : Tri (cmpP a b) (cmpP b c) (cmpP a c) := by
  unfold cmpP
  rcases Int.lt_trichotomy a.k b.k with h | h | h
  · rw [cmpQ_lt h]
    rcases Int.lt_trichotomy b.k c.k with k | k | k
    · exact tri_left (cmpQ_lt (by omega) _ _ _ _)
    · exact tri_left (cmpQ_lt (by omega) _ _ _ _)
    · rw [cmpQ_gt k]; exact tri_mid
  · rw [h]
    rcases Int.lt_trichotomy b.k c.k with k | k | k
    · rw [cmpQ_lt k, cmpQ_lt k]; exact tri_right rfl
    · rw [← k, cmpQ_eq, cmpQ_eq, cmpQ_eq]; exact tri_C _ _ _ _ _ _ _
    · rw [cmpQ_gt k]; exact tri_mid
  · rw [cmpQ_gt h]; exact tri_one

theorem cmpR_zero {x y : Int} (h : cmpR x y = 0) : x = y := by
  unfold cmpR at h
  split at h
  · cases h
  · split at h
    · cases h
    · omega
theorem bytes_zero : ∀ {x y : List UInt8}, Lib.compareBytes x y = 0 → x = y
  | [], [], _ => rfl
  | [], _ :: _, h => by simp [Lib.compareBytes] at h
  | _ :: _, [], h => by simp [Lib.compareBytes] at h
  | a :: xs, b :: ys, h => by
    rcases u8_lt_or a b with k | k | k
    · rw [cb_lt k] at h; cases h
    · rw [cb_gt k] at h; cases h
    · subst k; rw [cb_eq] at h; rw [bytes_zero h]
theorem fits_parts {x : Sc} (h : fitsB x.k x = true) : isB x.k = true ∧ loneB x = true ∧ (txB x.k = true → x.b = 0) ∧ (txB x.k = false → x.t = []) := by
  unfold fitsB at h
  simp only [Bool.and_eq_true] at h
  obtain ⟨⟨⟨h1, _⟩, h3⟩, h4⟩ := h
  refine ⟨h1, h3, fun ht => ?_, fun ht => ?_⟩
  · rw [ht, if_pos rfl] at h4
    simp only [Bool.and_eq_true, beq_iff_eq] at h4
    exact h4.1.1
  · rw [ht] at h4
    simp only [Bool.false_eq_true, if_false, Bool.and_eq_true, List.isEmpty_iff] at h4
    exact h4.1
theorem lone_parts {x : Sc} (h : loneB x = true) : x.n1 = 0 ∧ x.n2 = 0 ∧ x.n3 = 0 ∧ x.n4 = 0 := by
  simp only [loneB, Bool.and_eq_true, beq_iff_eq] at h
  exact ⟨h.1.1.1, h.1.1.2, h.1.2, h.2⟩
theorem sc_ext {x y : Sc} (hk : x.k = y.k) (hb : x.b = y.b) (ht : x.t = y.t) (hx : loneB x = true) (hy : loneB y = true) : x = y := by
  obtain ⟨x1, x2, x3, x4⟩ := lone_parts hx
  obtain ⟨y1, y2, y3, y4⟩ := lone_parts hy
  cases x; cases y
  simp_all
theorem rank_nan {b : Nat} (hb : b ≤ 18446744073709551615) (h : rankD b = 18446744073709551615) : clsN b = 0 := by
  unfold rankD at h
  split at h
  · assumption
  · rename_i hc
    exfalso
    apply hc
    split at h
    · rename_i h1
      unfold sgnN at h1
      omega
    · rename_i h1
      unfold sgnN at h1 h
      have : b = 9223372036854775807 := by omega
      rw [this]
      decide +kernel
theorem rank_inj {b c : Nat} (hb : b ≤ 18446744073709551615) (hc : c ≤ 18446744073709551615) (h : rankD b = rankD c) : (clsN b = 0 ∧ clsN c = 0) ∨ b = c := by
  by_cases h1 : clsN b = 0
  · left
    refine ⟨h1, rank_nan hc ?_⟩
    rw [← h]
    unfold rankD
    rw [if_pos h1]
  · by_cases h2 : clsN c = 0
    · left
      refine ⟨rank_nan hb ?_, h2⟩
      rw [h]
      unfold rankD
      rw [if_pos h2]
    · right
      unfold rankD at h
      rw [if_neg h1, if_neg h2] at h
      unfold sgnN at h
      split at h <;> split at h <;> omega
theorem same_iff (a b : Sc) (ha : a.b ≤ 18446744073709551615) (hb : b.b ≤ 18446744073709551615) (fa : fitsB a.k a = true) (fb : fitsB b.k b = true) : sameB (normV a) (normV b) = (cmpP a b == 0) := by
  obtain ⟨ia, la, ta, ea⟩ := fits_parts fa
  obtain ⟨ib, lb, tb, eb⟩ := fits_parts fb
  cases hc : (cmpP a b == 0) with
  | false =>
    cases hs : sameB (normV a) (normV b) with
    | false => rfl
    | true =>
      exfalso
      have e := (sameB_iff _ _).1 hs
      have h1 := cmp_norm a b
      rw [e] at h1
      have h2 : cmpP (normV b) (normV b) = 0 := by
        unfold cmpP
        rw [cmpQ_eq]
        exact cmpC_self _ _ _
      rw [← h1, h2] at hc
      cases hc
  | true =>
    have h0 : cmpP a b = 0 := eq_of_beq hc
    rw [sameB_iff]
    unfold cmpP at h0
    rcases Int.lt_trichotomy a.k b.k with h | h | h
    · rw [cmpQ_lt h] at h0; cases h0
    · rw [← h, cmpQ_eq] at h0
      unfold cmpC at h0
      by_cases c1 : a.k = 2 ∨ a.k = 3
      · rw [if_pos c1] at h0
        have hx : txB a.k = false := by rcases c1 with e | e <;> rw [e] <;> decide
        have e := cmpR_zero h0
        have eb' : a.b = b.b := by unfold sI at e; split at e <;> split at e <;> omega
        rw [sc_ext h eb' ((ea hx).trans (eb (h ▸ hx)).symm) la lb]
      · rw [if_neg c1] at h0
        by_cases c2 : a.k = 7 ∨ a.k = 8
        · rw [if_pos c2] at h0
          have hx : txB a.k = true := by rcases c2 with e | e <;> rw [e] <;> decide
          rw [sc_ext h ((ta hx).trans (tb (h ▸ hx)).symm) (bytes_zero h0) la lb]
        · rw [if_neg c2] at h0
          have hx : txB a.k = false := by
            cases e : txB a.k with
            | false => rfl
            | true => exact absurd (by simpa [txB] using e) c2
          have et := (ea hx).trans (eb (h ▸ hx)).symm
          by_cases c3 : a.k = 6
          · rw [if_pos c3] at h0
            have e := cmpR_zero h0
            have e2 : rankD a.b = rankD b.b := by omega
            rcases rank_inj ha hb e2 with ⟨n1, n2⟩ | e3
            · unfold normV
              rw [if_pos ⟨c3, n1⟩, if_pos ⟨h ▸ c3, n2⟩]
              exact sc_ext h rfl et la lb
            · rw [sc_ext h e3 et la lb]
          · rw [if_neg c3] at h0
            by_cases c4 : a.k = 1 ∨ a.k = 4 ∨ a.k = 5 ∨ a.k = 9
            · rw [if_pos c4] at h0
              have e := cmpR_zero h0
              rw [sc_ext h (by omega) et la lb]
            · exfalso
              have hr : 1 ≤ a.k ∧ a.k ≤ 9 := by simpa [isB] using ia
              omega
    · rw [cmpQ_gt h] at h0; cases h0
end Go.Proofs.YtgjbpadhdnclnaaGreatDoor.OrdM
