/- The walk of the law ScalarCompares. -/
import Derived.Test.YtgjbpadhdnclnaaGreatDoorScalarNormsW
import Derived.Test.YtgjbpadhdnclnaaGreatDoorCmpP
set_option linter.unusedSimpArgs false
set_option linter.unusedVariables false
namespace Go.Proofs.YtgjbpadhdnclnaaGreatDoor.ScalarComparesW
open Go.RowKit Nums Byt UtfM UtfS ScaM ScaV ScaA ScaB ScaC ScaS ScpM ScpA ScpE Ld Box Val CloM CloB CloC NorP CmpP ScalarKindsW ScalarNormsW

theorem cmpR_neg (x y : Int) : cmpR y x = -cmpR x y := by
  unfold cmpR
  repeat' split
  all_goals first
    | rfl
    | (exfalso; omega)
theorem bytes_neg : ∀ (a b : List UInt8), Lib.compareBytes b a = -Lib.compareBytes a b
  | [], [] => rfl
  | [], _ :: _ => rfl
  | _ :: _, [] => rfl
  | a :: xs, b :: ys => by
    unfold Lib.compareBytes
    rcases u8_lt_or a b with h | h | h
    · have h1 : ¬ b < a := by rw [UInt8.lt_iff_toNat_lt] at *; omega
      simp [h, h1]
    · have h1 : ¬ a < b := by rw [UInt8.lt_iff_toNat_lt] at *; omega
      simp [h, h1]
    · subst h
      have h1 : ¬ a < a := by rw [UInt8.lt_iff_toNat_lt]; omega
      rw [if_neg h1, if_neg h1, if_neg h1, if_neg h1, bytes_neg xs ys]
theorem bytes_self : ∀ (a : List UInt8), Lib.compareBytes a a = 0
  | [] => rfl
  | a :: xs => by
    have h1 : ¬ a < a := by rw [UInt8.lt_iff_toNat_lt]; omega
    unfold Lib.compareBytes
    rw [if_neg h1, if_neg h1, bytes_self xs]
/-- Comparing at one kind. -/
def cmpC (k : Int) (b b' : Nat) (t t' : List UInt8) : Int :=
  if k = 2 ∨ k = 3 then cmpR (sI b) (sI b') else if k = 7 ∨ k = 8 then Lib.compareBytes t t' else if k = 6 then cmpR (rankD b) (rankD b') else if k = 1 ∨ k = 4 ∨ k = 5 ∨ k = 9 then cmpR b b' else 0
theorem cmpQ_lt {k k' : Int} (h : k < k') (b b' : Nat) (t t' : List UInt8) : cmpQ k k' b b' t t' = -1 := by unfold cmpQ; rw [if_pos h]
theorem cmpQ_gt {k k' : Int} (h : k' < k) (b b' : Nat) (t t' : List UInt8) : cmpQ k k' b b' t t' = 1 := by unfold cmpQ; rw [if_neg (show ¬ k < k' by omega), if_pos h]
theorem cmpQ_eq (k : Int) (b b' : Nat) (t t' : List UInt8) : cmpQ k k b b' t t' = cmpC k b b' t t' := by unfold cmpQ; rw [if_neg (show ¬ k < k by omega), if_neg (show ¬ k < k by omega)]; rfl
theorem cmpC_neg (k : Int) (b b' : Nat) (t t' : List UInt8) : cmpC k b' b t' t = -cmpC k b b' t t' := by
  unfold cmpC
  by_cases h1 : k = 2 ∨ k = 3
  · rw [if_pos h1, if_pos h1]; exact cmpR_neg _ _
  · rw [if_neg h1, if_neg h1]
    by_cases h2 : k = 7 ∨ k = 8
    · rw [if_pos h2, if_pos h2]; exact bytes_neg _ _
    · rw [if_neg h2, if_neg h2]
      by_cases h3 : k = 6
      · rw [if_pos h3, if_pos h3]; exact cmpR_neg _ _
      · rw [if_neg h3, if_neg h3]
        by_cases h4 : k = 1 ∨ k = 4 ∨ k = 5 ∨ k = 9
        · rw [if_pos h4, if_pos h4]; exact cmpR_neg _ _
        · rw [if_neg h4, if_neg h4]; rfl
theorem cmp_neg (a b : Sc) : cmpP b a = -cmpP a b := by
  unfold cmpP
  rcases Int.lt_trichotomy a.k b.k with h | h | h
  · rw [cmpQ_gt h, cmpQ_lt h]; rfl
  · rw [← h, cmpQ_eq, cmpQ_eq]; exact cmpC_neg _ _ _ _ _
  · rw [cmpQ_lt h, cmpQ_gt h]
theorem norm_k (a : Sc) : (normV a).k = a.k := by unfold normV; split <;> rfl
theorem norm_t (a : Sc) : (normV a).t = a.t := by unfold normV; split <;> rfl
theorem norm_b (a : Sc) (h : a.k ≠ 6) : (normV a).b = a.b := by
  unfold normV
  rw [if_neg]
  intro h2
  exact h h2.1
theorem norm_rank (a : Sc) : rankD (normV a).b = rankD a.b := by
  unfold normV
  split
  · rename_i h
    have h1 : rankD nanN = 18446744073709551615 := by decide +kernel
    have h2 : rankD a.b = 18446744073709551615 := by unfold rankD; rw [if_pos h.2]
    rw [h1, h2]
  · rfl
theorem cmpC_norm (a b : Sc) (h : a.k = b.k) : cmpC a.k (normV a).b (normV b).b a.t b.t = cmpC a.k a.b b.b a.t b.t := by
  by_cases h6 : a.k = 6
  · unfold cmpC
    rw [if_neg (show ¬ (a.k = 2 ∨ a.k = 3) by omega), if_neg (show ¬ (a.k = 7 ∨ a.k = 8) by omega), if_pos h6, if_neg (show ¬ (a.k = 2 ∨ a.k = 3) by omega), if_neg (show ¬ (a.k = 7 ∨ a.k = 8) by omega), if_pos h6, norm_rank, norm_rank]
  · rw [norm_b a h6, norm_b b (by omega)]
theorem cmp_norm (a b : Sc) : cmpP (normV a) (normV b) = cmpP a b := by
  unfold cmpP
  rw [norm_k, norm_k, norm_t, norm_t]
  rcases Int.lt_trichotomy a.k b.k with h | h | h
  · rw [cmpQ_lt h, cmpQ_lt h]
  · rw [← h, cmpQ_eq, cmpQ_eq]; exact cmpC_norm a b h
  · rw [cmpQ_gt h, cmpQ_gt h]
theorem cmpC_self (k : Int) (b : Nat) (t : List UInt8) : cmpC k b b t t = 0 := by
  unfold cmpC
  repeat' split
  all_goals first
    | exact cmpR_eq _
    | exact bytes_self _
    | rfl
theorem cmp_self_norm (a : Sc) : cmpP a (normV a) = 0 := by
  unfold cmpP
  rw [norm_k, norm_t, cmpQ_eq]
  by_cases h6 : a.k = 6
  · unfold cmpC
    rw [if_neg (show ¬ (a.k = 2 ∨ a.k = 3) by omega), if_neg (show ¬ (a.k = 7 ∨ a.k = 8) by omega), if_pos h6, norm_rank]
    exact cmpR_eq _
  · rw [norm_b a h6]
    exact cmpC_self _ _ _
theorem cmpR_range (x y : Int) : cmpR x y = -1 ∨ cmpR x y = 0 ∨ cmpR x y = 1 := by
  unfold cmpR
  split
  · exact .inl rfl
  · split
    · exact .inr (.inr rfl)
    · exact .inr (.inl rfl)
theorem bytes_range (x y : List UInt8) : Lib.compareBytes x y = -1 ∨ Lib.compareBytes x y = 0 ∨ Lib.compareBytes x y = 1 := by
  rw [bytes_cmp]
  split
  · exact .inl rfl
  · split
    · exact .inr (.inl rfl)
    · exact .inr (.inr rfl)
theorem cmp_range (a b : Sc) : cmpP a b = -1 ∨ cmpP a b = 0 ∨ cmpP a b = 1 := by
  unfold cmpP cmpQ
  repeat' split
  all_goals first
    | exact .inl rfl
    | exact .inr (.inr rfl)
    | exact .inr (.inl rfl)
    | exact cmpR_range _ _
    | exact bytes_range _ _

end Go.Proofs.YtgjbpadhdnclnaaGreatDoor.ScalarComparesW
