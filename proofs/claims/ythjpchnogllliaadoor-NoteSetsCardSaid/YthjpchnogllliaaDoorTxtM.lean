/- Texts of scalar values: two spellings of one thing. Plain mathematics. -/
import Derived.Test.YthjpchnogllliaaDoorScaM
import Derived.Test.YthjpchnogllliaaDoorDigH
import Derived.Lib.ItoaMem
set_option linter.unusedSimpArgs false
set_option linter.unusedVariables false
namespace Go.Proofs.YthjpchnogllliaaDoor.TxtM
open UtfM UtfQ ScaM

theorem dec_digits (n : Nat) : Lib.decDigits n = dec n := by
  induction n using Nat.strongRecOn with
  | ind n ih =>
    by_cases h : n < 10
    · rw [Lib.decDigits, dif_pos h, dec_small h]
    · rw [Lib.decDigits, dif_neg h, dec_large h, ih (n / 10) (by omega)]
theorem itoa_up {b : Nat} (h : ¬ sgnN ≤ b) : Lib.itoa (sI b) = dec b := by
  unfold sgnN at h
  unfold sI
  rw [if_pos (by omega), Lib.itoa_nonneg, dec_digits]
theorem itoa_down {b : Nat} (h : sgnN ≤ b) (hb : b ≤ 18446744073709551615) : Lib.itoa (sI b) = 45 :: dec (18446744073709551616 - b) := by
  unfold sgnN at h
  unfold sI
  rw [if_neg (by omega), show (b : Int) - 18446744073709551616 = -((18446744073709551616 - b : Nat) : Int) by omega, Lib.itoa_neg _ (by omega), dec_digits]
theorem hx_hxd (n : Nat) : hx n = DigH.hxd n := rfl
theorem hexN_be : ∀ (k n : Nat), DigH.hexN (2 * k) n = hexL (be8 k n)
  | 0, n => rfl
  | k + 1, n => by
    rw [be8, hexL_snoc, show 2 * (k + 1) = 2 * k + 1 + 1 by omega, DigH.hexN, DigH.hexN, hexN_be k, VarM.toNat_ofNat (Nat.mod_lt _ (by decide)), List.append_assoc, hx_hxd, hx_hxd]
    rw [Nat.div_div_eq_div_mul, show n % 256 / 16 = n / 16 % 16 by omega, show n % 256 % 16 = n % 16 by omega]
    rfl
theorem hex16_same (n : Nat) : DigH.hex16 n = hex16 n := hexN_be 8 n
theorem cls_inf {b : Nat} (h : clsN b = 1) (hs : ¬ sgnN ≤ b) : b = infN := by
  unfold clsN at h
  split at h
  · cases h
  · split at h
    · rename_i h2
      unfold sgnN at *
      omega
    · split at h
      · cases h
      · split at h <;> cases h
theorem cls_ninf {b : Nat} (h : clsN b = 1) (hs : sgnN ≤ b) (hb : b ≤ 18446744073709551615) : b = sgnN + infN := by
  unfold clsN at h
  split at h
  · cases h
  · split at h
    · rename_i h2
      unfold sgnN infN at *
      omega
    · split at h
      · cases h
      · split at h <;> cases h
theorem cls_no {b : Nat} (h : clsN b ≠ 1) : b ≠ infN ∧ b ≠ sgnN + infN := by
  refine ⟨fun e => h ?_, fun e => h ?_⟩ <;> (rw [e]; decide +kernel)
end Go.Proofs.YthjpchnogllliaaDoor.TxtM
