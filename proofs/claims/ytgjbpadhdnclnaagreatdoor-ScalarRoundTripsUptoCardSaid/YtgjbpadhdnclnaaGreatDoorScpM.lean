/- The program's package scalar, stage 4: masks of 64 bits and small sums, as plain numbers. -/
import Derived.Test.YtgjbpadhdnclnaaGreatDoorScaC
import Derived.Test.YtgjbpadhdnclnaaGreatDoorUtfA
set_option linter.unusedSimpArgs false
set_option linter.unusedVariables false
namespace Go.Proofs.YtgjbpadhdnclnaaGreatDoor.ScpM
open Go.RowKit Nums Byt UtfM UtfS ScaM ScaV ScaA ScaB ScaC

theorem wrapN {n : Nat} (h : n ≤ 18446744073709551615) : IntKind.u64.wrap (n : Int) = n := by
  rw [IntKind.wrap_u64]
  omega
theorem and_u64 {a c : Nat} (ha : a ≤ 18446744073709551615) (hc : c ≤ 18446744073709551615) : bits BinOp.and .u64 (a : Int) (c : Int) = ((a &&& c : Nat) : Int) := by
  have e : bits BinOp.and .u64 (a : Int) (c : Int) = IntKind.u64.wrap ((BitVec.ofInt 64 (a : Int) &&& BitVec.ofInt 64 (c : Int)).toNat : Int) := rfl
  rw [e, BitVec.toNat_and, BitVec.toNat_ofInt, BitVec.toNat_ofInt]
  have e1 : ((a : Int) % ((2 ^ 64 : Nat) : Int)).toNat = a := by omega
  have e2 : ((c : Int) % ((2 ^ 64 : Nat) : Int)).toNat = c := by omega
  rw [e1, e2]
  have h : (a &&& c) ≤ a := Nat.and_le_left
  exact wrapN (by omega)
theorem or_u64 {a c : Nat} (ha : a ≤ 18446744073709551615) (hc : c ≤ 18446744073709551615) : bits BinOp.or .u64 (a : Int) (c : Int) = ((a ||| c : Nat) : Int) := by
  have e : bits BinOp.or .u64 (a : Int) (c : Int) = IntKind.u64.wrap ((BitVec.ofInt 64 (a : Int) ||| BitVec.ofInt 64 (c : Int)).toNat : Int) := rfl
  rw [e, BitVec.toNat_or, BitVec.toNat_ofInt, BitVec.toNat_ofInt]
  have e1 : ((a : Int) % ((2 ^ 64 : Nat) : Int)).toNat = a := by omega
  have e2 : ((c : Int) % ((2 ^ 64 : Nat) : Int)).toNat = c := by omega
  rw [e1, e2]
  have h : (a ||| c) < 2 ^ 64 := Nat.or_lt_two_pow (by omega) (by omega)
  exact wrapN (by omega)
theorem land_low (b k : Nat) : b &&& (2 ^ k - 1) = b % 2 ^ k := Nat.and_two_pow_sub_one_eq_mod b k
theorem land_mid (b i k : Nat) : b &&& (2 ^ i * (2 ^ k - 1)) = 2 ^ i * (b / 2 ^ i % 2 ^ k) := by
  apply Nat.eq_of_testBit_eq
  intro j
  rw [Nat.testBit_and, Nat.testBit_two_pow_mul, Nat.testBit_two_pow_mul, Nat.testBit_two_pow_sub_one, Nat.testBit_mod_two_pow, Nat.testBit_div_two_pow]
  by_cases h : i ≤ j
  · have e : j - i + i = j := by omega
    have e' : i + (j - i) = j := by omega
    simp only [ge_iff_le, h, decide_true, Bool.true_and, e, e']
    by_cases h2 : j - i < k <;> simp [h2]
  · simp [h]
/-- The fraction and the exponent of a double's bits. -/
theorem frac_and {b : Nat} (hb : b ≤ 18446744073709551615) : bits BinOp.and .u64 (b : Int) 4503599627370495 = ((b % 4503599627370496 : Nat) : Int) := by
  have := and_u64 hb (show 4503599627370495 ≤ 18446744073709551615 by decide)
  have h2 := land_low b 52
  rw [show (4503599627370495 : Int) = ((4503599627370495 : Nat) : Int) from rfl, this]
  rw [show (2 : Nat) ^ 52 - 1 = 4503599627370495 from by decide] at h2
  rw [h2]
theorem expo_and {b : Nat} (hb : b ≤ 18446744073709551615) : bits BinOp.and .u64 (b : Int) 9218868437227405312 = ((4503599627370496 * (b / 4503599627370496 % 2048) : Nat) : Int) := by
  have := and_u64 hb (show 9218868437227405312 ≤ 18446744073709551615 by decide)
  have h2 := land_mid b 52 11
  rw [show (9218868437227405312 : Int) = ((9218868437227405312 : Nat) : Int) from rfl, this]
  rw [show (2 : Nat) ^ 52 * (2 ^ 11 - 1) = 9218868437227405312 from by decide, show (2 : Nat) ^ 52 = 4503599627370496 from by decide, show (2 : Nat) ^ 11 = 2048 from by decide] at h2
  rw [h2]
theorem clsN_parts (b : Nat) : clsN b = if 4503599627370496 * (b / 4503599627370496 % 2048) = 9218868437227405312 then (if b % 4503599627370496 ≠ 0 then 0 else 1) else if 4503599627370496 * (b / 4503599627370496 % 2048) = 0 then (if b % 4503599627370496 ≠ 0 then 3 else 2) else 4 := by
  unfold clsN infN sgnN
  have h1 : b % 9223372036854775808 = 4503599627370496 * (b / 4503599627370496 % 2048) + b % 4503599627370496 := by omega
  rw [h1]
  generalize b / 4503599627370496 % 2048 = x at *
  generalize hy : b % 4503599627370496 = y at *
  have hy2 : y < 4503599627370496 := by omega
  repeat' split
  all_goals first
    | rfl
    | (exfalso; omega)
/-- The sum of the four lengths. -/
theorem sum4 {l1 l2 l3 l4 : Nat} (h : l1 + l2 + l3 + l4 ≤ 9223372036854775807) : decide (0 < wrap64 (wrap64 (wrap64 ((l1 : Int) + l2) + l3) + l4)) = !(l1 == 0 && l2 == 0 && l3 == 0 && l4 == 0) := by
  have e1 : wrap64 ((l1 : Int) + l2) = ((l1 + l2 : Nat) : Int) := by unfold wrap64; omega
  have e2 : wrap64 (((l1 + l2 : Nat) : Int) + l3) = ((l1 + l2 + l3 : Nat) : Int) := by unfold wrap64; omega
  have e3 : wrap64 (((l1 + l2 + l3 : Nat) : Int) + l4) = ((l1 + l2 + l3 + l4 : Nat) : Int) := by unfold wrap64; omega
  rw [e1, e2, e3]
  rw [Bool.eq_iff_iff]
  simp only [decide_eq_true_eq, Bool.not_eq_true', Bool.and_eq_false_imp, beq_eq_false_iff_ne, ne_eq, beq_iff_eq, Bool.and_eq_true]
  constructor
  · intro h1 h2 h3
    omega
  · intro h1
    by_cases h2 : l1 = 0 ∧ l2 = 0 ∧ l3 = 0
    · have := h1 (by simpa [and_assoc] using h2)
      omega
    · omega
theorem beq0 (n : Nat) : ((n : Int) != 0) = decide (n ≠ 0) := by
  rw [Bool.eq_iff_iff]
  simp
theorem beqN (n m : Nat) : ((n : Int) == (m : Int)) = decide (n = m) := by
  rw [Bool.eq_iff_iff]
  simp
  omega
theorem isE (t : ByteArray) : t.toList.isEmpty = t.data.toList.isEmpty := by
  by_cases h : t.size = 0
  · rw [empty_yes h, empty_list t h]; rfl
  · rw [empty_no h, nonempty_list t h]
theorem int_num (v : Sc) (h : v.k = 1 ∨ v.k = 2 ∨ v.k = 3 ∨ v.k = 4 ∨ v.k = 5 ∨ v.k = 9) : intV v = sI v.b := by
  rcases h with h | h | h | h | h | h <;> simp [intV, isB, txB, h]
theorem int_not (v : Sc) (h : ¬ (v.k = 1 ∨ v.k = 2 ∨ v.k = 3 ∨ v.k = 4 ∨ v.k = 5 ∨ v.k = 9)) : intV v = 0 := by
  unfold intV
  rw [if_pos]
  simp only [isB, txB, Bool.or_eq_true, Bool.not_eq_true', Bool.and_eq_false_imp, decide_eq_true_eq, decide_eq_false_iff_not, beq_iff_eq]
  omega
theorem fits_base (v : SV) (h1 : isB v.k = true) (h3 : loneB (sc v) = true) :
    fitsB v.k (sc v) = if txB v.k then (((v.b : Int) == 0) && decide ((v.t.size : Int) ≤ 4096) && (v.k == 8 || decide (bad v.t.data.toList < 0))) else v.t.toList.isEmpty && rgB v.k v.b := by
  have e : v.t.data.toList.length = v.t.size := rfl
  have e4 : decide ((v.t.size : Int) ≤ 4096) = decide (v.t.size ≤ 4096) := decide_eq_decide.2 (by omega)
  rw [nat0, isE, e4]
  simp only [fitsB, h1, h3]
  simp [sc, e]
  try rfl
end Go.Proofs.YtgjbpadhdnclnaaGreatDoor.ScpM
