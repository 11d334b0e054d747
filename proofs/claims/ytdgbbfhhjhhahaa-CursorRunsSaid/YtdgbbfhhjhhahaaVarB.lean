/- Or of disjoint bits is a sum; shifts by multiples of seven and eight are products. -/
import Derived.Test.YtdgbbfhhjhhahaaRows
import Derived.Test.YtdgbbfhhjhhahaaVarM
import Derived.WalkKit
import Derived.IntWalk
namespace Go.Proofs.Ytdgbbfhhjhhahaa.VarB
open Go.RowKit

theorem or_add (a c k : Nat) (h : a < 2 ^ k) : a ||| (c * 2 ^ k) = a + c * 2 ^ k := by
  rw [← Nat.shiftLeft_eq, Nat.or_comm, ← Nat.shiftLeft_add_eq_or_of_lt h, Nat.add_comm]
theorem pow128 (k : Nat) : 128 ^ k = 2 ^ (7 * k) := by rw [Nat.pow_mul]
theorem pow256 (k : Nat) : 256 ^ k = 2 ^ (8 * k) := by rw [Nat.pow_mul]
theorem wrap_u64 {n : Nat} (h : n ≤ 18446744073709551615) : IntKind.u64.wrap (n : Int) = n := by
  rw [IntKind.wrap_u64]; omega

theorem or_sum {a c j : Nat} (h : a < 2 ^ j) (hb : a + c * 2 ^ j ≤ 18446744073709551615) : bits .or .u64 (a : Int) (IntKind.u64.wrap ((c : Int) * 2 ^ j)) = ((a + c * 2 ^ j : Nat) : Int) := by
  have e : (c : Int) * 2 ^ j = ((c * 2 ^ j : Nat) : Int) := by simp
  rw [e, wrap_u64 (by omega), u64_or_nat a (c * 2 ^ j) (by omega) (by omega), or_add a c j h]
theorem or_eq {a c k : Nat} (h : a < 128 ^ k) (hb : a + c * 128 ^ k ≤ 18446744073709551615) : bits .or .u64 (a : Int) (IntKind.u64.wrap ((c : Int) * 2 ^ (7 * k))) = ((a + c * 128 ^ k : Nat) : Int) := by
  rw [pow128] at h hb ⊢
  exact or_sum h hb
theorem or_eq9 {a c : Nat} (h : a < 128 ^ 9) (hb : a + c * 128 ^ 9 ≤ 18446744073709551615) : bits .or .u64 (a : Int) (IntKind.u64.wrap ((c : Int) * 9223372036854775808)) = ((a + c * 128 ^ 9 : Nat) : Int) := by
  have e : (9223372036854775808 : Int) = 2 ^ (7 * 9) := by simp
  rw [e]
  exact or_eq h hb
theorem or_eq256 {a c k : Nat} (h : a < 256 ^ k) (hb : a + c * 256 ^ k ≤ 18446744073709551615) : bits .or .u64 (a : Int) (IntKind.u64.wrap ((c : Int) * 2 ^ (8 * k))) = ((a + c * 256 ^ k : Nat) : Int) := by
  rw [pow256] at h hb ⊢
  exact or_sum h hb
end Go.Proofs.Ytdgbbfhhjhhahaa.VarB
