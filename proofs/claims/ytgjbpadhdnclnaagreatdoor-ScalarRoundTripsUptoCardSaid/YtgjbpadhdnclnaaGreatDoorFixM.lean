/- Eight bytes of a number: plain mathematics. -/
import Derived.Test.YtgjbpadhdnclnaaGreatDoorVarM
import Derived.Test.YtgjbpadhdnclnaaGreatDoorRows
import Derived.WalkKit
namespace Go.Proofs.YtgjbpadhdnclnaaGreatDoor.FixM
open Go.RowKit VarM

/-- The first k bytes of u, the least one first. -/
def fix : Nat → Nat → List UInt8
  | 0, _ => []
  | k + 1, u => UInt8.ofNat (u % 256) :: fix k (u / 256)
theorem fix_length : ∀ k u, (fix k u).length = k
  | 0, _ => rfl
  | k + 1, u => by simp [fix, fix_length k]
theorem fix_snoc : ∀ k u, fix (k + 1) u = fix k u ++ [UInt8.ofNat (u / 256 ^ k % 256)]
  | 0, u => by simp [fix]
  | k + 1, u => by
    rw [fix, fix_snoc k (u / 256), fix]
    simp only [List.cons_append]
    congr 5
    rw [Nat.div_div_eq_div_mul, Nat.pow_succ, Nat.mul_comm]

/-- The number of bytes, the least one first. -/
def num : List UInt8 → Nat
  | [] => 0
  | c :: l => c.toNat + 256 * num l
theorem num_append : ∀ (l r : List UInt8), num (l ++ r) = num l + 256 ^ l.length * num r
  | [], r => by simp [num]
  | c :: l, r => by
    rw [List.cons_append, num, num_append l r, num, List.length_cons, Nat.pow_succ, Nat.mul_add, ← Nat.mul_assoc, Nat.mul_comm 256 (256 ^ l.length), Nat.add_assoc]
theorem num_lt : ∀ l : List UInt8, num l < 256 ^ l.length
  | [] => by simp [num]
  | c :: l => by
    have := num_lt l
    have := c.toNat_lt
    rw [num, List.length_cons, Nat.pow_succ]
    omega
theorem num_fix : ∀ k u, num (fix k u) = u % 256 ^ k
  | 0, u => by simp [num, fix, Nat.mod_one]
  | k + 1, u => by
    rw [fix, num, num_fix k, toNat_ofNat (by omega), Nat.pow_succ, Nat.mul_comm (256 ^ k) 256, Nat.mod_mul]

/-- Bytes i up to 8 of a string, as a number. -/
theorem take_snoc (s : ByteArray) (k : Nat) (h : k < s.size) : s.data.toList.take (k + 1) = s.data.toList.take k ++ [s[k]] := by
  rw [List.take_succ_eq_append_getElem (by simpa using h)]; rfl
theorem num_snoc (s : ByteArray) (k : Nat) (h : k < s.size) : num (s.data.toList.take (k + 1)) = num (s.data.toList.take k) + s[k].toNat * 256 ^ k := by
  have hl : (s.data.toList.take k).length = k := by
    have e : s.data.toList.length = s.size := rfl
    rw [List.length_take, e]; omega
  rw [take_snoc s k h, num_append, hl]
  simp [num, Nat.mul_comm]
theorem num_take_lt (s : ByteArray) (k : Nat) : num (s.data.toList.take k) < 256 ^ k := by
  refine Nat.lt_of_lt_of_le (num_lt _) (Nat.pow_le_pow_right (by omega) (List.length_take_le _ _))
theorem num_drop (s : ByteArray) (k : Nat) (h : k < s.size) (hk : k < 8) : num ((s.data.toList.take 8).drop k) = s[k].toNat + 256 * num ((s.data.toList.take 8).drop (k + 1)) := by
  have hl : k < (s.data.toList.take 8).length := by
    have e : s.data.toList.length = s.size := rfl
    rw [List.length_take, e]; omega
  rw [List.drop_eq_getElem_cons hl, num, List.getElem_take]
  rfl
/-- What TakeFixed returns. -/
def fixed (l : List UInt8) : Nat × Nat := if l.length < 8 then (0, 4) else (num (l.take 8), 0)

theorem ret2 {u u' e e' : Int} (h1 : u = u') (h3 : e = e') : Ending.returned (.tuple #[.int .u64 u, .int .i64 e]) = .returned (.tuple #[.int .u64 u', .int .i64 e']) := by rw [h1, h3]

end Go.Proofs.YtgjbpadhdnclnaaGreatDoor.FixM
