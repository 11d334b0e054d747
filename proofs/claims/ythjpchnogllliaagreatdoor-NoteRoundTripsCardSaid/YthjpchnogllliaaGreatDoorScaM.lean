import Derived.Test.YthjpchnogllliaaGreatDoorUtfQ
import GoSem.Op.String
/- Stage 4 as plain mathematics: kinds, what fits, classes of doubles, decimal digits. Of no program. -/
set_option linter.unusedSimpArgs false
set_option linter.unusedVariables false
namespace Go.Proofs.YthjpchnogllliaaGreatDoor.ScaM
open UtfM UtfQ

/-- A value as the laws see it: its kind, its bits, its text, and how many parts of each sort it has. -/
structure Sc where
  k : Int
  b : Nat
  t : List UInt8
  n1 : Nat
  n2 : Nat
  n3 : Nat
  n4 : Nat
deriving DecidableEq

def isB (k : Int) : Bool := decide (1 ≤ k) && decide (k ≤ 9)
def txB (k : Int) : Bool := k == 7 || k == 8
def sgB (k : Int) : Bool := k == 2 || k == 3
def loneB (v : Sc) : Bool := v.n1 == 0 && v.n2 == 0 && v.n3 == 0 && v.n4 == 0
/-- The number of 64 bits as a signed one. -/
def sI (b : Nat) : Int := if b < 9223372036854775808 then b else (b : Int) - 18446744073709551616
def rgB (k : Int) (b : Nat) : Bool :=
  if k = 1 then decide (b ≤ 1) else if k = 2 then decide (-2147483648 ≤ sI b) && decide (sI b ≤ 2147483647) else if k = 4 then decide (b < 4294967296) else if k = 9 then decide (b < 2147483648) else true
def fitsB (k : Int) (v : Sc) : Bool :=
  isB k && v.k == k && loneB v && (if txB k then v.b == 0 && decide (v.t.length ≤ 4096) && (k == 8 || decide (bad v.t < 0)) else v.t.isEmpty && rgB k v.b)

def nanN : Nat := 9221120237041090560
def infN : Nat := 9218868437227405312
def sgnN : Nat := 9223372036854775808
def clsN (b : Nat) : Int := if infN < b % sgnN then 0 else if b % sgnN = infN then 1 else if b % sgnN = 0 then 2 else if b % sgnN < 4503599627370496 then 3 else 4
def normV (v : Sc) : Sc := if v.k = 6 ∧ clsN v.b = 0 then { v with b := nanN } else v
def zeroV (k : Int) : Sc := if isB k then ⟨k, 0, [], 0, 0, 0, 0⟩ else ⟨0, 0, [], 0, 0, 0, 0⟩
def isZeroB (v : Sc) : Bool := isB v.k && v.b == 0 && v.t.isEmpty && loneB v
def intV (v : Sc) : Int := if !isB v.k || txB v.k || v.k == 6 then 0 else sI v.b

/-- Decimal digits. -/
def dec (n : Nat) : List UInt8 := if n < 10 then [UInt8.ofNat (48 + n)] else dec (n / 10) ++ [UInt8.ofNat (48 + n % 10)]
theorem dec_small {n : Nat} (h : n < 10) : dec n = [UInt8.ofNat (48 + n)] := by rw [dec, if_pos h]
theorem dec_large {n : Nat} (h : ¬ n < 10) : dec n = dec (n / 10) ++ [UInt8.ofNat (48 + n % 10)] := by rw [dec, if_neg h]
theorem dec_ne (n : Nat) : dec n ≠ [] := by rw [dec]; split <;> simp
theorem dec_len : ∀ (k n : Nat), n < 10 ^ (k + 1) → (dec n).length ≤ k + 1
  | 0, n, h => by rw [dec_small (by omega)]; simp
  | k + 1, n, h => by
    by_cases hs : n < 10
    · rw [dec_small hs]; simp
    · rw [dec_large hs, List.length_append, List.length_singleton]
      have := dec_len k (n / 10) (by rw [Nat.pow_succ] at h; omega)
      omega
/-- The sixteen hexadecimal digits of a number of 64 bits. -/
def be8 : Nat → Nat → List UInt8
  | 0, _ => []
  | k + 1, n => be8 k (n / 256) ++ [UInt8.ofNat (n % 256)]
def hex16 (n : Nat) : List UInt8 := hexL (be8 8 n)
theorem be8_len (k n : Nat) : (be8 k n).length = k := by
  induction k generalizing n with
  | zero => rfl
  | succ k ih => rw [be8, List.length_append, ih]; rfl

def textV (v : Sc) : List UInt8 :=
  if !fitsB v.k v then []
  else if v.k = 1 then (if v.b = 1 then [116, 114, 117, 101] else [102, 97, 108, 115, 101])
  else if v.k = 2 ∨ v.k = 3 then (if sgnN ≤ v.b then 45 :: dec (18446744073709551616 - v.b) else dec v.b)
  else if v.k = 6 then (if clsN v.b = 0 then [110, 97, 110] else if clsN v.b = 1 then (if sgnN ≤ v.b then [45, 105, 110, 102] else [105, 110, 102]) else [48, 120] ++ hex16 v.b)
  else if v.k = 7 then quote v.t
  else if v.k = 8 then 120 :: quote (hexL v.t)
  else dec v.b

/-- Ranks and comparing. -/
def rankN (v : Sc) : Nat :=
  if sgB v.k then (v.b + sgnN) % 18446744073709551616 else if v.k ≠ 6 then v.b else if clsN v.b = 0 then 18446744073709551615 else if sgnN ≤ v.b then 18446744073709551615 - v.b else (v.b + sgnN) % 18446744073709551616
def cmpV (a b : Sc) : Int :=
  if a.k < b.k then -1 else if b.k < a.k then 1 else if !isB a.k then 0
  else if txB a.k then (if Op.bytesLess a.t b.t then -1 else if a.t == b.t then 0 else 1)
  else if rankN a < rankN b then -1 else if rankN b < rankN a then 1 else 0
end Go.Proofs.YthjpchnogllliaaGreatDoor.ScaM
