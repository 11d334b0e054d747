import Derived.Test.YthjpchnogllliaaGreatDoorScaC
import Derived.Test.YthjpchnogllliaaGreatDoorUtfA
import Derived.Shelf.Strings.SlTrimAscii
import Derived.Test.YthjpchnogllliaaGreatDoorTld
import Derived.Lib.ParseIntB
import Derived.Lib.ConvBytes
import Derived.Lib.AtoiErrMem
/- The program's package scalar, stage 4: masks of 64 bits and small sums, as plain numbers. -/
set_option linter.unusedSimpArgs false
set_option linter.unusedVariables false
namespace Go.Proofs.YthjpchnogllliaaGreatDoor.ScpM
open Go.RowKit Nums Byt UtfM UtfS ScaM ScaV ScaA ScaB ScaC

theorem wrapN {n : Nat} (h : n ≤ 18446744073709551615) : IntKind.u64.wrap (n : Int) = n := by
  rw [IntKind.wrap_u64]
  omega
theorem and_u64 {a c : Nat} (ha : a ≤ 18446744073709551615) (hc : c ≤ 18446744073709551615) : bits BinOp.and .u64 (a : Int) (c : Int) = ((a &&& c : Nat) : Int) := by
  have e : bits BinOp.and .u64 (a : Int) (c : Int) = IntKind.u64.wrap ((BitVec.ofInt 64 (a : Int) &&& BitVec.ofInt 64 (c : Int)).toNat : Int) := rfl
  rw [e, BitVec.toNat_and, BitVec.toNat_ofInt, BitVec.toNat_ofInt]
  have e1 : ((a : Int) % ((2 ^ 64 : Nat) : Int)).toNat = a := by omega
  have e2 : ((c : Int) % ((2 ^ 64 : Nat) : Int)).toNat = c := by omega
  rw [e1, e2]
  have h : (a &&& c) ≤ a := Nat.and_le_left
  exact wrapN (by omega)
theorem or_u64 {a c : Nat} (ha : a ≤ 18446744073709551615) (hc : c ≤ 18446744073709551615) : bits BinOp.or .u64 (a : Int) (c : Int) = ((a ||| c : Nat) : Int) := by
  have e : bits BinOp.or .u64 (a : Int) (c : Int) = IntKind.u64.wrap ((BitVec.ofInt 64 (a : Int) ||| BitVec.ofInt 64 (c : Int)).toNat : Int) := rfl
  rw [e, BitVec.toNat_or, BitVec.toNat_ofInt, BitVec.toNat_ofInt]
  have e1 : ((a : Int) % ((2 ^ 64 : Nat) : Int)).toNat = a := by omega
  have e2 : ((c : Int) % ((2 ^ 64 : Nat) : Int)).toNat = c := by omega
  rw [e1, e2]
  have h : (a ||| c) < 2 ^ 64 := Nat.or_lt_two_pow (by omega) (by omega)
  exact wrapN (by omega)
theorem land_low (b k : Nat) : b &&& (2 ^ k - 1) = b % 2 ^ k := Nat.and_two_pow_sub_one_eq_mod b k
theorem land_mid (b i k : Nat) : b &&& (2 ^ i * (2 ^ k - 1)) = 2 ^ i * (b / 2 ^ i % 2 ^ k) := by
  apply Nat.eq_of_testBit_eq
  intro j
  rw [Nat.testBit_and, Nat.testBit_two_pow_mul, Nat.testBit_two_pow_mul, Nat.testBit_two_pow_sub_one, Nat.testBit_mod_two_pow, Nat.testBit_div_two_pow]
  by_cases h : i ≤ j
  · have e : j - i + i = j := by omega
    have e' : i + (j - i) = j := by omega
    simp only [ge_iff_le, h, decide_true, Bool.true_and, e, e']
    by_cases h2 : j - i < k <;> simp [h2]
  · simp [h]
/-- The fraction and the exponent of a double's bits. -/
theorem frac_and {b : Nat} (hb : b ≤ 18446744073709551615) : bits BinOp.and .u64 (b : Int) 4503599627370495 = ((b % 4503599627370496 : Nat) : Int) := by
  have := and_u64 hb (show 4503599627370495 ≤ 18446744073709551615 by decide)
  have h2 := land_low b 52
  rw [show (4503599627370495 : Int) = ((4503599627370495 : Nat) : Int) from rfl, this]
  rw [show (2 : Nat) ^ 52 - 1 = 4503599627370495 from by decide] at h2
  rw [h2]
theorem expo_and {b : Nat} (hb : b ≤ 18446744073709551615) : bits BinOp.and .u64 (b : Int) 9218868437227405312 = ((4503599627370496 * (b / 4503599627370496 % 2048) : Nat) : Int) := by
  have := and_u64 hb (show 9218868437227405312 ≤ 18446744073709551615 by decide)
  have h2 := land_mid b 52 11
  rw [show (9218868437227405312 : Int) = ((9218868437227405312 : Nat) : Int) from rfl, this]
  rw [show (2 : Nat) ^ 52 * (2 ^ 11 - 1) = 9218868437227405312 from by decide, show (2 : Nat) ^ 52 = 4503599627370496 from by decide, show (2 : Nat) ^ 11 = 2048 from by decide] at h2
  rw [h2]
theorem clsN_parts (b : Nat) : clsN b = if 4503599627370496 * (b / 4503599627370496 % 2048) = 9218868437227405312 then (if b % 4503599627370496 ≠ 0 then 0 else 1) else if 4503599627370496 * (b / 4503599627370496 % 2048) = 0 then (if b % 4503599627370496 ≠ 0 then 3 else 2) else 4 := by
  unfold clsN infN sgnN
  have h1 : b % 9223372036854775808 = 4503599627370496 * (b / 4503599627370496 % 2048) + b % 4503599627370496 := by omega
  rw [h1]
  generalize b / 4503599627370496 % 2048 = x at *
  generalize hy : b % 4503599627370496 = y at *
  have hy2 : y < 4503599627370496 := by omega
  repeat' split
  all_goals first
    | rfl
    | (exfalso; omega)
/-- The sum of the four lengths. -/
theorem sum4 {l1 l2 l3 l4 : Nat} (h : l1 + l2 + l3 + l4 ≤ 9223372036854775807) : decide (0 < wrap64 (wrap64 (wrap64 ((l1 : Int) + l2) + l3) + l4)) = !(l1 == 0 && l2 == 0 && l3 == 0 && l4 == 0) := by
  have e1 : wrap64 ((l1 : Int) + l2) = ((l1 + l2 : Nat) : Int) := by unfold wrap64; omega
  have e2 : wrap64 (((l1 + l2 : Nat) : Int) + l3) = ((l1 + l2 + l3 : Nat) : Int) := by unfold wrap64; omega
  have e3 : wrap64 (((l1 + l2 + l3 : Nat) : Int) + l4) = ((l1 + l2 + l3 + l4 : Nat) : Int) := by unfold wrap64; omega
  rw [e1, e2, e3]
  rw [Bool.eq_iff_iff]
  simp only [decide_eq_true_eq, Bool.not_eq_true', Bool.and_eq_false_imp, beq_eq_false_iff_ne, ne_eq, beq_iff_eq, Bool.and_eq_true]
  constructor
  · intro h1 h2 h3
    omega
  · intro h1
    by_cases h2 : l1 = 0 ∧ l2 = 0 ∧ l3 = 0
    · have := h1 (by simpa [and_assoc] using h2)
      omega
    · omega
theorem beq0 (n : Nat) : ((n : Int) != 0) = decide (n ≠ 0) := by
  rw [Bool.eq_iff_iff]
  simp
theorem beqN (n m : Nat) : ((n : Int) == (m : Int)) = decide (n = m) := by
  rw [Bool.eq_iff_iff]
  simp
  omega
theorem isE (t : ByteArray) : t.toList.isEmpty = t.data.toList.isEmpty := by
  by_cases h : t.size = 0
  · rw [empty_yes h, empty_list t h]; rfl
  · rw [empty_no h, nonempty_list t h]
theorem int_num (v : Sc) (h : v.k = 1 ∨ v.k = 2 ∨ v.k = 3 ∨ v.k = 4 ∨ v.k = 5 ∨ v.k = 9) : intV v = sI v.b := by
  rcases h with h | h | h | h | h | h <;> simp [intV, isB, txB, h]
theorem int_not (v : Sc) (h : ¬ (v.k = 1 ∨ v.k = 2 ∨ v.k = 3 ∨ v.k = 4 ∨ v.k = 5 ∨ v.k = 9)) : intV v = 0 := by
  unfold intV
  rw [if_pos]
  simp only [isB, txB, Bool.or_eq_true, Bool.not_eq_true', Bool.and_eq_false_imp, decide_eq_true_eq, decide_eq_false_iff_not, beq_iff_eq]
  omega
theorem fits_base (v : SV) (h1 : isB v.k = true) (h3 : loneB (sc v) = true) :
    fitsB v.k (sc v) = if txB v.k then (((v.b : Int) == 0) && decide ((v.t.size : Int) ≤ 4096) && (v.k == 8 || decide (bad v.t.data.toList < 0))) else v.t.toList.isEmpty && rgB v.k v.b := by
  have e : v.t.data.toList.length = v.t.size := rfl
  have e4 : decide ((v.t.size : Int) ≤ 4096) = decide (v.t.size ≤ 4096) := decide_eq_decide.2 (by omega)
  rw [nat0, isE, e4]
  simp only [fitsB, h1, h3]
  simp [sc, e]
  try rfl
end Go.Proofs.YthjpchnogllliaaGreatDoor.ScpM

/- Contracts of the small functions of the program's package scalar. -/
set_option linter.unusedSimpArgs false
set_option linter.unusedVariables false
namespace Go.Proofs.YthjpchnogllliaaGreatDoor.ScpA
open Go.RowKit Nums Byt UtfM UtfS ScaM ScaV ScaA ScaB ScaC ScpM

set_option maxRecDepth 100000 in
theorem class_p (b : Nat) (hb : b ≤ 18446744073709551615) (w : World) : Calls Tryz.prog 73 #[.int .u64 b] w fun e w' => e = .returned (.int .i64 (clsN b)) ∧ w = w' := by
  have H1 := Lib.hid (frac_and hb)
  have H2 := Lib.hid (expo_and hb)
  have H3 := Lib.hid (clsN_parts b)
  clear hb
  go_enter Tryz.func73, Tryz.ntmps73
  go_wp2_with fail
  all_goals go_ret
  all_goals refine ⟨?_, rfl⟩
  all_goals rw [H3.out]
  all_goals clear H3
  all_goals simp only [H1.out, H2.out, bne_iff_ne, ne_eq, beq_iff_eq, beq_eq_false_iff_ne, bne_eq_false_iff_eq] at *
  all_goals refine congrArg (fun z => Ending.returned (Value.int .i64 z)) ?_
  all_goals repeat' split
  all_goals first
    | rfl
    | (exfalso; omega)
set_option maxRecDepth 100000 in
theorem hasParts_p (v : SV) (hl : v.l1 + v.l2 + v.l3 + v.l4 ≤ 9223372036854775807) (w : World) : Calls Tryz.prog 35 #[vv v] w fun e w' => e = .returned (.bool (!loneB (sc v))) ∧ Below w.heap.size w w' := by
  obtain ⟨k, b, t, a1, l1, c1, a2, l2, c2, a3, l3, c3, a4, l4, c4⟩ := v
  simp only [vv]
  have H := Lib.hid (sum4 hl)
  clear hl
  go_enter Tryz.func35, Tryz.ntmps35
  go_wp2_with fail
  go_ret
  exact ⟨ret_bool (by rw [H.out]; rfl), below_box _ _⟩
set_option maxRecDepth 100000 in
theorem inRange_p (k : Int) (b : Nat) (hb : b ≤ 18446744073709551615) (w : World) : Calls Tryz.prog 37 #[.int .i64 k, .int .u64 b] w fun e w' => e = .returned (.bool (rgB k b)) ∧ w = w' := by
  go_enter Tryz.func37, Tryz.ntmps37
  go_wp2_with fail
  all_goals go_ret
  all_goals refine ⟨ret_bool ?_, rfl⟩
  all_goals simp only [beq_iff_eq, beq_eq_false_iff_ne, ne_eq] at *
  all_goals unfold rgB sI
  all_goals rw [Bool.eq_iff_iff]
  all_goals (try subst k)
  all_goals (try rw [IntKind.wrap_u64])
  all_goals repeat' split
  all_goals first
    | (simp only [Bool.and_eq_true, decide_eq_true_eq]; omega)
    | (simp only [decide_eq_true_eq]; omega)
    | rfl
    | (exfalso; omega)
    | trace_state
set_option maxRecDepth 100000 in
theorem is_p (k : Int) (w : World) : Calls Tryz.prog 34 #[.int .i64 k] w fun e w' => e = .returned (.bool (isB k)) ∧ w = w' := by
  by_cases h1 : 1 ≤ k
  · by_cases h2 : k ≤ 9
    · have d1 : decide (1 ≤ k) = true := by simp [h1]
      have d2 : decide (k ≤ 9) = true := by simp [h2]
      go_enter Tryz.func34, Tryz.ntmps34
      go_wp2_with fail
      go_ret
      exact ⟨ret_bool (by simp [isB, h1, h2]), rfl⟩
    · have d1 : decide (1 ≤ k) = true := by simp [h1]
      have d2 : decide (k ≤ 9) = false := by simp; omega
      go_enter Tryz.func34, Tryz.ntmps34
      go_wp2_with fail
      go_ret
      exact ⟨ret_bool (by simp [isB, h2]), rfl⟩
  · have d1 : decide (1 ≤ k) = false := by simp; omega
    go_enter Tryz.func34, Tryz.ntmps34
    go_wp2_with fail
    go_ret
    exact ⟨ret_bool (by simp [isB]; omega), rfl⟩

set_option maxRecDepth 100000 in
theorem signed_p (k : Int) (w : World) : Calls Tryz.prog 43 #[.int .i64 k] w fun e w' => e = .returned (.bool (sgB k)) ∧ w = w' := by
  cases h1 : (k == 2) with
  | true =>
    go_enter Tryz.func43, Tryz.ntmps43
    go_wp2_with fail
    go_ret
    exact ⟨ret_bool (by simp [sgB, h1]), rfl⟩
  | false =>
    go_enter Tryz.func43, Tryz.ntmps43
    go_wp2_with fail
    go_ret
    exact ⟨ret_bool (by simp [sgB, h1]), rfl⟩

set_option maxHeartbeats 1000000 in
set_option maxRecDepth 100000 in
theorem zero_p (k : Int) (w : World) : Calls Tryz.prog 111 #[.int .i64 k] w fun e w' => e = .returned (vv (zeroS k)) ∧ Below w.heap.size w w' := by
  cases hk : isB k with
  | true =>
    have hz : zeroS k = zv k := by unfold zeroS; rw [hk]; rfl
    have H1 := Lib.hid hk
    have Hz := Lib.hid hz
    clear hk hz
    go_enter Tryz.func111, Tryz.ntmps111
    go_wp2_with fail
    refine (is_p _ _).mono ?_
    rintro _ w1 ⟨rfl, rfl⟩
    rw [H1.out]
    go_wp2_with fail
    exact bodyPost_ret (v := .agg #[.int .i64 k, .int .u64 0, .string ⟨#[]⟩, .slice none 0 0, .slice none 0 0, .slice none 0 0, .slice none 0 0]) (by simp [results, Tryz.results111, go_sem]) rfl ⟨ret_v (by rw [Hz.out]; rfl), below_box _ _⟩
  | false =>
    have hz : zeroS k = zv 0 := by unfold zeroS; rw [hk]; rfl
    have H1 := Lib.hid hk
    have Hz := Lib.hid hz
    clear hk hz
    go_enter Tryz.func111, Tryz.ntmps111
    go_wp2_with fail
    refine (is_p _ _).mono ?_
    rintro _ w1 ⟨rfl, rfl⟩
    rw [H1.out]
    go_wp2_with fail
    exact bodyPost_ret (v := .agg #[.int .i64 0, .int .u64 0, .string ⟨#[]⟩, .slice none 0 0, .slice none 0 0, .slice none 0 0, .slice none 0 0]) (by simp [results, Tryz.results111, go_sem]) rfl ⟨ret_v (by rw [Hz.out]; rfl), below_box _ _⟩


set_option maxHeartbeats 2000000 in
set_option maxRecDepth 100000 in
theorem fits_p (kd : Int) (v : SV) (hb : v.b ≤ 18446744073709551615) (ht : v.t.size ≤ 140737488355328) (hl : v.l1 + v.l2 + v.l3 + v.l4 ≤ 9223372036854775807) (w : World) : Calls Tryz.prog 21 #[.int .i64 kd, vv v] w fun e w' => e = .returned (.bool (fitsB kd (sc v))) ∧ Below w.heap.size w w' := by
  have H := Lib.hid fun w => hasParts_p v hl w
  have HR := Lib.hid fun w => inRange_p kd v.b hb w
  have HT := Lib.hid ht
  clear ht hl hb
  obtain ⟨k, b, t, a1, l1, c1, a2, l2, c2, a3, l3, c3, a4, l4, c4⟩ := v
  simp only [vv] at *
  cases h1 : isB kd with
  | false =>
    go_enter Tryz.func21, Tryz.ntmps21
    go_wp2_with (first | (refine (is_p _ _).mono ?_; rintro _ w1 ⟨rfl, rfl⟩; rw [h1]))
    go_ret
    exact ⟨ret_bool (by simp [fitsB, h1]), below_box _ _⟩
  | true =>
    cases e1 : (k != kd) with
    | true =>
      go_enter Tryz.func21, Tryz.ntmps21
      go_wp2_with (first | (refine (is_p _ _).mono ?_; rintro _ w1 ⟨rfl, rfl⟩; rw [h1]))
      go_ret
      have e : (k == kd) = false := by simpa using e1
      exact ⟨ret_bool (by simp [fitsB, sc, e]), below_box _ _⟩
    | false =>
      have e : (k == kd) = true := by simpa using e1
      cases h3 : loneB (sc ⟨k, b, t, a1, l1, c1, a2, l2, c2, a3, l3, c3, a4, l4, c4⟩) with
      | false =>
        go_enter Tryz.func21, Tryz.ntmps21
        go_wp2_with (first | (refine (is_p _ _).mono ?_; rintro _ w1 ⟨rfl, rfl⟩; rw [h1]) | (refine (H.out _).mono ?_; rintro _ w2 ⟨rfl, hb2⟩; rw [h3]))
        go_ret
        exact ⟨ret_bool (by simp [fitsB, h3]), bt (below_box _ _) hb2⟩
      | true =>
        cases e7 : (kd == 7) with
        | true =>
          have e8 : (kd == 8) = false := by rw [eq_of_beq e7]; rfl
          cases e2 : ((b : Int) == 0) <;> cases e4 : decide ((t.size : Int) ≤ 4096)
          all_goals
            go_enter Tryz.func21, Tryz.ntmps21
            go_wp2_with (first | (refine (is_p _ _).mono ?_; rintro _ w1 ⟨rfl, rfl⟩; rw [h1]) | (refine (H.out _).mono ?_; rintro _ w2 ⟨rfl, hb2⟩; rw [h3]; obtain ⟨lc, lf⟩ := bcell hb2) | (refine (UtfA.valid_any t (Nat.le_trans HT.out (by decide)) _).mono ?_; rintro _ w3 ⟨rfl, hb3⟩) | (refine (HR.out _).mono ?_; rintro _ w3 ⟨rfl, rfl⟩))
            go_ret
            have ek := eq_of_beq e
            subst ek
            refine ⟨ret_bool ?_, ?_⟩
            · rw [fits_base ⟨k, b, t, a1, l1, c1, a2, l2, c2, a3, l3, c3, a4, l4, c4⟩ h1 h3]
              simp [txB, e7, e8, e2, e4]
            · first | exact bt (bt (below_box _ _) hb2) hb3 | exact bt (below_box _ _) hb2
        | false =>
          cases e8 : (kd == 8) with
          | true =>
            cases e2 : ((b : Int) == 0) <;> cases e4 : decide ((t.size : Int) ≤ 4096)
            all_goals
              go_enter Tryz.func21, Tryz.ntmps21
              go_wp2_with (first | (refine (is_p _ _).mono ?_; rintro _ w1 ⟨rfl, rfl⟩; rw [h1]) | (refine (H.out _).mono ?_; rintro _ w2 ⟨rfl, hb2⟩; rw [h3]; obtain ⟨lc, lf⟩ := bcell hb2) | (refine (UtfA.valid_any t (Nat.le_trans HT.out (by decide)) _).mono ?_; rintro _ w3 ⟨rfl, hb3⟩) | (refine (HR.out _).mono ?_; rintro _ w3 ⟨rfl, rfl⟩))
              go_ret
              have ek := eq_of_beq e
              subst ek
              refine ⟨ret_bool ?_, ?_⟩
              · rw [fits_base ⟨k, b, t, a1, l1, c1, a2, l2, c2, a3, l3, c3, a4, l4, c4⟩ h1 h3]
                simp [txB, e7, e8, e2, e4]
              · first | exact bt (bt (below_box _ _) hb2) hb3 | exact bt (below_box _ _) hb2
          | false =>
            cases e3 : t.toList.isEmpty
            all_goals
              go_enter Tryz.func21, Tryz.ntmps21
              go_wp2_with (first | (refine (is_p _ _).mono ?_; rintro _ w1 ⟨rfl, rfl⟩; rw [h1]) | (refine (H.out _).mono ?_; rintro _ w2 ⟨rfl, hb2⟩; rw [h3]; obtain ⟨lc, lf⟩ := bcell hb2) | (refine (UtfA.valid_any t (Nat.le_trans HT.out (by decide)) _).mono ?_; rintro _ w3 ⟨rfl, hb3⟩) | (refine (HR.out _).mono ?_; rintro _ w3 ⟨rfl, rfl⟩))
              go_ret
              have ek := eq_of_beq e
              subst ek
              refine ⟨ret_bool ?_, bt (below_box _ _) hb2⟩
              rw [fits_base ⟨k, b, t, a1, l1, c1, a2, l2, c2, a3, l3, c3, a4, l4, c4⟩ h1 h3]
              simp [txB, e7, e8, e3]
end Go.Proofs.YthjpchnogllliaaGreatDoor.ScpA

/- The program's decimal: only one form of a number. -/
set_option linter.unusedSimpArgs false
set_option linter.unusedVariables false
namespace Go.Proofs.YthjpchnogllliaaGreatDoor.ScpB
open Go.RowKit Nums Byt UtfM UtfS ScaM ScaV ScaA ScaB ScaC ScpM ScpA

def digitsL : List UInt8 := [48, 49, 50, 51, 52, 53, 54, 55, 56, 57]
def decB (l : List UInt8) : Bool :=
  !(Lib.trimPrefix l [45]).isEmpty && (Lib.trimS (Lib.trimPrefix l [45]) digitsL).isEmpty && (!((Lib.trimPrefix l [45]).head? == some 48) || l == [48])

theorem head48 (d : ByteArray) (h0 : 0 < d.size) : (d.data.toList.head? == some 48) = decide (((d[0]).toNat : Int) = 48) := by
  have e : d.data.toList.head? = some d[0] := by
    have h1 : 0 < d.data.toList.length := h0
    rw [List.head?_eq_getElem?, List.getElem?_eq_getElem h1]
    rfl
  rw [e, Bool.eq_iff_iff]
  simp only [beq_iff_eq, Option.some.injEq, decide_eq_true_eq]
  constructor
  · intro h; rw [h]; rfl
  · intro h
    have h2 : (d[0]).toNat = 48 := by omega
    exact UInt8.toNat_inj.1 (by rw [h2]; rfl)
theorem trim_digits (d : ByteArray) (hd : d.size ≤ 9223372036854775807) (w : World) : Calls Tryz.prog 158 #[.string d, .string ⟨#[48, 49, 50, 51, 52, 53, 54, 55, 56, 57]⟩] w fun e w' => e = .returned (.string ⟨(Lib.trimS d.data.toList digitsL).toArray⟩) ∧ Below w.heap.size w w' :=
  Any.strings_Trim_laid Tryz.lays160 (by kernel_rfl) d ⟨#[48, 49, 50, 51, 52, 53, 54, 55, 56, 57]⟩ w hd (by decide) (fun j b h => (by decide : ∀ b ∈ digitsL, b.toNat < 128) b (List.mem_of_getElem? h))

set_option maxHeartbeats 1000000 in
set_option maxRecDepth 100000 in
theorem decimal_any (s : ByteArray) (hs : s.size ≤ 9223372036854775807) (w : World) : Calls Tryz.prog 140 #[.string s] w fun e w' => e = .returned (.bool (decB s.data.toList)) ∧ Below w.heap.size w w' := by
  obtain ⟨d, hd⟩ : ∃ d : ByteArray, d = ⟨(Lib.trimPrefix s.data.toList [45]).toArray⟩ := ⟨_, rfl⟩
  obtain ⟨t, ht⟩ : ∃ t : ByteArray, t = ⟨(Lib.trimS d.data.toList digitsL).toArray⟩ := ⟨_, rfl⟩
  have hl : d.data.toList = Lib.trimPrefix s.data.toList [45] := by rw [hd]
  have hds : d.size ≤ 9223372036854775807 := by
    have e1 : d.data.toList.length = d.size := rfl
    have e2 : s.data.toList.length = s.size := rfl
    have e3 : (Lib.trimPrefix s.data.toList [45]).length ≤ s.data.toList.length := by
      unfold Lib.trimPrefix
      split
      · rw [List.length_drop]; omega
      · exact Nat.le_refl _
    rw [hl] at e1
    omega
  have c1 : ∀ w, Calls Tryz.prog 107 #[.string s, .string ⟨#[45]⟩] w fun e w' => e = .returned (.string d) ∧ w = w' := fun w => by
    rw [hd]
    exact (Tryz.strings_TrimPrefix s ⟨#[45]⟩ w).mono fun _ _ ⟨h1, h2⟩ => ⟨h1, h2.symm⟩
  have c2 : ∀ w, Calls Tryz.prog 158 #[.string d, .string ⟨#[48, 49, 50, 51, 52, 53, 54, 55, 56, 57]⟩] w fun e w' => e = .returned (.string t) ∧ Below w.heap.size w w' := fun w => by
    rw [ht]
    exact trim_digits d hds w
  have hr : decB s.data.toList = (!d.data.toList.isEmpty && t.data.toList.isEmpty && (!(d.data.toList.head? == some 48) || s.data.toList == [48])) := by
    rw [ht, hl]; rfl
  have C1 := Lib.hid c1
  have C2 := Lib.hid c2
  have HR := Lib.hid hr
  clear c1 c2 hr hd ht hl hs hds
  cases e1 : d.toList.isEmpty with
  | true =>
    go_enter Tryz.func140, Tryz.ntmps140
    go_wp2_with (first | (refine (C1.out _).mono ?_; rintro _ w1 ⟨rfl, rfl⟩))
    go_ret
    refine ⟨ret_bool ?_, Below.refl _ _⟩
    have e := (isE d).symm.trans e1
    rw [HR.out, e]
    rfl
  | false =>
    cases e2 : t.toList.isEmpty with
    | false =>
      go_enter Tryz.func140, Tryz.ntmps140
      go_wp2_with (first | (refine (C1.out _).mono ?_; rintro _ w1 ⟨rfl, rfl⟩) | (refine (C2.out _).mono ?_; rintro _ w2 ⟨rfl, hb⟩))
      go_ret
      refine ⟨ret_bool ?_, hb⟩
      have e := (isE t).symm.trans e2
      rw [HR.out, e]
      simp
    | true =>
      have h0 : 0 < d.size := by
        by_cases h : d.size = 0
        · rw [empty_yes h] at e1; cases e1
        · omega
      go_enter Tryz.func140, Tryz.ntmps140
      go_wp2_with (first | (refine (C1.out _).mono ?_; rintro _ w1 ⟨rfl, rfl⟩) | (refine (C2.out _).mono ?_; rintro _ w2 ⟨rfl, hb⟩))
      all_goals go_ret
      all_goals refine ⟨ret_bool ?_, hb⟩
      all_goals
        have e := (isE t).symm.trans e2
        have e' := (isE d).symm.trans e1
        rw [HR.out, e, e', head48 d h0]
        (try rw [ByteArray.toList_eq])
        rename_i h
        simp [h]
end Go.Proofs.YthjpchnogllliaaGreatDoor.ScpB

/- The program's number and parseNumber: decimal numbers of 64 bits. -/
set_option linter.unusedSimpArgs false
set_option linter.unusedVariables false
namespace Go.Proofs.YthjpchnogllliaaGreatDoor.ScpC
open Go.RowKit Nums Byt UtfM UtfS ScaM ScaV ScaA ScaB ScaC ScpM ScpA ScpB Ld

/-- The bits of a number in decimal, where 64 bits of the kind's sign suffice. -/
def numR (k : Int) (l : List UInt8) : Option Nat :=
  if sgB k then (match Lib.parseIntB 64 l with | .ok v => some (v % 18446744073709551616).toNat | _ => none)
  else (match Lib.parseUintB 64 l with | .ok u => some u | _ => none)
def NumRes (k : Int) (l : List UInt8) (e : Ending) : Prop :=
  ∃ (u : Nat) (ok : Bool), e = .returned (.tuple #[.int .u64 u, .bool ok]) ∧ u ≤ 18446744073709551615 ∧ (ok = true → numR k l = some u) ∧ (ok = false → numR k l = none)
theorem bw (w : World) (t : TypeId) (b : ByteArray) : Below w.heap.size w (Lib.bytesWorld w t b) := Lib.bytesWorld_below _ _ _

set_option maxHeartbeats 1000000 in
set_option maxRecDepth 100000 in
theorem number_any (k : Int) (s : ByteArray) (hs : s.size ≤ 140737488355328) (w : World) (hL : Ld w) : Calls Tryz.prog 141 #[.int .i64 k, .string s] w fun e w' => NumRes k s.data.toList e ∧ Below w.heap.size w w' := by
  obtain ⟨_, _, ⟨tp, p, hr⟩, ⟨tp', p', hy⟩⟩ := hL
  cases h1 : sgB k with
  | true =>
    rcases h : Lib.parseIntB 64 s.data.toList with v | _ | _
    · have hn : numR k s.data.toList = some (v % 18446744073709551616).toNat := by unfold numR; rw [h1, h]; rfl
      have hw : IntKind.u64.wrap v = (((v % 18446744073709551616).toNat : Nat) : Int) := by rw [IntKind.wrap_u64]; omega
      have hb : (v % 18446744073709551616).toNat ≤ 18446744073709551615 := by omega
      have C := Lib.hid (Tryz.strconv_ParseInt_10_at64_ok s (by omega) v h w)
      have HN := Lib.hid hn
      have HW := Lib.hid hw
      have HB := Lib.hid hb
      clear hn hw hb h hr hy hs
      go_enter Tryz.func141, Tryz.ntmps141
      go_wp2_with (first | (refine (signed_p _ _).mono ?_; rintro _ w1 ⟨rfl, rfl⟩; rw [h1]) | (refine C.out.mono ?_; rintro _ w1 ⟨rfl, hb1⟩))
      go_region
      go_wp2_with fail
      go_ret2
      refine ⟨⟨_, true, by rw [HW.out]; rfl, HB.out, fun _ => HN.out, (fun h => by cases h)⟩, ?_⟩
      rcases hb1 with rfl | ⟨t, rfl⟩
      · exact (Below.refl _ _).drew
      · exact (bw _ _ _).drew
    · have hn : numR k s.data.toList = none := by unfold numR; rw [h1, h]; rfl
      have C := Lib.hid (Any.strconv_ParseInt_10_at64_syntax_var Tryz.laysC174 s (by omega) h tp' p' w hy)
      have HN := Lib.hid hn
      clear hn h hr hy hs
      go_enter Tryz.func141, Tryz.ntmps141
      go_wp2_with (first | (refine (signed_p _ _).mono ?_; rintro _ w1 ⟨rfl, rfl⟩; rw [h1]) | (refine C.out.mono ?_; rintro _ w1 ⟨N, rfl, hN, hc, hb1⟩))
      go_region
      go_wp2_with fail
      go_ret2
      exact ⟨⟨0, false, rfl, by omega, (fun h => by cases h), fun _ => HN.out⟩, hb1.drew⟩
    · have hn : numR k s.data.toList = none := by unfold numR; rw [h1, h]; rfl
      obtain ⟨u, hu, hub⟩ : ∃ u : Nat, IntKind.u64.wrap (Lib.intSat 64 s.data.toList) = (u : Int) ∧ u ≤ 18446744073709551615 :=
        ⟨(IntKind.u64.wrap (Lib.intSat 64 s.data.toList)).toNat, by rw [IntKind.wrap_u64]; omega, by rw [IntKind.wrap_u64]; omega⟩
      have C := Lib.hid (Tryz.strconv_ParseInt_10_at64_range_var s (by omega) h tp p w hr)
      have HN := Lib.hid hn
      have HW := Lib.hid hu
      have HB := Lib.hid hub
      clear hu hub
      clear hn h hr hy hs
      go_enter Tryz.func141, Tryz.ntmps141
      go_wp2_with (first | (refine (signed_p _ _).mono ?_; rintro _ w1 ⟨rfl, rfl⟩; rw [h1]) | (refine C.out.mono ?_; rintro _ w1 ⟨N, rfl, hN, hc, hb1⟩))
      go_region
      go_wp2_with fail
      go_ret2
      exact ⟨⟨u, false, by rw [HW.out]; rfl, HB.out, (fun h => by cases h), fun _ => HN.out⟩, hb1.drew⟩
  | false =>
    rcases h : Lib.parseUintB 64 s.data.toList with u | _ | _
    · have hn : numR k s.data.toList = some u := by unfold numR; rw [h1, h]; rfl
      have hb : u ≤ 18446744073709551615 := Lib.parseUintB_le (B := 64) h
      have C := Lib.hid (Tryz.strconv_ParseUint_10_at64_ok s (by omega) u h w)
      have HN := Lib.hid hn
      have HB := Lib.hid hb
      clear hn hb h hr hy hs
      go_enter Tryz.func141, Tryz.ntmps141
      go_wp2_with (first | (refine (signed_p _ _).mono ?_; rintro _ w1 ⟨rfl, rfl⟩; rw [h1]) | (refine C.out.mono ?_; rintro _ w1 ⟨rfl, hb1⟩))
      go_region
      go_wp2_with fail
      go_ret2
      refine ⟨⟨u, true, rfl, HB.out, fun _ => HN.out, (fun h => by cases h)⟩, ?_⟩
      rcases hb1 with rfl | rfl
      · exact (Below.refl _ _).drew
      · exact (bw _ _ _).drew
    · have hn : numR k s.data.toList = none := by unfold numR; rw [h1, h]; rfl
      have C := Lib.hid (Any.strconv_ParseUint_10_at64_syntax_var Tryz.laysPu14 s (by omega) h tp' p' w hy)
      have HN := Lib.hid hn
      clear hn h hr hy hs
      go_enter Tryz.func141, Tryz.ntmps141
      go_wp2_with (first | (refine (signed_p _ _).mono ?_; rintro _ w1 ⟨rfl, rfl⟩; rw [h1]) | (refine C.out.mono ?_; rintro _ w1 ⟨N, rfl, hN, hc, hb1⟩))
      go_region
      go_wp2_with fail
      go_ret2
      exact ⟨⟨0, false, rfl, by omega, (fun h => by cases h), fun _ => HN.out⟩, hb1.drew⟩
    · have hn : numR k s.data.toList = none := by unfold numR; rw [h1, h]; rfl
      have C := Lib.hid (Tryz.strconv_ParseUint_10_at64_range_var s (by omega) h tp p w hr)
      have HN := Lib.hid hn
      clear hn h hr hy hs
      go_enter Tryz.func141, Tryz.ntmps141
      go_wp2_with (first | (refine (signed_p _ _).mono ?_; rintro _ w1 ⟨rfl, rfl⟩; rw [h1]) | (refine C.out.mono ?_; rintro _ w1 ⟨N, rfl, hN, hc, hb1⟩))
      go_region
      go_wp2_with fail
      go_ret2
      exact ⟨⟨18446744073709551615, false, rfl, by omega, (fun h => by cases h), fun _ => HN.out⟩, hb1.drew⟩
end Go.Proofs.YthjpchnogllliaaGreatDoor.ScpC
