/- The program's Cmp: the order of scalar values. -/
import Derived.Test.YtgjbpadhdnclnaaGreatDoorScpA
import Derived.Test.YtgjbpadhdnclnaaGreatDoorScaG
import Derived.Test.YtgjbpadhdnclnaaGreatDoorScaS
import Derived.Test.YtgjbpadhdnclnaaGreatDoorBox
import Derived.Deep.RegionHeld3
set_option linter.unusedSimpArgs false
set_option linter.unusedVariables false
namespace Go.Proofs.YtgjbpadhdnclnaaGreatDoor.CmpP
open Go.RowKit Nums Byt UtfM UtfS ScaM ScaV ScaA ScaB ScaC ScpM ScpA ScaG ScaS Box

def cmpR (x y : Int) : Int := if x < y then -1 else if y < x then 1 else 0
theorem cmpI (x y : Int) (w : World) : Calls Tryz.prog 48 #[.int .i64 x, .int .i64 y] w fun e w' => e = .returned (.int .i64 (cmpR x y)) ∧ w = w' :=
  (Tryz.cmp_Compare_int x y w).mono fun _ _ ⟨h1, h2⟩ => ⟨h1, h2.symm⟩
set_option maxRecDepth 100000 in
theorem nan64 (x : Int) (w : World) : Calls Tryz.prog 79 #[.int .i64 x] w fun e w' => e = .returned (.bool false) ∧ w = w' := by
  go_enter Tryz.func79, Tryz.ntmps79
  go_wp2_with fail
  go_ret
  exact ⟨ret_bool (by simp), rfl⟩
set_option maxRecDepth 100000 in
theorem nanU (x : Int) (w : World) : Calls Tryz.prog 81 #[.int .u64 x] w fun e w' => e = .returned (.bool false) ∧ w = w' := by
  go_enter Tryz.func81, Tryz.ntmps81
  go_wp2_with fail
  go_ret
  exact ⟨ret_bool (by simp), rfl⟩
set_option maxRecDepth 100000 in
theorem cmp64 (x y : Int) (w : World) : Calls Tryz.prog 49 #[.int .i64 x, .int .i64 y] w fun e w' => e = .returned (.int .i64 (cmpR x y)) ∧ w = w' := by
  go_enter Tryz.func49, Tryz.ntmps49
  go_wp2_with (go_at_call 79; refine (nan64 _ _).mono ?_; rintro _ _ ⟨rfl, rfl⟩)
  all_goals go_ret
  all_goals refine ⟨?_, rfl⟩
  all_goals refine congrArg (fun z => Ending.returned (Value.int .i64 z)) ?_
  all_goals unfold cmpR
  all_goals repeat' split
  all_goals first
    | rfl
    | (exfalso; omega)
set_option maxRecDepth 100000 in
theorem cmpU (x y : Int) (w : World) : Calls Tryz.prog 51 #[.int .u64 x, .int .u64 y] w fun e w' => e = .returned (.int .i64 (cmpR x y)) ∧ w = w' := by
  go_enter Tryz.func51, Tryz.ntmps51
  go_wp2_with (go_at_call 81; refine (nanU _ _).mono ?_; rintro _ _ ⟨rfl, rfl⟩)
  all_goals go_ret
  all_goals refine ⟨?_, rfl⟩
  all_goals refine congrArg (fun z => Ending.returned (Value.int .i64 z)) ?_
  all_goals unfold cmpR
  all_goals repeat' split
  all_goals first
    | rfl
    | (exfalso; omega)

def rankD (b : Nat) : Nat := if clsN b = 0 then 18446744073709551615 else if sgnN ≤ b then 18446744073709551615 - b else b + sgnN
theorem or_sgn {b : Nat} (hb : b < 9223372036854775808) : bits BinOp.or .u64 (b : Int) 9223372036854775808 = ((b + 9223372036854775808 : Nat) : Int) := by
  have h := or_u64 (a := b) (c := 9223372036854775808) (by omega) (by omega)
  rw [show (9223372036854775808 : Int) = ((9223372036854775808 : Nat) : Int) from rfl, h]
  have h2 := Nat.two_pow_add_eq_or_of_lt (i := 63) (b := b) (by omega) 1
  rw [Nat.mul_one, show (2 : Nat) ^ 63 = 9223372036854775808 from by decide] at h2
  rw [Nat.or_comm, ← h2, Nat.add_comm]
theorem not_u64 {b : Nat} (hb : b ≤ 18446744073709551615) : bits BinOp.xor .u64 IntKind.u64.max (b : Int) = ((18446744073709551615 - b : Nat) : Int) := by
  have e : bits BinOp.xor .u64 IntKind.u64.max (b : Int) = IntKind.u64.wrap ((BitVec.ofInt 64 IntKind.u64.max ^^^ BitVec.ofInt 64 (b : Int)).toNat : Int) := rfl
  have h1 : BitVec.ofInt 64 IntKind.u64.max = BitVec.allOnes 64 := by decide
  rw [e, h1, BitVec.allOnes_xor, BitVec.toNat_not, BitVec.toNat_ofInt]
  have e2 : ((b : Int) % ((2 ^ 64 : Nat) : Int)).toNat = b := by omega
  rw [e2]
  exact wrapN (by omega)
set_option maxHeartbeats 1000000 in
set_option maxRecDepth 100000 in
theorem rank_p (b : Nat) (hb : b ≤ 18446744073709551615) (w : World) : Calls Tryz.prog 52 #[.int .u64 b] w fun e w' => e = .returned (.int .u64 (rankD b)) ∧ w = w' := by
  have K := Lib.hid fun w => class_p b hb w
  have HB := Lib.hid hb
  clear hb
  cases e0 : (clsN b == 0) with
  | true =>
    have h0 : clsN b = 0 := eq_of_beq e0
    have hr : rankD b = 18446744073709551615 := by unfold rankD; rw [if_pos h0]
    rw [hr]
    clear hr h0
    go_enter Tryz.func52, Tryz.ntmps52
    go_wp2_with (go_at_call 40; refine (K.out _).mono ?_; rintro _ _ ⟨rfl, rfl⟩)
    go_ret
    exact ⟨rfl, rfl⟩
  | false =>
    have h0 : clsN b ≠ 0 := by intro h; rw [h] at e0; cases e0
    by_cases hs : sgnN ≤ b
    · have hr : rankD b = 18446744073709551615 - b := by unfold rankD; rw [if_neg h0, if_pos hs]
      have d : decide ((9223372036854775808 : Int) ≤ b) = true := by unfold sgnN at hs; simp; omega
      have HR := Lib.hid hr
      clear hr h0 hs
      go_enter Tryz.func52, Tryz.ntmps52
      go_wp2_with (go_at_call 40; refine (K.out _).mono ?_; rintro _ _ ⟨rfl, rfl⟩)
      go_ret
      exact ⟨by rw [HR.out, ← not_u64 HB.out]; rfl, rfl⟩
    · have hr : rankD b = b + 9223372036854775808 := by unfold rankD; rw [if_neg h0, if_neg hs]; rfl
      have d : decide ((9223372036854775808 : Int) ≤ b) = false := by unfold sgnN at hs; simp; omega
      have HO := Lib.hid (or_sgn (b := b) (by unfold sgnN at hs; omega))
      have HR := Lib.hid hr
      clear hr h0 hs
      go_enter Tryz.func52, Tryz.ntmps52
      go_wp2_with (go_at_call 40; refine (K.out _).mono ?_; rintro _ _ ⟨rfl, rfl⟩)
      go_ret
      exact ⟨by rw [HR.out, ← HO.out]; rfl, rfl⟩

/-- Comparing, kind by kind. -/
def cmpQ (k k' : Int) (b b' : Nat) (t t' : List UInt8) : Int :=
  if k < k' then -1 else if k' < k then 1
  else if k = 2 ∨ k = 3 then cmpR (sI b) (sI b')
  else if k = 7 ∨ k = 8 then Lib.compareBytes t t'
  else if k = 6 then cmpR (rankD b) (rankD b')
  else if k = 1 ∨ k = 4 ∨ k = 5 ∨ k = 9 then cmpR b b'
  else 0
def cmpP (a b : Sc) : Int := cmpQ a.k b.k a.b b.b a.t b.t
theorem u8_lt_or (a b : UInt8) : (a < b) ∨ (b < a) ∨ a = b := by
  rcases Nat.lt_trichotomy a.toNat b.toNat with h | h | h
  · exact .inl (UInt8.lt_iff_toNat_lt.2 h)
  · exact .inr (.inr (UInt8.toNat_inj.1 h))
  · exact .inr (.inl (UInt8.lt_iff_toNat_lt.2 h))
theorem bytes_cmp : ∀ (a b : List UInt8), Lib.compareBytes a b = if Op.bytesLess a b then -1 else if a == b then 0 else 1
  | [], [] => rfl
  | [], _ :: _ => rfl
  | _ :: _, [] => rfl
  | a :: xs, b :: ys => by
    unfold Lib.compareBytes Op.bytesLess
    rcases u8_lt_or a b with h | h | h
    · simp [h]
    · have h1 : ¬ a < b := by rw [UInt8.lt_iff_toNat_lt] at *; omega
      have h2 : a ≠ b := by intro e; rw [e, UInt8.lt_iff_toNat_lt] at h; omega
      simp [h, h1, h2]
    · subst h
      have h1 : ¬ a < a := by rw [UInt8.lt_iff_toNat_lt]; omega
      rw [if_neg h1, if_neg h1, bytes_cmp xs ys]
      simp [h1]
theorem rank_sg (v : Sc) (h : v.k = 2 ∨ v.k = 3) : rankN v = (v.b + 9223372036854775808) % 18446744073709551616 := by
  have : sgB v.k = true := by rcases h with h | h <;> rw [h] <;> rfl
  unfold rankN
  rw [if_pos this]
  rfl
theorem rank_6 (v : Sc) (h : v.k = 6) (hb : v.b ≤ 18446744073709551615) : rankN v = rankD v.b := by
  have h1 : ¬ sgB v.k = true := by rw [h]; decide
  unfold rankN rankD
  rw [if_neg h1, if_neg (by rw [h]; decide)]
  split
  · rfl
  · split
    · rfl
    · rename_i h2
      have : v.b < 9223372036854775808 := by unfold sgnN at h2; omega
      unfold sgnN
      omega
theorem rank_o (v : Sc) (h : v.k = 1 ∨ v.k = 4 ∨ v.k = 5 ∨ v.k = 9) : rankN v = v.b := by
  have h1 : ¬ sgB v.k = true := by rcases h with h | h | h | h <;> rw [h] <;> decide
  have h2 : v.k ≠ 6 := by omega
  unfold rankN
  rw [if_neg h1, if_pos h2]
theorem cmp_nat (x y : Nat) : cmpR (x : Int) (y : Int) = if x < y then -1 else if y < x then 1 else 0 := by
  unfold cmpR
  repeat' split
  all_goals first
    | rfl
    | (exfalso; omega)
theorem cmp_sI {x y : Nat} (hx : x ≤ 18446744073709551615) (hy : y ≤ 18446744073709551615) : cmpR (sI x) (sI y) = if (x + 9223372036854775808) % 18446744073709551616 < (y + 9223372036854775808) % 18446744073709551616 then -1 else if (y + 9223372036854775808) % 18446744073709551616 < (x + 9223372036854775808) % 18446744073709551616 then 1 else 0 := by
  have e1 : sI x = (((x + 9223372036854775808) % 18446744073709551616 : Nat) : Int) - 9223372036854775808 := by unfold sI; split <;> omega
  have e2 : sI y = (((y + 9223372036854775808) % 18446744073709551616 : Nat) : Int) - 9223372036854775808 := by unfold sI; split <;> omega
  rw [e1, e2]
  generalize (x + 9223372036854775808) % 18446744073709551616 = p
  generalize (y + 9223372036854775808) % 18446744073709551616 = q
  unfold cmpR
  repeat' split
  all_goals first
    | rfl
    | (exfalso; omega)
theorem cmpP_eq (a b : Sc) (ha : a.b ≤ 18446744073709551615) (hb : b.b ≤ 18446744073709551615) : cmpP a b = cmpV a b := by
  unfold cmpP cmpQ cmpV
  by_cases h1 : a.k < b.k
  · rw [if_pos h1, if_pos h1]
  · rw [if_neg h1, if_neg h1]
    by_cases h2 : b.k < a.k
    · rw [if_pos h2, if_pos h2]
    · rw [if_neg h2, if_neg h2]
      have hk : b.k = a.k := by omega
      by_cases hr : 1 ≤ a.k ∧ a.k ≤ 9
      · have hB : ¬ ((!isB a.k) = true) := by simp [isB, hr]
        rw [if_neg hB]
        by_cases c1 : a.k = 2 ∨ a.k = 3
        · have hx : ¬ txB a.k = true := by rcases c1 with h | h <;> rw [h] <;> decide
          rw [if_pos c1, if_neg hx, rank_sg a c1, rank_sg b (by omega), cmp_sI ha hb]
        · rw [if_neg c1]
          by_cases c2 : a.k = 7 ∨ a.k = 8
          · have hx : txB a.k = true := by rcases c2 with h | h <;> rw [h] <;> decide
            rw [if_pos c2, if_pos hx, bytes_cmp]
          · have hx : ¬ txB a.k = true := by simp only [txB, Bool.or_eq_true, beq_iff_eq]; exact c2
            rw [if_neg c2, if_neg hx]
            by_cases c3 : a.k = 6
            · rw [if_pos c3, rank_6 a c3 ha, rank_6 b (by omega) hb, cmp_nat]
            · have c4 : a.k = 1 ∨ a.k = 4 ∨ a.k = 5 ∨ a.k = 9 := by omega
              rw [if_neg c3, if_pos c4, rank_o a c4, rank_o b (by omega), cmp_nat]
      · have hB : (!isB a.k) = true := by
          cases h : isB a.k with
          | false => rfl
          | true => exact absurd (by simpa [isB] using h) hr
        rw [if_pos hB, if_neg (by omega), if_neg (by omega), if_neg (by omega), if_neg (by omega)]

/-- The walk's arms. -/
theorem compareS (a b : ByteArray) (w : World) : Calls Tryz.prog 50 #[.string a, .string b] w fun e w' => e = .returned (.int .i64 (Lib.compareBytes a.data.toList b.data.toList)) ∧ w = w' :=
  (Tryz.strings_Compare a b w).mono fun _ _ ⟨h1, h2⟩ => ⟨h1, h2.symm⟩
theorem cmpR_lt {x y : Int} (h : x < y) : cmpR x y = -1 := by unfold cmpR; rw [if_pos h]
theorem cmpR_gt {x y : Int} (h : y < x) : cmpR x y = 1 := by unfold cmpR; rw [if_neg (by omega), if_pos h]
theorem cmpR_eq (x : Int) : cmpR x x = 0 := by unfold cmpR; rw [if_neg (by omega), if_neg (by omega)]

set_option maxHeartbeats 4000000 in
set_option maxRecDepth 100000 in
theorem cmp_p (x y : SV) (hbx : x.b ≤ 18446744073709551615) (hby : y.b ≤ 18446744073709551615) (w : World) : Calls Tryz.prog 16 #[vv x, vv y] w fun e w' => e = .returned (.int .i64 (cmpP (sc x) (sc y))) ∧ Below w.heap.size w w' := by
  have HX := Lib.hid (wrap_sI hbx)
  have HY := Lib.hid (wrap_sI hby)
  have RX := Lib.hid fun w => rank_p x.b hbx w
  have RY := Lib.hid fun w => rank_p y.b hby w
  clear hbx hby
  obtain ⟨k, b, t, a1, l1, c1, a2, l2, c2, a3, l3, c3, a4, l4, c4⟩ := x
  obtain ⟨k', b', t', a1', l1', c1', a2', l2', c2', a3', l3', c3', a4', l4', c4'⟩ := y
  simp only [vv] at *
  obtain ⟨R, hR⟩ : ∃ R, R = cmpP (sc ⟨k, b, t, a1, l1, c1, a2, l2, c2, a3, l3, c3, a4, l4, c4⟩) (sc ⟨k', b', t', a1', l1', c1', a2', l2', c2', a3', l3', c3', a4', l4', c4'⟩) := ⟨_, rfl⟩
  rw [← hR]
  replace hR : R = cmpQ k k' b b' t.data.toList t'.data.toList := hR
  unfold cmpQ at hR
  rcases Int.lt_trichotomy k k' with h | h | h
  · rw [if_pos h] at hR
    subst hR
    have C := Lib.hid (cmpR_lt h)
    clear h
    go_enter Tryz.func16, Tryz.ntmps16
    go_wp2_with (go_at_call 48; refine (cmpI _ _ _).mono ?_; rintro _ _ ⟨rfl, rfl⟩; rw [C.out])
    go_ret
    exact ⟨rfl, two_box _ _ _⟩
  · subst h
    rw [if_neg (by omega), if_neg (by omega)] at hR
    have C := Lib.hid (cmpR_eq k)
    by_cases c1 : k = 2 ∨ k = 3
    · rw [if_pos c1] at hR
      have H := Lib.hid hR
      clear hR
      rcases c1 with rfl | rfl
      all_goals
        go_enter Tryz.func16, Tryz.ntmps16
        go_wp2_with (first | (go_at_call 48; refine (cmpI _ _ _).mono ?_; rintro _ _ ⟨rfl, rfl⟩; rw [C.out]) | (go_at_call 49; rw [HX.out, HY.out]; refine (cmp64 _ _ _).mono ?_; rintro _ _ ⟨rfl, rfl⟩))
        go_ret
        exact ⟨by rw [H.out]; rfl, two_box _ _ _⟩
    · rw [if_neg c1] at hR
      by_cases c2 : k = 7 ∨ k = 8
      · rw [if_pos c2] at hR
        have H := Lib.hid hR
        clear hR c1
        rcases c2 with rfl | rfl
        all_goals
          go_enter Tryz.func16, Tryz.ntmps16
          go_wp2_with (first | (go_at_call 48; refine (cmpI _ _ _).mono ?_; rintro _ _ ⟨rfl, rfl⟩; rw [C.out]) | (go_at_call 50; refine (compareS _ _ _).mono ?_; rintro _ _ ⟨rfl, rfl⟩))
          go_ret
          exact ⟨by rw [H.out]; rfl, two_box _ _ _⟩
      · rw [if_neg c2] at hR
        by_cases c3 : k = 6
        · rw [if_pos c3] at hR
          have H := Lib.hid hR
          clear hR c1 c2
          subst c3
          go_enter Tryz.func16, Tryz.ntmps16
          go_wp2_with (go_at_call 48; refine (cmpI _ _ _).mono ?_; rintro _ _ ⟨rfl, rfl⟩; rw [C.out])
          have BX := ((b7_new w (.int .i64 6) (.int .u64 b) (.string t) (.slice a1 l1 c1) (.slice a2 l2 c2) (.slice a3 l3 c3) (.slice a4 l4 c4) 28).alloc (.cells #[.int .i64 6, .int .u64 b', .string t', .slice a1' l1' c1', .slice a2' l2' c2', .slice a3' l3' c3', .slice a4' l4' c4'] 28)).drew
          have BY := (b7_new (w.alloc (.cells #[.int .i64 6, .int .u64 b, .string t, .slice a1 l1 c1, .slice a2 l2 c2, .slice a3 l3 c3, .slice a4 l4 c4] 28)) (.int .i64 6) (.int .u64 b') (.string t') (.slice a1' l1' c1') (.slice a2' l2' c2') (.slice a3' l3' c3') (.slice a4' l4' c4') 28).drew
          rw [show (w.alloc (.cells #[.int .i64 6, .int .u64 b, .string t, .slice a1 l1 c1, .slice a2 l2 c2, .slice a3 l3 c3, .slice a4 l4 c4] 28)).heap.size = w.heap.size + 1 from by simp] at BY
          go_region_held3 (fun w' => w'.cell? ⟨w.heap.size, 1, none⟩ = some (.int .u64 b) ∧ w'.cell? ⟨w.heap.size + 1, 1, none⟩ = some (.int .u64 b')) (with_reducible exact ⟨BX.c1, BY.c1⟩)
            (first
              | (go_at_call_of 52 (Value.int .u64 (b : Int)); refine (RX.out _).mono ?_; rintro _ _ ⟨rfl, rfl⟩)
              | (go_at_call_of 52 (Value.int .u64 (b' : Int)); refine (RY.out _).mono ?_; rintro _ _ ⟨rfl, rfl⟩)
              | (go_at_call 51; refine (cmpU _ _ _).mono ?_; rintro _ _ ⟨rfl, rfl⟩))
          all_goals
            go_wp2_with fail
            go_ret
            exact ⟨by rw [H.out]; rfl, (two_box _ _ _).drew⟩
        · rw [if_neg c3] at hR
          by_cases c4 : k = 1 ∨ k = 4 ∨ k = 5 ∨ k = 9
          · rw [if_pos c4] at hR
            have H := Lib.hid hR
            clear hR c1 c2 c3
            rcases c4 with rfl | rfl | rfl | rfl
            all_goals
              go_enter Tryz.func16, Tryz.ntmps16
              go_wp2_with (first | (go_at_call 48; refine (cmpI _ _ _).mono ?_; rintro _ _ ⟨rfl, rfl⟩; rw [C.out]) | (go_at_call 51; refine (cmpU _ _ _).mono ?_; rintro _ _ ⟨rfl, rfl⟩))
              go_ret
              exact ⟨by rw [H.out]; rfl, two_box _ _ _⟩
          · rw [if_neg c4] at hR
            have n1 : (k == 1) = false := by simp; omega
            have n2 : (k == 2) = false := by simp; omega
            have n3 : (k == 3) = false := by simp; omega
            have n4 : (k == 4) = false := by simp; omega
            have n5 : (k == 5) = false := by simp; omega
            have n6 : (k == 6) = false := by simp; omega
            have n7 : (k == 7) = false := by simp; omega
            have n8 : (k == 8) = false := by simp; omega
            have n9 : (k == 9) = false := by simp; omega
            subst hR
            clear c1 c2 c3 c4
            go_enter Tryz.func16, Tryz.ntmps16
            go_wp2_with (first | (go_at_call 48; refine (cmpI _ _ _).mono ?_; rintro _ _ ⟨rfl, rfl⟩; rw [C.out]))
            go_ret
            exact ⟨rfl, two_box _ _ _⟩
  · rw [if_neg (by omega), if_pos h] at hR
    subst hR
    have C := Lib.hid (cmpR_gt h)
    clear h
    go_enter Tryz.func16, Tryz.ntmps16
    go_wp2_with (go_at_call 48; refine (cmpI _ _ _).mono ?_; rintro _ _ ⟨rfl, rfl⟩; rw [C.out])
    go_ret
    exact ⟨rfl, two_box _ _ _⟩
end Go.Proofs.YtgjbpadhdnclnaaGreatDoor.CmpP
