/- Contracts of Class, Norm, Zero, IsZero, Int of the reference of package scalar. -/
import Derived.Test.YtndhhlhdkjllhaaGreatDoorScaA
set_option linter.unusedSimpArgs false
set_option linter.unusedVariables false
namespace Go.Proofs.YtndhhlhdkjllhaaGreatDoor.ScaB
open Go.RowKit Nums Byt UtfM UtfS ScaM ScaV ScaA

theorem dec_of {p : Prop} [Decidable p] {b : Bool} (h : b = true ↔ p) : decide p = b := by
  cases b with
  | true => simp [h.1 rfl]
  | false => simp; intro hp; exact absurd (h.2 hp) (by simp)
set_option maxHeartbeats 1000000 in
set_option maxRecDepth 100000 in
theorem class_x (b x : Nat) (hx : (b : Int) % 9223372036854775808 = (x : Int)) (w : World) :
    Calls Tryz.prog 25 #[.int .u64 b] w fun e w' => e = .returned (.int .i64 (if infN < x then 0 else if x = infN then 1 else if x = 0 then 2 else if x < 4503599627370496 then 3 else 4)) ∧ w = w' := by
  by_cases h1 : infN < x
  · have d1 : decide ((9218868437227405312 : Int) < x) = true := by simp only [decide_eq_true_eq]; unfold infN at h1; omega
    rw [if_pos h1]
    have H1 := Lib.hid h1
    clear h1
    go_enter Tryz.func25, Tryz.ntmps25
    go_wp2_with fail
    go_ret
    exact ⟨rfl, rfl⟩
  · rw [if_neg h1]
    have d1 : decide ((9218868437227405312 : Int) < x) = false := by simp only [decide_eq_false_iff_not]; unfold infN at h1; omega
    by_cases h2 : x = infN
    · rw [if_pos h2]
      have d2 : ((x : Int) == 9218868437227405312) = true := by rw [beq_iff_eq]; unfold infN at h2; omega
      have H2 := Lib.hid h2
      clear h1 h2
      go_enter Tryz.func25, Tryz.ntmps25
      go_wp2_with fail
      go_ret
      exact ⟨rfl, rfl⟩
    · rw [if_neg h2]
      have d2 : ((x : Int) == 9218868437227405312) = false := by rw [beq_eq_false_iff_ne]; unfold infN at h2; omega
      by_cases h3 : x = 0
      · rw [if_pos h3]
        have d3 : ((x : Int) == 0) = true := by simp [h3]
        clear h1 h2 h3
        go_enter Tryz.func25, Tryz.ntmps25
        go_wp2_with fail
        go_ret
        exact ⟨rfl, rfl⟩
      · rw [if_neg h3]
        have d3 : ((x : Int) == 0) = false := by rw [beq_eq_false_iff_ne]; omega
        by_cases h4 : x < 4503599627370496
        · rw [if_pos h4]
          have d4 : decide ((x : Int) < 4503599627370496) = true := by simp only [decide_eq_true_eq]; omega
          clear h1 h2 h3 h4
          go_enter Tryz.func25, Tryz.ntmps25
          go_wp2_with fail
          go_ret
          exact ⟨rfl, rfl⟩
        · rw [if_neg h4]
          have d4 : decide ((x : Int) < 4503599627370496) = false := by simp only [decide_eq_false_iff_not]; omega
          clear h1 h2 h3 h4
          go_enter Tryz.func25, Tryz.ntmps25
          go_wp2_with fail
          go_ret
          exact ⟨rfl, rfl⟩
theorem class_any (b : Nat) (w : World) : Calls Tryz.prog 25 #[.int .u64 b] w fun e w' => e = .returned (.int .i64 (clsN b)) ∧ w = w' :=
  class_x b (b % 9223372036854775808) (by omega) w

theorem bt {a b c : World} (h : Below a.heap.size a b) (k : Below b.heap.size b c) : Below a.heap.size a c := h.trans (k.mono h.size)

set_option maxHeartbeats 1000000 in
set_option maxRecDepth 100000 in
theorem isZero_any (v : SV) (w : World) : Calls Tryz.prog 16 #[vv v] w fun e w' => e = .returned (.bool (isZeroB (sc v))) ∧ Below w.heap.size w w' := by
  obtain ⟨k, b, t, a1, l1, c1, a2, l2, c2, a3, l3, c3, a4, l4, c4⟩ := v
  simp only [vv]
  cases h1 : isB k with
  | false =>
    have H1 := Lib.hid h1
    clear h1
    go_enter Tryz.func16, Tryz.ntmps16
    go_wp2_with fail
    refine (is_any _ _).mono ?_
    rintro _ w1 ⟨rfl, rfl⟩
    rw [H1.out]
    go_wp2_with fail
    go_ret
    exact ⟨ret_bool (by simp [isZeroB, sc, H1.out]), below_box _ _⟩
  | true =>
    have H1 := Lib.hid h1
    clear h1
    by_cases h2 : b = 0
    · have e2 : ((b : Int) == 0) = true := by simp [h2]
      have H2 := Lib.hid h2
      clear h2
      by_cases h3 : t.size = 0
      · have e3 := empty_yes h3
        have H3 := Lib.hid h3
        clear h3
        go_enter Tryz.func16, Tryz.ntmps16
        go_wp2_with fail
        refine (is_any _ _).mono ?_
        rintro _ w1 ⟨rfl, rfl⟩
        rw [H1.out]
        go_wp2_with fail
        refine (lone_any ⟨k, b, t, a1, l1, c1, a2, l2, c2, a3, l3, c3, a4, l4, c4⟩ _).mono ?_
        rintro _ w2 ⟨rfl, hb2⟩
        go_wp2_with fail
        go_ret
        refine ⟨ret_bool ?_, bt (below_box _ _) hb2⟩
        have : t.data.toList = [] := List.eq_nil_of_length_eq_zero H3.out
        simp [isZeroB, sc, H1.out, H2.out, this, loneB]
      · have e3 := empty_no h3
        have H3 := Lib.hid h3
        clear h3
        go_enter Tryz.func16, Tryz.ntmps16
        go_wp2_with fail
        refine (is_any _ _).mono ?_
        rintro _ w1 ⟨rfl, rfl⟩
        rw [H1.out]
        go_wp2_with fail
        go_ret
        refine ⟨ret_bool ?_, below_box _ _⟩
        have : t.data.toList.isEmpty = false := by
          cases hl : t.data.toList with
          | nil => exact absurd (show t.size = 0 from by rw [← size_toList, hl]; rfl) H3.out
          | cons _ _ => rfl
        simp only [isZeroB, sc, this, Bool.and_false, Bool.false_and]
    · have e2 : ((b : Int) == 0) = false := by rw [beq_eq_false_iff_ne]; omega
      have H2 := Lib.hid h2
      clear h2
      go_enter Tryz.func16, Tryz.ntmps16
      go_wp2_with fail
      refine (is_any _ _).mono ?_
      rintro _ w1 ⟨rfl, rfl⟩
      rw [H1.out]
      go_wp2_with fail
      go_ret
      exact ⟨ret_bool (by simp [isZeroB, sc, H2.out]), below_box _ _⟩
/-- The zero value of a kind. -/
def zv (k : Int) : SV := ⟨k, 0, ⟨#[]⟩, none, 0, 0, none, 0, 0, none, 0, 0, none, 0, 0⟩
def zeroS (k : Int) : SV := if isB k then zv k else zv 0
theorem sc_zeroS (k : Int) : sc (zeroS k) = zeroV k := by
  unfold zeroS zeroV
  split <;> rfl
theorem wrap_sI {b : Nat} (hb : b ≤ 18446744073709551615) : wrap64 (b : Int) = sI b := by
  unfold sI wrap64
  split <;> omega
theorem ret_v {a b : Value} (h : a = b) : Ending.returned a = .returned b := by rw [h]
set_option maxHeartbeats 1000000 in
set_option maxRecDepth 100000 in
theorem zero_any (k : Int) (w : World) : Calls Tryz.prog 14 #[.int .i64 k] w fun e w' => e = .returned (vv (zeroS k)) ∧ Below w.heap.size w w' := by
  cases hk : isB k with
  | true =>
    have hz : zeroS k = zv k := by unfold zeroS; rw [hk]; rfl
    have H1 := Lib.hid hk
    have Hz := Lib.hid hz
    clear hk hz
    go_enter Tryz.func14, Tryz.ntmps14
    go_wp2_with fail
    refine (is_any _ _).mono ?_
    rintro _ w1 ⟨rfl, rfl⟩
    rw [H1.out]
    go_wp2_with fail
    exact bodyPost_ret (v := .agg #[.int .i64 k, .int .u64 0, .string ⟨#[]⟩, .slice none 0 0, .slice none 0 0, .slice none 0 0, .slice none 0 0]) (by simp [results, Tryz.results14, go_sem]) rfl ⟨ret_v (by rw [Hz.out]; rfl), below_box _ _⟩
  | false =>
    have hz : zeroS k = zv 0 := by unfold zeroS; rw [hk]; rfl
    have H1 := Lib.hid hk
    have Hz := Lib.hid hz
    clear hk hz
    go_enter Tryz.func14, Tryz.ntmps14
    go_wp2_with fail
    refine (is_any _ _).mono ?_
    rintro _ w1 ⟨rfl, rfl⟩
    rw [H1.out]
    go_wp2_with fail
    exact bodyPost_ret (v := .agg #[.int .i64 0, .int .u64 0, .string ⟨#[]⟩, .slice none 0 0, .slice none 0 0, .slice none 0 0, .slice none 0 0]) (by simp [results, Tryz.results14, go_sem]) rfl ⟨ret_v (by rw [Hz.out]; rfl), below_box _ _⟩

/-- The normal form of a value. -/
def normS (v : SV) : SV := if v.k = 6 ∧ clsN v.b = 0 then { v with b := nanN } else v
theorem sc_normS (v : SV) : sc (normS v) = normV (sc v) := by
  unfold normS normV sc
  simp only []
  split <;> rfl
theorem cls0 (b : Nat) : clsN b = 0 ∨ clsN b = 1 ∨ clsN b = 2 ∨ clsN b = 3 ∨ clsN b = 4 := by
  unfold clsN
  repeat' split
  all_goals simp
set_option maxHeartbeats 1000000 in
set_option maxRecDepth 100000 in
theorem norm_any (v : SV) (w : World) : Calls Tryz.prog 23 #[vv v] w fun e w' => e = .returned (vv (normS v)) ∧ Below w.heap.size w w' := by
  obtain ⟨k, b, t, a1, l1, c1, a2, l2, c2, a3, l3, c3, a4, l4, c4⟩ := v
  cases h6 : (k == 6) with
  | false =>
    have hz : normS ⟨k, b, t, a1, l1, c1, a2, l2, c2, a3, l3, c3, a4, l4, c4⟩ = ⟨k, b, t, a1, l1, c1, a2, l2, c2, a3, l3, c3, a4, l4, c4⟩ := by
      unfold normS
      rw [if_neg]
      intro h
      rw [beq_eq_false_iff_ne] at h6
      exact h6 h.1
    rw [hz]
    clear hz
    simp only [vv]
    go_enter Tryz.func23, Tryz.ntmps23
    go_wp2_with fail
    exact bodyPost_ret (v := .agg #[.int .i64 k, .int .u64 b, .string t, .slice a1 l1 c1, .slice a2 l2 c2, .slice a3 l3 c3, .slice a4 l4 c4]) (by simp [results, Tryz.results23, go_sem]) rfl ⟨rfl, ((Below.refl _ _).alloc (Nat.le_refl _) _).alloc (by simp) _⟩
  | true =>
    cases hc : (clsN b == 0) with
    | true =>
      have hz : normS ⟨k, b, t, a1, l1, c1, a2, l2, c2, a3, l3, c3, a4, l4, c4⟩ = ⟨k, nanN, t, a1, l1, c1, a2, l2, c2, a3, l3, c3, a4, l4, c4⟩ := by
        unfold normS
        rw [if_pos]
        rw [beq_iff_eq] at h6 hc
        exact ⟨h6, hc⟩
      rw [hz]
      have hn : (nanN : Int) = 9221120237041090560 := rfl
      have Hn := Lib.hid hn
      clear hz hn
      simp only [vv]
      go_enter Tryz.func23, Tryz.ntmps23
      go_wp2_with fail
      refine (class_any _ _).mono ?_
      rintro _ w1 ⟨rfl, rfl⟩
      go_wp2_with fail
      exact bodyPost_ret (v := .agg #[.int .i64 k, .int .u64 9221120237041090560, .string t, .slice a1 l1 c1, .slice a2 l2 c2, .slice a3 l3 c3, .slice a4 l4 c4]) (by simp [results, Tryz.results23, go_sem]) rfl ⟨ret_v (by rw [Hn.out]), ((Below.refl _ _).alloc (Nat.le_refl _) _).alloc (by simp) _⟩
    | false =>
      have hz : normS ⟨k, b, t, a1, l1, c1, a2, l2, c2, a3, l3, c3, a4, l4, c4⟩ = ⟨k, b, t, a1, l1, c1, a2, l2, c2, a3, l3, c3, a4, l4, c4⟩ := by
        unfold normS
        rw [if_neg]
        intro h
        rw [beq_eq_false_iff_ne] at hc
        exact hc h.2
      rw [hz]
      clear hz
      simp only [vv]
      go_enter Tryz.func23, Tryz.ntmps23
      go_wp2_with fail
      refine (class_any _ _).mono ?_
      rintro _ w1 ⟨rfl, rfl⟩
      go_wp2_with fail
      exact bodyPost_ret (v := .agg #[.int .i64 k, .int .u64 b, .string t, .slice a1 l1 c1, .slice a2 l2 c2, .slice a3 l3 c3, .slice a4 l4 c4]) (by simp [results, Tryz.results23, go_sem]) rfl ⟨rfl, ((Below.refl _ _).alloc (Nat.le_refl _) _).alloc (by simp) _⟩

set_option maxHeartbeats 1000000 in
set_option maxRecDepth 100000 in
theorem int_any (v : SV) (hb : v.b ≤ 18446744073709551615) (w : World) : Calls Tryz.prog 19 #[vv v] w fun e w' => e = .returned (.int .i64 (intV (sc v))) ∧ Below w.heap.size w w' := by
  obtain ⟨k, b, t, a1, l1, c1, a2, l2, c2, a3, l3, c3, a4, l4, c4⟩ := v
  simp only [vv]
  cases h1 : isB k with
  | false =>
    have hf : intV (sc ⟨k, b, t, a1, l1, c1, a2, l2, c2, a3, l3, c3, a4, l4, c4⟩) = 0 := by simp [intV, sc, h1]
    rw [hf]
    have H1 := Lib.hid h1
    clear h1 hf
    go_enter Tryz.func19, Tryz.ntmps19
    go_wp2_with fail
    refine (is_any _ _).mono ?_
    rintro _ w1 ⟨rfl, rfl⟩
    rw [H1.out]
    go_wp2_with fail
    go_ret
    exact ⟨rfl, below_box _ _⟩
  | true =>
    cases h2 : txB k with
    | true =>
      have hf : intV (sc ⟨k, b, t, a1, l1, c1, a2, l2, c2, a3, l3, c3, a4, l4, c4⟩) = 0 := by simp [intV, sc, h2]
      rw [hf]
      have H1 := Lib.hid h1
      have H2 := Lib.hid h2
      clear h1 h2 hf
      go_enter Tryz.func19, Tryz.ntmps19
      go_wp2_with fail
      refine (is_any _ _).mono ?_
      rintro _ w1 ⟨rfl, rfl⟩
      rw [H1.out]
      go_wp2_with fail
      refine (texts_any _ _).mono ?_
      rintro _ w1 ⟨rfl, rfl⟩
      rw [H2.out]
      go_wp2_with fail
      go_ret
      exact ⟨rfl, below_box _ _⟩
    | false =>
      cases h6 : (k == 6) with
      | true =>
        have hf : intV (sc ⟨k, b, t, a1, l1, c1, a2, l2, c2, a3, l3, c3, a4, l4, c4⟩) = 0 := by simp [intV, sc, h6]
        rw [hf]
        have H1 := Lib.hid h1
        have H2 := Lib.hid h2
        clear h1 h2 hf
        go_enter Tryz.func19, Tryz.ntmps19
        go_wp2_with fail
        refine (is_any _ _).mono ?_
        rintro _ w1 ⟨rfl, rfl⟩
        rw [H1.out]
        go_wp2_with fail
        refine (texts_any _ _).mono ?_
        rintro _ w1 ⟨rfl, rfl⟩
        rw [H2.out]
        go_wp2_with fail
        go_ret
        exact ⟨rfl, below_box _ _⟩
      | false =>
        have hf : intV (sc ⟨k, b, t, a1, l1, c1, a2, l2, c2, a3, l3, c3, a4, l4, c4⟩) = sI b := by simp [intV, sc, h1, h2, h6]
        rw [hf]
        have H1 := Lib.hid h1
        have H2 := Lib.hid h2
        have hs : wrap64 (b : Int) = sI b := wrap_sI hb
        have Hs := Lib.hid hs
        clear h1 h2 hf hs hb
        go_enter Tryz.func19, Tryz.ntmps19
        go_wp2_with fail
        refine (is_any _ _).mono ?_
        rintro _ w1 ⟨rfl, rfl⟩
        rw [H1.out]
        go_wp2_with fail
        refine (texts_any _ _).mono ?_
        rintro _ w1 ⟨rfl, rfl⟩
        rw [H2.out]
        go_wp2_with fail
        go_ret
        exact ⟨ret_int Hs.out, below_box _ _⟩
end Go.Proofs.YtndhhlhdkjllhaaGreatDoor.ScaB
