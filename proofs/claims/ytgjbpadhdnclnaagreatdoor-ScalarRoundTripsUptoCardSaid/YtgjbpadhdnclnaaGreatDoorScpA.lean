/- Contracts of the small functions of the program's package scalar. -/
import Derived.Test.YtgjbpadhdnclnaaGreatDoorScpM
set_option linter.unusedSimpArgs false
set_option linter.unusedVariables false
namespace Go.Proofs.YtgjbpadhdnclnaaGreatDoor.ScpA
open Go.RowKit Nums Byt UtfM UtfS ScaM ScaV ScaA ScaB ScaC ScpM

set_option maxRecDepth 100000 in
theorem class_p (b : Nat) (hb : b ≤ 18446744073709551615) (w : World) : Calls Tryz.prog 40 #[.int .u64 b] w fun e w' => e = .returned (.int .i64 (clsN b)) ∧ w = w' := by
  have H1 := Lib.hid (frac_and hb)
  have H2 := Lib.hid (expo_and hb)
  have H3 := Lib.hid (clsN_parts b)
  clear hb
  go_enter Tryz.func40, Tryz.ntmps40
  go_wp2_with fail
  all_goals go_ret
  all_goals refine ⟨?_, rfl⟩
  all_goals rw [H3.out]
  all_goals clear H3
  all_goals simp only [H1.out, H2.out, bne_iff_ne, ne_eq, beq_iff_eq, beq_eq_false_iff_ne, bne_eq_false_iff_eq] at *
  all_goals refine congrArg (fun z => Ending.returned (Value.int .i64 z)) ?_
  all_goals repeat' split
  all_goals first
    | rfl
    | (exfalso; omega)
set_option maxRecDepth 100000 in
theorem hasParts_p (v : SV) (hl : v.l1 + v.l2 + v.l3 + v.l4 ≤ 9223372036854775807) (w : World) : Calls Tryz.prog 45 #[vv v] w fun e w' => e = .returned (.bool (!loneB (sc v))) ∧ Below w.heap.size w w' := by
  obtain ⟨k, b, t, a1, l1, c1, a2, l2, c2, a3, l3, c3, a4, l4, c4⟩ := v
  simp only [vv]
  have H := Lib.hid (sum4 hl)
  clear hl
  go_enter Tryz.func45, Tryz.ntmps45
  go_wp2_with fail
  go_ret
  exact ⟨ret_bool (by rw [H.out]; rfl), below_box _ _⟩
set_option maxRecDepth 100000 in
theorem inRange_p (k : Int) (b : Nat) (hb : b ≤ 18446744073709551615) (w : World) : Calls Tryz.prog 47 #[.int .i64 k, .int .u64 b] w fun e w' => e = .returned (.bool (rgB k b)) ∧ w = w' := by
  go_enter Tryz.func47, Tryz.ntmps47
  go_wp2_with fail
  all_goals go_ret
  all_goals refine ⟨ret_bool ?_, rfl⟩
  all_goals simp only [beq_iff_eq, beq_eq_false_iff_ne, ne_eq] at *
  all_goals unfold rgB sI
  all_goals rw [Bool.eq_iff_iff]
  all_goals (try subst k)
  all_goals (try rw [IntKind.wrap_u64])
  all_goals repeat' split
  all_goals first
    | (simp only [Bool.and_eq_true, decide_eq_true_eq]; omega)
    | (simp only [decide_eq_true_eq]; omega)
    | rfl
    | (exfalso; omega)
    | trace_state
set_option maxRecDepth 100000 in
theorem is_p (k : Int) (w : World) : Calls Tryz.prog 44 #[.int .i64 k] w fun e w' => e = .returned (.bool (isB k)) ∧ w = w' := by
  by_cases h1 : 1 ≤ k
  · by_cases h2 : k ≤ 9
    · have d1 : decide (1 ≤ k) = true := by simp [h1]
      have d2 : decide (k ≤ 9) = true := by simp [h2]
      go_enter Tryz.func44, Tryz.ntmps44
      go_wp2_with fail
      go_ret
      exact ⟨ret_bool (by simp [isB, h1, h2]), rfl⟩
    · have d1 : decide (1 ≤ k) = true := by simp [h1]
      have d2 : decide (k ≤ 9) = false := by simp; omega
      go_enter Tryz.func44, Tryz.ntmps44
      go_wp2_with fail
      go_ret
      exact ⟨ret_bool (by simp [isB, h2]), rfl⟩
  · have d1 : decide (1 ≤ k) = false := by simp; omega
    go_enter Tryz.func44, Tryz.ntmps44
    go_wp2_with fail
    go_ret
    exact ⟨ret_bool (by simp [isB]; omega), rfl⟩

set_option maxRecDepth 100000 in
theorem signed_p (k : Int) (w : World) : Calls Tryz.prog 21 #[.int .i64 k] w fun e w' => e = .returned (.bool (sgB k)) ∧ w = w' := by
  cases h1 : (k == 2) with
  | true =>
    go_enter Tryz.func21, Tryz.ntmps21
    go_wp2_with fail
    go_ret
    exact ⟨ret_bool (by simp [sgB, h1]), rfl⟩
  | false =>
    go_enter Tryz.func21, Tryz.ntmps21
    go_wp2_with fail
    go_ret
    exact ⟨ret_bool (by simp [sgB, h1]), rfl⟩

set_option maxHeartbeats 1000000 in
set_option maxRecDepth 100000 in
theorem zero_p (k : Int) (w : World) : Calls Tryz.prog 29 #[.int .i64 k] w fun e w' => e = .returned (vv (zeroS k)) ∧ Below w.heap.size w w' := by
  cases hk : isB k with
  | true =>
    have hz : zeroS k = zv k := by unfold zeroS; rw [hk]; rfl
    have H1 := Lib.hid hk
    have Hz := Lib.hid hz
    clear hk hz
    go_enter Tryz.func29, Tryz.ntmps29
    go_wp2_with fail
    refine (is_p _ _).mono ?_
    rintro _ w1 ⟨rfl, rfl⟩
    rw [H1.out]
    go_wp2_with fail
    exact bodyPost_ret (v := .agg #[.int .i64 k, .int .u64 0, .string ⟨#[]⟩, .slice none 0 0, .slice none 0 0, .slice none 0 0, .slice none 0 0]) (by simp [results, Tryz.results29, go_sem]) rfl ⟨ret_v (by rw [Hz.out]; rfl), below_box _ _⟩
  | false =>
    have hz : zeroS k = zv 0 := by unfold zeroS; rw [hk]; rfl
    have H1 := Lib.hid hk
    have Hz := Lib.hid hz
    clear hk hz
    go_enter Tryz.func29, Tryz.ntmps29
    go_wp2_with fail
    refine (is_p _ _).mono ?_
    rintro _ w1 ⟨rfl, rfl⟩
    rw [H1.out]
    go_wp2_with fail
    exact bodyPost_ret (v := .agg #[.int .i64 0, .int .u64 0, .string ⟨#[]⟩, .slice none 0 0, .slice none 0 0, .slice none 0 0, .slice none 0 0]) (by simp [results, Tryz.results29, go_sem]) rfl ⟨ret_v (by rw [Hz.out]; rfl), below_box _ _⟩


set_option maxHeartbeats 2000000 in
set_option maxRecDepth 100000 in
theorem fits_p (kd : Int) (v : SV) (hb : v.b ≤ 18446744073709551615) (ht : v.t.size ≤ 140737488355328) (hl : v.l1 + v.l2 + v.l3 + v.l4 ≤ 9223372036854775807) (w : World) : Calls Tryz.prog 15 #[.int .i64 kd, vv v] w fun e w' => e = .returned (.bool (fitsB kd (sc v))) ∧ Below w.heap.size w w' := by
  have H := Lib.hid fun w => hasParts_p v hl w
  have HR := Lib.hid fun w => inRange_p kd v.b hb w
  have HT := Lib.hid ht
  clear ht hl hb
  obtain ⟨k, b, t, a1, l1, c1, a2, l2, c2, a3, l3, c3, a4, l4, c4⟩ := v
  simp only [vv] at *
  cases h1 : isB kd with
  | false =>
    go_enter Tryz.func15, Tryz.ntmps15
    go_wp2_with (first | (refine (is_p _ _).mono ?_; rintro _ w1 ⟨rfl, rfl⟩; rw [h1]))
    go_ret
    exact ⟨ret_bool (by simp [fitsB, h1]), below_box _ _⟩
  | true =>
    cases e1 : (k != kd) with
    | true =>
      go_enter Tryz.func15, Tryz.ntmps15
      go_wp2_with (first | (refine (is_p _ _).mono ?_; rintro _ w1 ⟨rfl, rfl⟩; rw [h1]))
      go_ret
      have e : (k == kd) = false := by simpa using e1
      exact ⟨ret_bool (by simp [fitsB, sc, e]), below_box _ _⟩
    | false =>
      have e : (k == kd) = true := by simpa using e1
      cases h3 : loneB (sc ⟨k, b, t, a1, l1, c1, a2, l2, c2, a3, l3, c3, a4, l4, c4⟩) with
      | false =>
        go_enter Tryz.func15, Tryz.ntmps15
        go_wp2_with (first | (refine (is_p _ _).mono ?_; rintro _ w1 ⟨rfl, rfl⟩; rw [h1]) | (refine (H.out _).mono ?_; rintro _ w2 ⟨rfl, hb2⟩; rw [h3]))
        go_ret
        exact ⟨ret_bool (by simp [fitsB, h3]), bt (below_box _ _) hb2⟩
      | true =>
        cases e7 : (kd == 7) with
        | true =>
          have e8 : (kd == 8) = false := by rw [eq_of_beq e7]; rfl
          cases e2 : ((b : Int) == 0) <;> cases e4 : decide ((t.size : Int) ≤ 4096)
          all_goals
            go_enter Tryz.func15, Tryz.ntmps15
            go_wp2_with (first | (refine (is_p _ _).mono ?_; rintro _ w1 ⟨rfl, rfl⟩; rw [h1]) | (refine (H.out _).mono ?_; rintro _ w2 ⟨rfl, hb2⟩; rw [h3]; obtain ⟨lc, lf⟩ := bcell hb2) | (refine (UtfA.valid_any t (Nat.le_trans HT.out (by decide)) _).mono ?_; rintro _ w3 ⟨rfl, hb3⟩) | (refine (HR.out _).mono ?_; rintro _ w3 ⟨rfl, rfl⟩))
            go_ret
            have ek := eq_of_beq e
            subst ek
            refine ⟨ret_bool ?_, ?_⟩
            · rw [fits_base ⟨k, b, t, a1, l1, c1, a2, l2, c2, a3, l3, c3, a4, l4, c4⟩ h1 h3]
              simp [txB, e7, e8, e2, e4]
            · first | exact bt (bt (below_box _ _) hb2) hb3 | exact bt (below_box _ _) hb2
        | false =>
          cases e8 : (kd == 8) with
          | true =>
            cases e2 : ((b : Int) == 0) <;> cases e4 : decide ((t.size : Int) ≤ 4096)
            all_goals
              go_enter Tryz.func15, Tryz.ntmps15
              go_wp2_with (first | (refine (is_p _ _).mono ?_; rintro _ w1 ⟨rfl, rfl⟩; rw [h1]) | (refine (H.out _).mono ?_; rintro _ w2 ⟨rfl, hb2⟩; rw [h3]; obtain ⟨lc, lf⟩ := bcell hb2) | (refine (UtfA.valid_any t (Nat.le_trans HT.out (by decide)) _).mono ?_; rintro _ w3 ⟨rfl, hb3⟩) | (refine (HR.out _).mono ?_; rintro _ w3 ⟨rfl, rfl⟩))
              go_ret
              have ek := eq_of_beq e
              subst ek
              refine ⟨ret_bool ?_, ?_⟩
              · rw [fits_base ⟨k, b, t, a1, l1, c1, a2, l2, c2, a3, l3, c3, a4, l4, c4⟩ h1 h3]
                simp [txB, e7, e8, e2, e4]
              · first | exact bt (bt (below_box _ _) hb2) hb3 | exact bt (below_box _ _) hb2
          | false =>
            cases e3 : t.toList.isEmpty
            all_goals
              go_enter Tryz.func15, Tryz.ntmps15
              go_wp2_with (first | (refine (is_p _ _).mono ?_; rintro _ w1 ⟨rfl, rfl⟩; rw [h1]) | (refine (H.out _).mono ?_; rintro _ w2 ⟨rfl, hb2⟩; rw [h3]; obtain ⟨lc, lf⟩ := bcell hb2) | (refine (UtfA.valid_any t (Nat.le_trans HT.out (by decide)) _).mono ?_; rintro _ w3 ⟨rfl, hb3⟩) | (refine (HR.out _).mono ?_; rintro _ w3 ⟨rfl, rfl⟩))
              go_ret
              have ek := eq_of_beq e
              subst ek
              refine ⟨ret_bool ?_, bt (below_box _ _) hb2⟩
              rw [fits_base ⟨k, b, t, a1, l1, c1, a2, l2, c2, a3, l3, c3, a4, l4, c4⟩ h1 h3]
              simp [txB, e7, e8, e3]
end Go.Proofs.YtgjbpadhdnclnaaGreatDoor.ScpA
