/- Contracts of Is, texts, signed, lone and Class of the reference of package scalar. -/
import Derived.Test.YtgjbpadhdnclnaaGreatDoorScaV
import Derived.BigGuardPart
set_option linter.unusedSimpArgs false
set_option linter.unusedVariables false
namespace Go.Proofs.YtgjbpadhdnclnaaGreatDoor.ScaA
open Go.RowKit Nums Byt UtfM UtfS ScaM ScaV

set_option maxRecDepth 100000 in
theorem is_any (k : Int) (w : World) : Calls Tryz.prog 35 #[.int .i64 k] w fun e w' => e = .returned (.bool (isB k)) ∧ w = w' := by
  by_cases h1 : 1 ≤ k
  · by_cases h2 : k ≤ 9
    · have d1 : decide (1 ≤ k) = true := by simp [h1]
      have d2 : decide (k ≤ 9) = true := by simp [h2]
      go_enter Tryz.func35, Tryz.ntmps35
      go_wp2_with fail
      go_ret
      exact ⟨ret_bool (by simp [isB, h1, h2]), rfl⟩
    · have d1 : decide (1 ≤ k) = true := by simp [h1]
      have d2 : decide (k ≤ 9) = false := by simp; omega
      go_enter Tryz.func35, Tryz.ntmps35
      go_wp2_with fail
      go_ret
      exact ⟨ret_bool (by simp [isB, h2]), rfl⟩
  · have d1 : decide (1 ≤ k) = false := by simp; omega
    go_enter Tryz.func35, Tryz.ntmps35
    go_wp2_with fail
    go_ret
    exact ⟨ret_bool (by simp [isB]; omega), rfl⟩

set_option maxRecDepth 100000 in
theorem texts_any (k : Int) (w : World) : Calls Tryz.prog 42 #[.int .i64 k] w fun e w' => e = .returned (.bool (txB k)) ∧ w = w' := by
  cases h1 : (k == 7) with
  | true =>
    go_enter Tryz.func42, Tryz.ntmps42
    go_wp2_with fail
    go_ret
    exact ⟨ret_bool (by simp [txB, h1]), rfl⟩
  | false =>
    go_enter Tryz.func42, Tryz.ntmps42
    go_wp2_with fail
    go_ret
    exact ⟨ret_bool (by simp [txB, h1]), rfl⟩
set_option maxRecDepth 100000 in
theorem signed_any (k : Int) (w : World) : Calls Tryz.prog 71 #[.int .i64 k] w fun e w' => e = .returned (.bool (sgB k)) ∧ w = w' := by
  cases h1 : (k == 2) with
  | true =>
    go_enter Tryz.func71, Tryz.ntmps71
    go_wp2_with fail
    go_ret
    exact ⟨ret_bool (by simp [sgB, h1]), rfl⟩
  | false =>
    go_enter Tryz.func71, Tryz.ntmps71
    go_wp2_with fail
    go_ret
    exact ⟨ret_bool (by simp [sgB, h1]), rfl⟩

theorem below_box (w : World) (o : Obj) : Below w.heap.size w (w.alloc o) := (Below.refl _ _).alloc (Nat.le_refl _) _
theorem nat0 (n : Nat) : ((n : Int) == 0) = (n == 0) := by
  cases h : (n == 0) with
  | true => simp at h; simp [h]
  | false => simp at h; rw [beq_eq_false_iff_ne]; omega
set_option maxHeartbeats 1000000 in
set_option maxRecDepth 100000 in
theorem lone_any (v : SV) (w : World) : Calls Tryz.prog 41 #[vv v] w fun e w' => e = .returned (.bool (loneB (sc v))) ∧ Below w.heap.size w w' := by
  obtain ⟨k, b, t, a1, l1, c1, a2, l2, c2, a3, l3, c3, a4, l4, c4⟩ := v
  simp only [vv]
  cases h1 : (l1 == 0) with
  | false =>
    have e1 : ((l1 : Int) == 0) = false := by rw [nat0, h1]
    go_enter Tryz.func41, Tryz.ntmps41
    go_wp2_with fail
    go_ret
    exact ⟨ret_bool (by simp [loneB, sc, h1]), below_box _ _⟩
  | true =>
    have e1 : ((l1 : Int) == 0) = true := by rw [nat0, h1]
    cases h2 : (l2 == 0) with
    | false =>
      have e2 : ((l2 : Int) == 0) = false := by rw [nat0, h2]
      go_enter Tryz.func41, Tryz.ntmps41
      go_wp2_with fail
      go_ret
      exact ⟨ret_bool (by simp [loneB, sc, h2]), below_box _ _⟩
    | true =>
      have e2 : ((l2 : Int) == 0) = true := by rw [nat0, h2]
      cases h3 : (l3 == 0) with
      | false =>
        have e3 : ((l3 : Int) == 0) = false := by rw [nat0, h3]
        go_enter Tryz.func41, Tryz.ntmps41
        go_wp2_with fail
        go_ret
        exact ⟨ret_bool (by simp [loneB, sc, h3]), below_box _ _⟩
      | true =>
        have e3 : ((l3 : Int) == 0) = true := by rw [nat0, h3]
        cases h4 : (l4 == 0) with
        | false =>
          have e4 : ((l4 : Int) == 0) = false := by rw [nat0, h4]
          go_enter Tryz.func41, Tryz.ntmps41
          go_wp2_with fail
          go_ret
          exact ⟨ret_bool (by simp [loneB, sc, h4]), below_box _ _⟩
        | true =>
          have e4 : ((l4 : Int) == 0) = true := by rw [nat0, h4]
          go_enter Tryz.func41, Tryz.ntmps41
          go_wp2_with fail
          go_ret
          exact ⟨ret_bool (by simp [loneB, sc, h1, h2, h3, h4]), below_box _ _⟩
end Go.Proofs.YtgjbpadhdnclnaaGreatDoor.ScaA
