/- Contracts of Class, Norm, Zero, IsZero, Int of the reference of package scalar. -/
import Derived.Test.YtgjbpadhdnclnaaGreatDoorScaA
set_option linter.unusedSimpArgs false
set_option linter.unusedVariables false
namespace Go.Proofs.YtgjbpadhdnclnaaGreatDoor.ScaB
open Go.RowKit Nums Byt UtfM UtfS ScaM ScaV ScaA

theorem dec_of {p : Prop} [Decidable p] {b : Bool} (h : b = true ↔ p) : decide p = b := by
  cases b with
  | true => simp [h.1 rfl]
  | false => simp; intro hp; exact absurd (h.2 hp) (by simp)
set_option maxHeartbeats 1000000 in
set_option maxRecDepth 100000 in
theorem class_x (b x : Nat) (hx : (b : Int) % 9223372036854775808 = (x : Int)) (w : World) :
    Calls Tryz.prog 25 #[.int .u64 b] w fun e w' => e = .returned (.int .i64 (if infN < x then 0 else if x = infN then 1 else if x = 0 then 2 else if x < 4503599627370496 then 3 else 4)) ∧ w = w' := by
  by_cases h1 : infN < x
  · have d1 : decide ((9218868437227405312 : Int) < x) = true := by simp only [decide_eq_true_eq]; unfold infN at h1; omega
    rw [if_pos h1]
    have H1 := Lib.hid h1
    clear h1
    go_enter Tryz.func25, Tryz.ntmps25
    go_wp2_with fail
    go_ret
    exact ⟨rfl, rfl⟩
  · rw [if_neg h1]
    have d1 : decide ((9218868437227405312 : Int) < x) = false := by simp only [decide_eq_false_iff_not]; unfold infN at h1; omega
    by_cases h2 : x = infN
    · rw [if_pos h2]
      have d2 : ((x : Int) == 9218868437227405312) = true := by rw [beq_iff_eq]; unfold infN at h2; omega
      have H2 := Lib.hid h2
      clear h1 h2
      go_enter Tryz.func25, Tryz.ntmps25
      go_wp2_with fail
      go_ret
      exact ⟨rfl, rfl⟩
    · rw [if_neg h2]
      have d2 : ((x : Int) == 9218868437227405312) = false := by rw [beq_eq_false_iff_ne]; unfold infN at h2; omega
      by_cases h3 : x = 0
      · rw [if_pos h3]
        have d3 : ((x : Int) == 0) = true := by simp [h3]
        clear h1 h2 h3
        go_enter Tryz.func25, Tryz.ntmps25
        go_wp2_with fail
        go_ret
        exact ⟨rfl, rfl⟩
      · rw [if_neg h3]
        have d3 : ((x : Int) == 0) = false := by rw [beq_eq_false_iff_ne]; omega
        by_cases h4 : x < 4503599627370496
        · rw [if_pos h4]
          have d4 : decide ((x : Int) < 4503599627370496) = true := by simp only [decide_eq_true_eq]; omega
          clear h1 h2 h3 h4
          go_enter Tryz.func25, Tryz.ntmps25
          go_wp2_with fail
          go_ret
          exact ⟨rfl, rfl⟩
        · rw [if_neg h4]
          have d4 : decide ((x : Int) < 4503599627370496) = false := by simp only [decide_eq_false_iff_not]; omega
          clear h1 h2 h3 h4
          go_enter Tryz.func25, Tryz.ntmps25
          go_wp2_with fail
          go_ret
          exact ⟨rfl, rfl⟩
theorem class_any (b : Nat) (w : World) : Calls Tryz.prog 25 #[.int .u64 b] w fun e w' => e = .returned (.int .i64 (clsN b)) ∧ w = w' :=
  class_x b (b % 9223372036854775808) (by omega) w

theorem bt {a b c : World} (h : Below a.heap.size a b) (k : Below b.heap.size b c) : Below a.heap.size a c := h.trans (k.mono h.size)

/-- The zero value of a kind. -/
def zv (k : Int) : SV := ⟨k, 0, ⟨#[]⟩, none, 0, 0, none, 0, 0, none, 0, 0, none, 0, 0⟩
def zeroS (k : Int) : SV := if isB k then zv k else zv 0
theorem sc_zeroS (k : Int) : sc (zeroS k) = zeroV k := by
  unfold zeroS zeroV
  split <;> rfl
theorem wrap_sI {b : Nat} (hb : b ≤ 18446744073709551615) : wrap64 (b : Int) = sI b := by
  unfold sI wrap64
  split <;> omega
theorem ret_v {a b : Value} (h : a = b) : Ending.returned a = .returned b := by rw [h]
/-- The normal form of a value. -/
def normS (v : SV) : SV := if v.k = 6 ∧ clsN v.b = 0 then { v with b := nanN } else v
theorem sc_normS (v : SV) : sc (normS v) = normV (sc v) := by
  unfold normS normV sc
  simp only []
  split <;> rfl
theorem cls0 (b : Nat) : clsN b = 0 ∨ clsN b = 1 ∨ clsN b = 2 ∨ clsN b = 3 ∨ clsN b = 4 := by
  unfold clsN
  repeat' split
  all_goals simp
end Go.Proofs.YtgjbpadhdnclnaaGreatDoor.ScaB
