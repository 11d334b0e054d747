/- The walk of the law ScalarKinds. -/
import Derived.Test.YtgjbpadhdnclnaaGreatDoorScpE
import Derived.Test.YtgjbpadhdnclnaaGreatDoorScaS
import Derived.Test.YtgjbpadhdnclnaaGreatDoorVal
import Derived.Deep.RegionHeld3
set_option linter.unusedSimpArgs false
set_option linter.unusedVariables false
namespace Go.Proofs.YtgjbpadhdnclnaaGreatDoor.ScalarKindsW
open Go.RowKit Nums Byt UtfM UtfS ScaM ScaV ScaA ScaB ScaC ScaS ScpM ScpA ScpE Ld Box Val

theorem fits_zero (k : Int) : fitsB k (sc (zeroS k)) = isB k := by
  rw [sc_zeroS]
  unfold zeroV
  cases h : isB k with
  | false => simp [fitsB, h]
  | true =>
    simp only [fitsB, h, if_true, loneB, Bool.true_and]
    have hk : 1 ≤ k ∧ k ≤ 9 := by simpa [isB] using h
    obtain ⟨h1, h2⟩ := hk
    have : k = 1 ∨ k = 2 ∨ k = 3 ∨ k = 4 ∨ k = 5 ∨ k = 6 ∨ k = 7 ∨ k = 8 ∨ k = 9 := by omega
    rcases this with rfl | rfl | rfl | rfl | rfl | rfl | rfl | rfl | rfl <;> decide +kernel
theorem isZero_zero (k : Int) : isZeroB (sc (zeroS k)) = isB k := by
  rw [sc_zeroS]
  unfold zeroV
  cases h : isB k with
  | false => rfl
  | true => simp [isZeroB, h, loneB]
theorem same_self (x : Sc) : sameB x x = true := (sameB_iff x x).2 rfl
theorem zeroS_zv (k : Int) : ∃ m, zeroS k = zv m := by
  unfold zeroS
  split
  · exact ⟨k, rfl⟩
  · exact ⟨0, rfl⟩

end Go.Proofs.YtgjbpadhdnclnaaGreatDoor.ScalarKindsW
