/- The walk of the law ScalarNorms. -/
import Derived.Test.YtgjbpadhdnclnaaGreatDoorScalarKindsW
import Derived.Test.YtgjbpadhdnclnaaGreatDoorNorP
set_option linter.unusedSimpArgs false
set_option linter.unusedVariables false
namespace Go.Proofs.YtgjbpadhdnclnaaGreatDoor.ScalarNormsW
open Go.RowKit Nums Byt UtfM UtfS ScaM ScaV ScaA ScaB ScaC ScaS ScpM ScpA ScpE Ld Box Val CloM CloB CloC NorP ScalarKindsW

theorem norm_norm (x : Sc) : normV (normV x) = normV x := by
  unfold normV
  by_cases h : x.k = 6 ∧ clsN x.b = 0
  · rw [if_pos h]
    by_cases h2 : x.k = 6 ∧ clsN nanN = 0
    · rw [if_pos h2]
    · rw [if_neg h2]
  · rw [if_neg h, if_neg h]
theorem fits_norm (k : Int) (x : Sc) : fitsB k (normV x) = fitsB k x := by
  unfold normV
  split
  · rename_i h
    unfold fitsB
    by_cases e : k = 6
    · subst e; simp [txB, rgB, loneB]
    · have : (x.k == k) = false := by rw [h.1]; simp; omega
      simp [this]
  · rfl
theorem treeB {w w' : World} {n : Nat} {v : SV} (h : Tree w (· < w.heap.size) n v) (hb : Below w.heap.size w w') : Tree w' (· < w'.heap.size) n v := Old.here (w := w) h hb

end Go.Proofs.YtgjbpadhdnclnaaGreatDoor.ScalarNormsW
