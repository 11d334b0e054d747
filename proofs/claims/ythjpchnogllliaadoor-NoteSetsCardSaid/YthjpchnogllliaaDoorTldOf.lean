/- From the condition of a row of this seat to what its walk asks of the listed variables. -/
import Derived.Test.YthjpchnogllliaaDoorTld
import Derived.Stop.LaidErr
import Derived.Lay
import Derived.LaidOnce
import Derived.SevenTiedAt
set_option linter.unusedSimpArgs false
set_option linter.unusedVariables false
namespace Go.Proofs.YthjpchnogllliaaDoor.TldOf
open Go.RowKit Ld

theorem tabD {H : Type} : (Rows.laid_internal_strconv_uint64pow10 : DataW H) = Lib.tabData .u64 Lib.pow10Tab := by kernel_rfl
theorem tzD {H : Type} : (Rows.laid_math_bits_deBruijn64tab : DataW H) = Lib.tabData .u8 tzTab := by kernel_rfl
/-- The variables that the rows of this seat list. -/
def listed : List (String × DataW Unit) := [("math/bits.deBruijn32tab", Rows.laid_math_bits_deBruijn32tab), ("math/bits.deBruijn64tab", Rows.laid_math_bits_deBruijn64tab), ("internal/strconv.uint64pow10", Rows.laid_internal_strconv_uint64pow10)]
set_option maxRecDepth 100000 in
theorem ld_of {W : World} (h : laidMetH Tryd.prog listed W) : Ld.Ld W := by
  rw [MakeChecks.laidMetH_plain _ _ _ (by kernel_rfl)] at h
  have h1 := h.tail
  have h2 := h1.tail
  refine ⟨?_, ?_⟩
  · have h2' : laidMet Tryd.prog (("internal/strconv.uint64pow10", Lib.tabData .u64 Lib.pow10Tab) :: (listed.drop 3)) W := by rw [← tabD]; exact h2
    exact Lib.tabIs_of_head (g := 0) (by kernel_rfl) (by kernel_rfl) Tryd.underlying128 Tryd.underlying28 (by kernel_rfl) (by kernel_rfl) h2'
  · have h1' : laidMet Tryd.prog (("math/bits.deBruijn64tab", Lib.tabData .u8 tzTab) :: (listed.drop 2)) W := by rw [← tzD]; exact h1
    exact Lib.tabIs_of_head (g := 3) (by kernel_rfl) (by kernel_rfl) Tryd.underlying134 Tryd.underlying5 (by kernel_rfl) (by kernel_rfl) h1'
end Go.Proofs.YthjpchnogllliaaDoor.TldOf
