/- From the condition of a law's row to what its walk asks of the listed variables (stage 5). -/
import Derived.Test.YtkkbapgpjfehhaaDoorDld
import Derived.Lay
import Derived.LaidOnce
import Derived.SevenTiedAt
set_option linter.unusedSimpArgs false
set_option linter.unusedVariables false
namespace Go.Proofs.YtkkbapgpjfehhaaDoor.DldOf
open Go.RowKit Dld

theorem star : "*errors.errorString" = "*" ++ "errors.errorString" := by decide
theorem rowE (u : TypeId) (h : Tryd.prog.typeName? 3 u = some "*errors.errorString") : u = 92 :=
  typeName_ptr_named (nm := "errors.errorString") (by rw [← star]; kernel_rfl) (by kernel_rfl) (by decide) u (by rw [← star]; exact h)
theorem tzD {H : Type} : (Rows.laid_math_bits_deBruijn64tab : DataW H) = Lib.tabData .u8 tzTab := by kernel_rfl
theorem hvD {H : Type} : (Rows.laid_wireschema_digest_halves : DataW H) = Lib.tabData .u32 halvesI := by kernel_rfl
set_option maxRecDepth 100000 in
theorem ld_of {W : World} (h : laidMetH Tryd.prog Rows.digestSumsRow.laid W) : Ld W := by
  rw [MakeChecks.laidMetH_plain _ _ _ (by kernel_rfl)] at h
  have h1 := h.tail
  have h3 := h1.tail.tail
  have h4 := h3.tail
  have h5 := h4.tail
  refine ⟨?_, ?_, ?_, ?_⟩
  · have h5' : laidMet Tryd.prog (("wireschema/digest.halves", Lib.tabData .u32 halvesI) :: (Rows.digestSumsRow.laid.drop 6)) W := by rw [← hvD]; exact h5
    exact Lib.tabIs_of_head (g := 0) (by kernel_rfl) (by kernel_rfl) Tryd.underlying50 Tryd.underlying38 (by kernel_rfl) (by kernel_rfl) h5'
  · have h1' : laidMet Tryd.prog (("math/bits.deBruijn64tab", Lib.tabData .u8 tzTab) :: (Rows.digestSumsRow.laid.drop 2)) W := by rw [← tzD]; exact h1
    exact Lib.tabIs_of_head (g := 6) (by kernel_rfl) (by kernel_rfl) Tryd.underlying98 Tryd.underlying5 (by kernel_rfl) (by kernel_rfl) h1'
  · obtain ⟨a, s, hv, _⟩ := laid_sentinel (g := 2) h3 (by kernel_rfl) (by kernel_rfl) Tryd.underlying45 rowE Tryd.underlying92 Tryd.underlying94 rfl rfl Tryd.underlying9 (by kernel_rfl) (by kernel_rfl)
    exact ⟨_, _, hv⟩
  · obtain ⟨a, s, hv, _⟩ := laid_sentinel (g := 1) h4 (by kernel_rfl) (by kernel_rfl) Tryd.underlying45 rowE Tryd.underlying92 Tryd.underlying94 rfl rfl Tryd.underlying9 (by kernel_rfl) (by kernel_rfl)
    exact ⟨_, _, hv⟩
end Go.Proofs.YtkkbapgpjfehhaaDoor.DldOf
