/- What the walks of stage 6 ask of the world: the library's variable that strings.Index reads holds some number; it stays while memory only grows. -/
import Derived.Test.YtpgikodjfidkkaaDoorNums
import Derived.WalkKit
import Derived.ProofKit
import Derived.WalkSmall
set_option linter.unusedSimpArgs false
set_option linter.unusedVariables false
namespace Go.Proofs.YtpgikodjfidkkaaDoor.Uld
open Go.RowKit

structure Ld (w : World) : Prop where
  mx : ∃ m, w.cell? ⟨0, 0, none⟩ = some (.int .i64 m)
theorem Ld.below {w w' : World} (h : Ld w) (hb : Below w.heap.size w w') : Ld w' := by
  obtain ⟨m, hm⟩ := h.mx
  exact ⟨m, (hb.cell (p := ⟨0, 0, none⟩) (World.block_lt_of_cell? _ _ hm)).trans hm⟩
theorem Ld.drew {w : World} (h : Ld w) : Ld w.drew := ⟨h.mx⟩
end Go.Proofs.YtpgikodjfidkkaaDoor.Uld
