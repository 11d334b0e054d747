/- What the walks of this seat ask of the world: the tables that its rows list; it stays while memory only grows. -/
import Derived.Test.YthjpchnogllliaaDoorLd
set_option linter.unusedSimpArgs false
set_option linter.unusedVariables false
namespace Go.Proofs.YthjpchnogllliaaDoor.Tld
open Go.RowKit

structure Ld (w : World) : Prop where
  v : Ld.Ld w
theorem Ld.below {w w' : World} (h : Ld w) (hb : Below w.heap.size w w') : Ld w' := ⟨h.v.below hb⟩
theorem Ld.drew {w : World} (h : Ld w) : Ld w.drew := ⟨⟨h.v.tab, h.v.tz⟩⟩
theorem Ld.alloc {w : World} (h : Ld w) (o : Obj) : Ld (w.alloc o) := h.below ((Below.refl _ _).alloc (Nat.le_refl _) o)
end Go.Proofs.YthjpchnogllliaaDoor.Tld
