/- What the listed package variables of a law hold, as the walks ask for it; they stay while memory only grows. -/
import Derived.Test.YtndhhlhdkjllhaaGreatDoorRows
import Derived.WalkSmall
import Derived.Lib.LaidTab
import Derived.Lib.LaidU8
import Derived.Stop.LaidErr
import Derived.Lib.ItoaNum
import Derived.WalkKit
import Derived.ProofKit
set_option linter.unusedSimpArgs false
set_option linter.unusedVariables false
namespace Go.Proofs.YtndhhlhdkjllhaaGreatDoor.Ld
open Go.RowKit

/-- The table of powers of ten, and the two errors of package strconv. -/
structure Ld (w : World) : Prop where
  tab : Lib.TabIs Tryz.prog w "internal/strconv.uint64pow10" .u64 Lib.pow10Tab
  er : ∃ tp p, w.var? Tryz.prog "strconv.ErrRange" = some #[.iface tp p]
  es : ∃ tp p, w.var? Tryz.prog "strconv.ErrSyntax" = some #[.iface tp p]

theorem var_below {P : Program} {w w' : World} {n : String} {cs : Array Value} (hb : Below w.heap.size w w') (h : w.var? P n = some cs) : w'.var? P n = some cs := by
  unfold World.var? at *
  rw [Option.bind_eq_some_iff] at h
  obtain ⟨g, hg, h⟩ := h
  rw [hg]
  show (match w'.heap[g]? with | some (.cells cs _ _) => some cs | _ => none) = some cs
  cases e : w.heap[g]? with
  | none => simp [e] at h
  | some o =>
    have hlt : g < w.heap.size := (Array.getElem?_eq_some_iff.1 e).1
    rw [hb.block g hlt, e]
    rw [e] at h
    exact h
theorem Ld.below {w w' : World} (h : Ld w) (hb : Below w.heap.size w w') : Ld w' := by
  obtain ⟨t, ⟨a, b, c⟩, ⟨d, e, f⟩⟩ := h
  exact ⟨var_below hb t, ⟨a, b, var_below hb c⟩, ⟨d, e, var_below hb f⟩⟩
end Go.Proofs.YtndhhlhdkjllhaaGreatDoor.Ld
