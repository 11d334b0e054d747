import Derived.Test.YthjpchnogllliaaGreatDoorNums
import Derived.WalkKit
import Derived.ProofKit
import Derived.WalkSmall
import Derived.Test.YthjpchnogllliaaGreatDoorRows
import Derived.Lib.LaidTab
import Derived.Lib.LaidU8
import Derived.Stop.LaidErr
import Derived.Lib.ItoaNum
/- What the walks of stage 6 ask of the world: the library's variable that strings.Index reads holds some number; it stays while memory only grows. -/
set_option linter.unusedSimpArgs false
set_option linter.unusedVariables false
namespace Go.Proofs.YthjpchnogllliaaGreatDoor.Uld
open Go.RowKit

structure Ld (w : World) : Prop where
  mx : ∃ m, w.cell? ⟨1, 0, none⟩ = some (.int .i64 m)
theorem Ld.below {w w' : World} (h : Ld w) (hb : Below w.heap.size w w') : Ld w' := by
  obtain ⟨m, hm⟩ := h.mx
  exact ⟨m, (hb.cell (p := ⟨1, 0, none⟩) (World.block_lt_of_cell? _ _ hm)).trans hm⟩
theorem Ld.drew {w : World} (h : Ld w) : Ld w.drew := ⟨h.mx⟩
end Go.Proofs.YthjpchnogllliaaGreatDoor.Uld

/- What the listed package variables of a law hold, as the walks ask for it; they stay while memory only grows. -/
set_option linter.unusedSimpArgs false
set_option linter.unusedVariables false
namespace Go.Proofs.YthjpchnogllliaaGreatDoor.Ld
open Go.RowKit

def tzTab : List Int := [0, 1, 56, 2, 57, 49, 28, 3, 61, 58, 42, 50, 38, 29, 17, 4, 62, 47, 59, 36, 45, 43, 51, 22, 53, 39, 33, 30, 24, 18, 12, 5, 63, 55, 48, 27, 60, 41, 37, 16, 46, 35, 44, 21, 52, 32, 23, 11, 54, 26, 40, 15, 34, 20, 31, 10, 25, 14, 19, 9, 13, 8, 7, 6]

/-- The table of powers of ten, the table of package bits, and the two errors of package strconv. -/
structure Ld (w : World) : Prop where
  tab : Lib.TabIs Tryz.prog w "internal/strconv.uint64pow10" .u64 Lib.pow10Tab
  tz : Lib.TabIs Tryz.prog w "math/bits.deBruijn64tab" .u8 tzTab
  er : ∃ tp p, w.var? Tryz.prog "strconv.ErrRange" = some #[.iface tp p]
  es : ∃ tp p, w.var? Tryz.prog "strconv.ErrSyntax" = some #[.iface tp p]

theorem var_below {P : Program} {w w' : World} {n : String} {cs : Array Value} (hb : Below w.heap.size w w') (h : w.var? P n = some cs) : w'.var? P n = some cs := by
  unfold World.var? at *
  rw [Option.bind_eq_some_iff] at h
  obtain ⟨g, hg, h⟩ := h
  rw [hg]
  show (match w'.heap[g]? with | some (.cells cs _ _) => some cs | _ => none) = some cs
  cases e : w.heap[g]? with
  | none => simp [e] at h
  | some o =>
    have hlt : g < w.heap.size := (Array.getElem?_eq_some_iff.1 e).1
    rw [hb.block g hlt, e]
    rw [e] at h
    exact h
theorem Ld.below {w w' : World} (h : Ld w) (hb : Below w.heap.size w w') : Ld w' := by
  obtain ⟨t, z, ⟨a, b, c⟩, ⟨d, e, f⟩⟩ := h
  exact ⟨var_below hb t, var_below hb z, ⟨a, b, var_below hb c⟩, ⟨d, e, var_below hb f⟩⟩
end Go.Proofs.YthjpchnogllliaaGreatDoor.Ld

/- What the walks of stage 7 ask of the world: what stage 6's ask (strings.Index), the table of powers of ten, the library's error of range; it stays while memory only grows. -/
set_option linter.unusedSimpArgs false
set_option linter.unusedVariables false
namespace Go.Proofs.YthjpchnogllliaaGreatDoor.Tld
open Go.RowKit

structure Ld (w : World) : Prop where
  u : Uld.Ld w
  v : Ld.Ld w
theorem Ld.below {w w' : World} (h : Ld w) (hb : Below w.heap.size w w') : Ld w' := ⟨h.u.below hb, h.v.below hb⟩
theorem Ld.drew {w : World} (h : Ld w) : Ld w.drew := ⟨h.u.drew, ⟨h.v.tab, h.v.tz, h.v.er, h.v.es⟩⟩
theorem Ld.alloc {w : World} (h : Ld w) (o : Obj) : Ld (w.alloc o) := h.below ((Below.refl _ _).alloc (Nat.le_refl _) o)
end Go.Proofs.YthjpchnogllliaaGreatDoor.Tld
