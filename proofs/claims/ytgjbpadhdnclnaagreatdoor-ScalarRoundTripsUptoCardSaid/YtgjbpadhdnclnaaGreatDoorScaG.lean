/- Contracts of Same and Cmp of the reference of package scalar. -/
import Derived.Test.YtgjbpadhdnclnaaGreatDoorScaD
import Derived.Test.YtgjbpadhdnclnaaGreatDoorScaC
import Derived.Deep.RegionHeld3
set_option linter.unusedSimpArgs false
set_option linter.unusedVariables false
namespace Go.Proofs.YtgjbpadhdnclnaaGreatDoor.ScaG
open Go.RowKit Nums Byt UtfM UtfS ScaM ScaV ScaA ScaB ScaC ScaD

/-- A block holds a value. -/
structure HasV (w : World) (B : Nat) (v : SV) : Prop where
  lt : B < w.heap.size
  cells : w.cell? ⟨B, 0, none⟩ = some (.int .i64 v.k) ∧ w.cell? ⟨B, 1, none⟩ = some (.int .u64 v.b) ∧ w.cell? ⟨B, 2, none⟩ = some (.string v.t) ∧ w.cell? ⟨B, 3, none⟩ = some (.slice v.a1 v.l1 v.c1) ∧ w.cell? ⟨B, 4, none⟩ = some (.slice v.a2 v.l2 v.c2) ∧ w.cell? ⟨B, 5, none⟩ = some (.slice v.a3 v.l3 v.c3) ∧ w.cell? ⟨B, 6, none⟩ = some (.slice v.a4 v.l4 v.c4)
theorem has_newV (w : World) (v : SV) (T : TypeId) : HasV (w.alloc (.cells #[.int .i64 v.k, .int .u64 v.b, .string v.t, .slice v.a1 v.l1 v.c1, .slice v.a2 v.l2 v.c2, .slice v.a3 v.l3 v.c3, .slice v.a4 v.l4 v.c4] T)) w.heap.size v := by
  refine ⟨by simp, ?_⟩
  simp [World.cell?_alloc_at _ _ _ _ rfl]
theorem HasV.below {w w' : World} {B : Nat} {v : SV} (h : HasV w B v) (hb : Below w.heap.size w w') : HasV w' B v := by
  have e : ∀ i, w'.cell? ⟨B, i, none⟩ = w.cell? ⟨B, i, none⟩ := fun i => hb.cell (p := ⟨B, i, none⟩) h.lt
  refine ⟨Nat.lt_of_lt_of_le h.lt hb.size, ?_⟩
  simp only [e]
  exact h.cells
theorem HasV.alloc {w : World} {B : Nat} {v : SV} (h : HasV w B v) (o : Obj) : HasV (w.alloc o) B v := h.below (below_box w o)
theorem HasV.drew {w : World} {B : Nat} {v : SV} (h : HasV w B v) : HasV w.drew B v := ⟨h.lt, h.cells⟩

theorem box2 {w w' : World} {o o2 : Obj} (h : Below ((w.alloc o).alloc o2).drew.heap.size ((w.alloc o).alloc o2).drew w') : Below w.heap.size w w' :=
  ((((Below.refl w.heap.size w).alloc (Nat.le_refl _) o).alloc (by simp) o2).drew).trans (h.mono (by show w.heap.size ≤ ((w.alloc o).alloc o2).heap.size; simp; omega))
end Go.Proofs.YtgjbpadhdnclnaaGreatDoor.ScaG
