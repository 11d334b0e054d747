/- A block of seven cells: what it holds in worlds that have only grown. -/
import Derived.Test.YthjpchnogllliaaGreatDoorNums
import Derived.ProofKit
set_option linter.unusedSimpArgs false
set_option linter.unusedVariables false
namespace Go.Proofs.YthjpchnogllliaaGreatDoor.Box
open Go.RowKit

structure B7 (w : World) (k : Nat) (v0 v1 v2 v3 v4 v5 v6 : Value) : Prop where
  lt : k < w.heap.size
  c0 : w.cell? ⟨k, 0, none⟩ = some v0
  c1 : w.cell? ⟨k, 1, none⟩ = some v1
  c2 : w.cell? ⟨k, 2, none⟩ = some v2
  c3 : w.cell? ⟨k, 3, none⟩ = some v3
  c4 : w.cell? ⟨k, 4, none⟩ = some v4
  c5 : w.cell? ⟨k, 5, none⟩ = some v5
  c6 : w.cell? ⟨k, 6, none⟩ = some v6
  fz : ∀ o, w.frozen? ⟨k, o, none⟩ = false
theorem b7_new (w : World) (v0 v1 v2 v3 v4 v5 v6 : Value) (T : TypeId) : B7 (w.alloc (.cells #[v0, v1, v2, v3, v4, v5, v6] T)) w.heap.size v0 v1 v2 v3 v4 v5 v6 := by
  refine ⟨by simp, ?_, ?_, ?_, ?_, ?_, ?_, ?_, fun o => by simp⟩ <;> (rw [World.cell?_alloc_at _ _ _ _ rfl]; rfl)
section
variable {w w1 : World} {k : Nat} {v0 v1 v2 v3 v4 v5 v6 : Value}
theorem B7.belowB {B : Nat} (h : B7 w k v0 v1 v2 v3 v4 v5 v6) (hk : k < B) (hb : Below B w w1) : B7 w1 k v0 v1 v2 v3 v4 v5 v6 := by
  have hc : ∀ o, w1.cell? ⟨k, o, none⟩ = w.cell? ⟨k, o, none⟩ := fun o => hb.cell (p := ⟨k, o, none⟩) hk
  exact ⟨Nat.lt_of_lt_of_le h.lt hb.size, (hc _).trans h.c0, (hc _).trans h.c1, (hc _).trans h.c2, (hc _).trans h.c3, (hc _).trans h.c4, (hc _).trans h.c5, (hc _).trans h.c6,
    fun o => (hb.frozen (p := ⟨k, o, none⟩) hk).trans (h.fz o)⟩
theorem B7.below (h : B7 w k v0 v1 v2 v3 v4 v5 v6) (hb : Below w.heap.size w w1) : B7 w1 k v0 v1 v2 v3 v4 v5 v6 := h.belowB h.lt hb
theorem B7.alloc (h : B7 w k v0 v1 v2 v3 v4 v5 v6) (o : Obj) : B7 (w.alloc o) k v0 v1 v2 v3 v4 v5 v6 := h.below ((Below.refl _ _).alloc (Nat.le_refl _) o)
theorem B7.drew (h : B7 w k v0 v1 v2 v3 v4 v5 v6) : B7 w.drew k v0 v1 v2 v3 v4 v5 v6 := h.below (Below.refl _ _).drew
theorem B7.set_other {q : Nat} (h : B7 w k v0 v1 v2 v3 v4 v5 v6) (hq : k ≠ q) (j : Nat) (x : Value) : B7 (w.setCell ⟨q, j, none⟩ x) k v0 v1 v2 v3 v4 v5 v6 :=
  ⟨by simpa using h.lt, (World.cell?_setCell_other _ _ _ _ (by simp [hq])).trans h.c0, (World.cell?_setCell_other _ _ _ _ (by simp [hq])).trans h.c1, (World.cell?_setCell_other _ _ _ _ (by simp [hq])).trans h.c2, (World.cell?_setCell_other _ _ _ _ (by simp [hq])).trans h.c3, (World.cell?_setCell_other _ _ _ _ (by simp [hq])).trans h.c4, (World.cell?_setCell_other _ _ _ _ (by simp [hq])).trans h.c5, (World.cell?_setCell_other _ _ _ _ (by simp [hq])).trans h.c6, fun o => by rw [World.frozen?_setCell]; exact h.fz o⟩
theorem B7.set0 (h : B7 w k v0 v1 v2 v3 v4 v5 v6) (x : Value) : B7 (w.setCell ⟨k, 0, none⟩ x) k x v1 v2 v3 v4 v5 v6 :=
  ⟨by simpa using h.lt, World.cell?_setCell_same _ _ _ h.c0, (World.cell?_setCell_other _ _ _ _ (by simp)).trans h.c1, (World.cell?_setCell_other _ _ _ _ (by simp)).trans h.c2, (World.cell?_setCell_other _ _ _ _ (by simp)).trans h.c3, (World.cell?_setCell_other _ _ _ _ (by simp)).trans h.c4, (World.cell?_setCell_other _ _ _ _ (by simp)).trans h.c5, (World.cell?_setCell_other _ _ _ _ (by simp)).trans h.c6, fun o => by rw [World.frozen?_setCell]; exact h.fz o⟩
theorem B7.set1 (h : B7 w k v0 v1 v2 v3 v4 v5 v6) (x : Value) : B7 (w.setCell ⟨k, 1, none⟩ x) k v0 x v2 v3 v4 v5 v6 :=
  ⟨by simpa using h.lt, (World.cell?_setCell_other _ _ _ _ (by simp)).trans h.c0, World.cell?_setCell_same _ _ _ h.c1, (World.cell?_setCell_other _ _ _ _ (by simp)).trans h.c2, (World.cell?_setCell_other _ _ _ _ (by simp)).trans h.c3, (World.cell?_setCell_other _ _ _ _ (by simp)).trans h.c4, (World.cell?_setCell_other _ _ _ _ (by simp)).trans h.c5, (World.cell?_setCell_other _ _ _ _ (by simp)).trans h.c6, fun o => by rw [World.frozen?_setCell]; exact h.fz o⟩
theorem B7.set2 (h : B7 w k v0 v1 v2 v3 v4 v5 v6) (x : Value) : B7 (w.setCell ⟨k, 2, none⟩ x) k v0 v1 x v3 v4 v5 v6 :=
  ⟨by simpa using h.lt, (World.cell?_setCell_other _ _ _ _ (by simp)).trans h.c0, (World.cell?_setCell_other _ _ _ _ (by simp)).trans h.c1, World.cell?_setCell_same _ _ _ h.c2, (World.cell?_setCell_other _ _ _ _ (by simp)).trans h.c3, (World.cell?_setCell_other _ _ _ _ (by simp)).trans h.c4, (World.cell?_setCell_other _ _ _ _ (by simp)).trans h.c5, (World.cell?_setCell_other _ _ _ _ (by simp)).trans h.c6, fun o => by rw [World.frozen?_setCell]; exact h.fz o⟩
theorem B7.set3 (h : B7 w k v0 v1 v2 v3 v4 v5 v6) (x : Value) : B7 (w.setCell ⟨k, 3, none⟩ x) k v0 v1 v2 x v4 v5 v6 :=
  ⟨by simpa using h.lt, (World.cell?_setCell_other _ _ _ _ (by simp)).trans h.c0, (World.cell?_setCell_other _ _ _ _ (by simp)).trans h.c1, (World.cell?_setCell_other _ _ _ _ (by simp)).trans h.c2, World.cell?_setCell_same _ _ _ h.c3, (World.cell?_setCell_other _ _ _ _ (by simp)).trans h.c4, (World.cell?_setCell_other _ _ _ _ (by simp)).trans h.c5, (World.cell?_setCell_other _ _ _ _ (by simp)).trans h.c6, fun o => by rw [World.frozen?_setCell]; exact h.fz o⟩
theorem B7.set4 (h : B7 w k v0 v1 v2 v3 v4 v5 v6) (x : Value) : B7 (w.setCell ⟨k, 4, none⟩ x) k v0 v1 v2 v3 x v5 v6 :=
  ⟨by simpa using h.lt, (World.cell?_setCell_other _ _ _ _ (by simp)).trans h.c0, (World.cell?_setCell_other _ _ _ _ (by simp)).trans h.c1, (World.cell?_setCell_other _ _ _ _ (by simp)).trans h.c2, (World.cell?_setCell_other _ _ _ _ (by simp)).trans h.c3, World.cell?_setCell_same _ _ _ h.c4, (World.cell?_setCell_other _ _ _ _ (by simp)).trans h.c5, (World.cell?_setCell_other _ _ _ _ (by simp)).trans h.c6, fun o => by rw [World.frozen?_setCell]; exact h.fz o⟩
theorem B7.set5 (h : B7 w k v0 v1 v2 v3 v4 v5 v6) (x : Value) : B7 (w.setCell ⟨k, 5, none⟩ x) k v0 v1 v2 v3 v4 x v6 :=
  ⟨by simpa using h.lt, (World.cell?_setCell_other _ _ _ _ (by simp)).trans h.c0, (World.cell?_setCell_other _ _ _ _ (by simp)).trans h.c1, (World.cell?_setCell_other _ _ _ _ (by simp)).trans h.c2, (World.cell?_setCell_other _ _ _ _ (by simp)).trans h.c3, (World.cell?_setCell_other _ _ _ _ (by simp)).trans h.c4, World.cell?_setCell_same _ _ _ h.c5, (World.cell?_setCell_other _ _ _ _ (by simp)).trans h.c6, fun o => by rw [World.frozen?_setCell]; exact h.fz o⟩
theorem B7.set6 (h : B7 w k v0 v1 v2 v3 v4 v5 v6) (x : Value) : B7 (w.setCell ⟨k, 6, none⟩ x) k v0 v1 v2 v3 v4 v5 x :=
  ⟨by simpa using h.lt, (World.cell?_setCell_other _ _ _ _ (by simp)).trans h.c0, (World.cell?_setCell_other _ _ _ _ (by simp)).trans h.c1, (World.cell?_setCell_other _ _ _ _ (by simp)).trans h.c2, (World.cell?_setCell_other _ _ _ _ (by simp)).trans h.c3, (World.cell?_setCell_other _ _ _ _ (by simp)).trans h.c4, (World.cell?_setCell_other _ _ _ _ (by simp)).trans h.c5, World.cell?_setCell_same _ _ _ h.c6, fun o => by rw [World.frozen?_setCell]; exact h.fz o⟩
theorem B7.mk' (lt : k < w.heap.size) (c0 : w.cell? ⟨k, 0, none⟩ = some v0) (c1 : w.cell? ⟨k, 1, none⟩ = some v1) (c2 : w.cell? ⟨k, 2, none⟩ = some v2) (c3 : w.cell? ⟨k, 3, none⟩ = some v3) (c4 : w.cell? ⟨k, 4, none⟩ = some v4) (c5 : w.cell? ⟨k, 5, none⟩ = some v5)
    (c6 : w.cell? ⟨k, 6, none⟩ = some v6) (fz : ∀ o, w.frozen? ⟨k, o, none⟩ = false) : B7 w k v0 v1 v2 v3 v4 v5 v6 := ⟨lt, c0, c1, c2, c3, c4, c5, c6, fz⟩
end
theorem B7.cells {w : World} {k : Nat} {v0 v1 v2 v3 v4 v5 v6 : Value} (h : B7 w k v0 v1 v2 v3 v4 v5 v6) :
    w.cell? ⟨k, 0, none⟩ = some v0 ∧ w.cell? ⟨k, 1, none⟩ = some v1 ∧ w.cell? ⟨k, 2, none⟩ = some v2 ∧ w.cell? ⟨k, 3, none⟩ = some v3 ∧ w.cell? ⟨k, 4, none⟩ = some v4 ∧ w.cell? ⟨k, 5, none⟩ = some v5 ∧ w.cell? ⟨k, 6, none⟩ = some v6 :=
  ⟨h.c0, h.c1, h.c2, h.c3, h.c4, h.c5, h.c6⟩
/-- Seven stores into one block. -/
def set7 (w : World) (k : Nat) (v0 v1 v2 v3 v4 v5 v6 : Value) : World :=
  ((((((w.setCell ⟨k, 0, none⟩ v0).setCell ⟨k, 1, none⟩ v1).setCell ⟨k, 2, none⟩ v2).setCell ⟨k, 3, none⟩ v3).setCell ⟨k, 4, none⟩ v4).setCell ⟨k, 5, none⟩ v5).setCell ⟨k, 6, none⟩ v6
end Go.Proofs.YthjpchnogllliaaGreatDoor.Box
