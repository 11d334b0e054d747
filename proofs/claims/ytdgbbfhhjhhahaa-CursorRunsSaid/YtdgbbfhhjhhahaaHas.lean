/- A block of six cells that holds a cursor: what it holds in worlds that have only grown. -/
import Derived.Test.YtdgbbfhhjhhahaaCurM
import Derived.Test.YtdgbbfhhjhhahaaRows
import Derived.WalkKit
import Derived.ProofKit
import Derived.WalkSpells
import Derived.WalkLawsBesides
import Derived.Lib.Hide
import Derived.Laws.AppendOwn
namespace Go.Proofs.Ytdgbbfhhjhhahaa.Has
open Go.RowKit CurM

structure HasC (w : World) (k : Nat) (d : ByteArray) (a e dp n t : Int) : Prop where
  lt : k < w.heap.size
  c0 : w.cell? ⟨k, 0, none⟩ = some (.string d)
  c1 : w.cell? ⟨k, 1, none⟩ = some (.int .i64 a)
  c2 : w.cell? ⟨k, 2, none⟩ = some (.int .i64 e)
  c3 : w.cell? ⟨k, 3, none⟩ = some (.int .i64 dp)
  c4 : w.cell? ⟨k, 4, none⟩ = some (.int .i64 n)
  c5 : w.cell? ⟨k, 5, none⟩ = some (.int .i64 t)
  fz : ∀ o, w.frozen? ⟨k, o, none⟩ = false

theorem has_new (w : World) (d : ByteArray) (a e dp n t : Int) (T : TypeId) :
    HasC (w.alloc (.cells #[.string d, .int .i64 a, .int .i64 e, .int .i64 dp, .int .i64 n, .int .i64 t] T)) w.heap.size d a e dp n t := by
  refine ⟨by simp, ?_, ?_, ?_, ?_, ?_, ?_, fun o => by simp⟩ <;> (rw [World.cell?_alloc_at _ _ _ _ rfl]; rfl)
section
variable {w w1 : World} {k : Nat} {d : ByteArray} {a e dp n t : Int}
theorem HasC.belowB {B : Nat} (h : HasC w k d a e dp n t) (hk : k < B) (hb : Below B w w1) : HasC w1 k d a e dp n t := by
  have hc : ∀ o, w1.cell? ⟨k, o, none⟩ = w.cell? ⟨k, o, none⟩ := fun o => hb.cell (p := ⟨k, o, none⟩) hk
  exact ⟨Nat.lt_of_lt_of_le h.lt hb.size, (hc _).trans h.c0, (hc _).trans h.c1, (hc _).trans h.c2, (hc _).trans h.c3, (hc _).trans h.c4, (hc _).trans h.c5,
    fun o => (hb.frozen (p := ⟨k, o, none⟩) hk).trans (h.fz o)⟩
theorem HasC.grown {row : Option Nat} (h : HasC w k d a e dp n t) (hk : some k ≠ row) (hg : w.grownBy w1 row) : HasC w1 k d a e dp n t := by
  have hb := hg.block k h.lt hk
  have hc : ∀ o, w1.cell? ⟨k, o, none⟩ = w.cell? ⟨k, o, none⟩ := fun o => World.cell?_of_block (w := w) (a := ⟨k, o, none⟩) hb
  exact ⟨Nat.lt_of_lt_of_le h.lt hg.size, (hc _).trans h.c0, (hc _).trans h.c1, (hc _).trans h.c2, (hc _).trans h.c3, (hc _).trans h.c4, (hc _).trans h.c5,
    fun o => (World.frozen?_of_block (w := w) (a := ⟨k, o, none⟩) hb).trans (h.fz o)⟩
theorem HasC.below (h : HasC w k d a e dp n t) (hb : Below w.heap.size w w1) : HasC w1 k d a e dp n t := by
  have hc : ∀ o, w1.cell? ⟨k, o, none⟩ = w.cell? ⟨k, o, none⟩ := fun o => hb.cell (p := ⟨k, o, none⟩) h.lt
  exact ⟨Nat.lt_of_lt_of_le h.lt hb.size, (hc _).trans h.c0, (hc _).trans h.c1, (hc _).trans h.c2, (hc _).trans h.c3, (hc _).trans h.c4, (hc _).trans h.c5,
    fun o => (hb.frozen (p := ⟨k, o, none⟩) h.lt).trans (h.fz o)⟩
theorem HasC.alloc (h : HasC w k d a e dp n t) (o : Obj) : HasC (w.alloc o) k d a e dp n t := h.below ((Below.refl _ _).alloc (Nat.le_refl _) o)
theorem HasC.drew (h : HasC w k d a e dp n t) : HasC w.drew k d a e dp n t := h.below (Below.refl _ _).drew
end

/-- The same of a block of four cells. -/
structure HasL (w : World) (k : Nat) (v0 v1 v2 v3 : Value) : Prop where
  lt : k < w.heap.size
  c0 : w.cell? ⟨k, 0, none⟩ = some v0
  c1 : w.cell? ⟨k, 1, none⟩ = some v1
  c2 : w.cell? ⟨k, 2, none⟩ = some v2
  c3 : w.cell? ⟨k, 3, none⟩ = some v3
theorem hasL_new (w : World) (v0 v1 v2 v3 : Value) (T : TypeId) : HasL (w.alloc (.cells #[v0, v1, v2, v3] T)) w.heap.size v0 v1 v2 v3 := by
  refine ⟨by simp, ?_, ?_, ?_, ?_⟩ <;> (rw [World.cell?_alloc_at _ _ _ _ rfl]; rfl)
theorem HasL.below {w w1 : World} {k : Nat} {v0 v1 v2 v3 : Value} (h : HasL w k v0 v1 v2 v3) (hb : Below w.heap.size w w1) : HasL w1 k v0 v1 v2 v3 := by
  have hc : ∀ o, w1.cell? ⟨k, o, none⟩ = w.cell? ⟨k, o, none⟩ := fun o => hb.cell (p := ⟨k, o, none⟩) h.lt
  exact ⟨Nat.lt_of_lt_of_le h.lt hb.size, (hc _).trans h.c0, (hc _).trans h.c1, (hc _).trans h.c2, (hc _).trans h.c3⟩
theorem HasL.alloc {w : World} {k : Nat} {v0 v1 v2 v3 : Value} (h : HasL w k v0 v1 v2 v3) (o : Obj) : HasL (w.alloc o) k v0 v1 v2 v3 := h.below ((Below.refl _ _).alloc (Nat.le_refl _) o)
theorem HasC.mk' {w : World} {k : Nat} {d : ByteArray} {a e dp n t : Int} (lt : k < w.heap.size) (c0 : w.cell? ⟨k, 0, none⟩ = some (.string d)) (c1 : w.cell? ⟨k, 1, none⟩ = some (.int .i64 a)) (c2 : w.cell? ⟨k, 2, none⟩ = some (.int .i64 e))
    (c3 : w.cell? ⟨k, 3, none⟩ = some (.int .i64 dp)) (c4 : w.cell? ⟨k, 4, none⟩ = some (.int .i64 n)) (c5 : w.cell? ⟨k, 5, none⟩ = some (.int .i64 t)) (fz : ∀ o, w.frozen? ⟨k, o, none⟩ = false) : HasC w k d a e dp n t :=
  ⟨lt, c0, c1, c2, c3, c4, c5, fz⟩

theorem HasC.cells {w : World} {k : Nat} {d : ByteArray} {a e dp n t : Int} (h : HasC w k d a e dp n t) :
    w.cell? ⟨k, 0, none⟩ = some (.string d) ∧ w.cell? ⟨k, 1, none⟩ = some (.int .i64 a) ∧ w.cell? ⟨k, 2, none⟩ = some (.int .i64 e) ∧ w.cell? ⟨k, 3, none⟩ = some (.int .i64 dp) ∧ w.cell? ⟨k, 4, none⟩ = some (.int .i64 n) ∧ w.cell? ⟨k, 5, none⟩ = some (.int .i64 t) :=
  ⟨h.c0, h.c1, h.c2, h.c3, h.c4, h.c5⟩

theorem below6 {B k : Nat} {a w : World} (h : Below B a w) (hk : B ≤ k) (v0 v1 v2 v3 v4 v5 : Value) :
    Below B a ((((((w.setCell ⟨k, 0, none⟩ v0).setCell ⟨k, 1, none⟩ v1).setCell ⟨k, 2, none⟩ v2).setCell ⟨k, 3, none⟩ v3).setCell ⟨k, 4, none⟩ v4).setCell ⟨k, 5, none⟩ v5) :=
  (((((h.setCell hk _).setCell hk _).setCell hk _).setCell hk _).setCell hk _).setCell hk _
/-- The block stored anew, and a store into another block. -/
theorem HasC.set6 {w : World} {k : Nat} {d : ByteArray} {a e dp n t : Int} (h : HasC w k d a e dp n t) (d' : ByteArray) (a' e' dp' n' t' : Int) :
    HasC ((((((w.setCell ⟨k, 0, none⟩ (.string d')).setCell ⟨k, 1, none⟩ (.int .i64 a')).setCell ⟨k, 2, none⟩ (.int .i64 e')).setCell ⟨k, 3, none⟩ (.int .i64 dp')).setCell ⟨k, 4, none⟩ (.int .i64 n')).setCell ⟨k, 5, none⟩ (.int .i64 t')) k d' a' e' dp' n' t' := by
  obtain ⟨lt, c0, c1, c2, c3, c4, c5, fz⟩ := h
  refine ⟨by simpa using lt, ?_, ?_, ?_, ?_, ?_, ?_, fun o => by simp [fz]⟩ <;> simp [go_sem, c0, c1, c2, c3, c4, c5]
theorem HasC.set6o {w : World} {K k : Nat} {d : ByteArray} {a e dp n t : Int} (h : HasC w K d a e dp n t) (hk : K ≠ k) (v0 v1 v2 v3 v4 v5 : Value) :
    HasC ((((((w.setCell ⟨k, 0, none⟩ v0).setCell ⟨k, 1, none⟩ v1).setCell ⟨k, 2, none⟩ v2).setCell ⟨k, 3, none⟩ v3).setCell ⟨k, 4, none⟩ v4).setCell ⟨k, 5, none⟩ v5) K d a e dp n t := by
  obtain ⟨lt, c0, c1, c2, c3, c4, c5, fz⟩ := h
  refine ⟨by simpa using lt, ?_, ?_, ?_, ?_, ?_, ?_, fun o => by simp [fz]⟩ <;> simp [go_sem, c0, c1, c2, c3, c4, c5]
/-- A cell that is there is as it was when the world has only grown. -/
theorem cellB {w w1 : World} (hb : Below w.heap.size w w1) {p : Addr} {v : Value} (h : w.cell? p = some v) : w1.cell? p = some v :=
  (hb.cell (World.block_lt_of_cell? w p h)).trans h
theorem below1 {w : World} (o : Obj) : Below w.heap.size w (w.alloc o) := (Below.refl _ _).alloc (Nat.le_refl _) _
theorem below2 {w : World} (o o' : Obj) : Below w.heap.size w ((w.alloc o).alloc o') := ((Below.refl _ _).alloc (Nat.le_refl _) _).alloc (by simp) _
theorem below2t {w w1 : World} {o o' : Obj} (h : Below ((w.alloc o).alloc o').heap.size ((w.alloc o).alloc o') w1) : Below w.heap.size w w1 := (below2 o o').trans (h.mono (by simp; omega))
theorem below1t {w w1 : World} {o : Obj} (h : Below (w.alloc o).heap.size (w.alloc o) w1) : Below w.heap.size w w1 := (below1 o).trans (h.mono (by simp))
theorem below1dt {w w1 : World} {o : Obj} (h : Below (w.alloc o).drew.heap.size (w.alloc o).drew w1) : Below w.heap.size w w1 := (below1 o).drew.trans (h.mono (by simp))
theorem bt {a b c : World} (h : Below a.heap.size a b) (k : Below b.heap.size b c) : Below a.heap.size a c := h.trans (k.mono h.size)
end Go.Proofs.Ytdgbbfhhjhhahaa.Has
