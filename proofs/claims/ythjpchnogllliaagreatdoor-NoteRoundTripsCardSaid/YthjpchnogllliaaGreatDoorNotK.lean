/- Annotations in memory: eight cells each; a slice of them that is read; a box that holds one. -/
import Derived.Test.YthjpchnogllliaaGreatDoorNotM
import Derived.Test.YthjpchnogllliaaGreatDoorVal
set_option linter.unusedSimpArgs false
set_option linter.unusedVariables false
namespace Go.Proofs.YthjpchnogllliaaGreatDoor.NotK
open Go.RowKit Nums ScaM ScaV Val NotM

/-- An annotation as it lies in memory. -/
structure Mn where
  nm : ByteArray
  v : SV
def nn (m : Mn) : Value := .agg #[.string m.nm, .int .i64 m.v.k, .int .u64 m.v.b, .string m.v.t, .slice m.v.a1 m.v.l1 m.v.c1, .slice m.v.a2 m.v.l2 m.v.c2, .slice m.v.a3 m.v.l3 m.v.c3, .slice m.v.a4 m.v.l4 m.v.c4]
def Mn.nt (m : Mn) : Nt := ⟨m.nm.data.toList, sc m.v⟩
def Mn.ok (m : Mn) : Prop := m.nm.size ≤ 140737488351232 ∧ Okv m.v
def fields (m : Mn) : List Value := .string m.nm :: cellsV m.v
/-- The eight cells from a place on. -/
structure C8 (w : World) (b o : Nat) (m : Mn) : Prop where
  c0 : w.cell? ⟨b, o, none⟩ = some (.string m.nm)
  c1 : w.cell? ⟨b, o + 1, none⟩ = some (.int .i64 m.v.k)
  c2 : w.cell? ⟨b, o + 2, none⟩ = some (.int .u64 m.v.b)
  c3 : w.cell? ⟨b, o + 3, none⟩ = some (.string m.v.t)
  c4 : w.cell? ⟨b, o + 4, none⟩ = some (.slice m.v.a1 m.v.l1 m.v.c1)
  c5 : w.cell? ⟨b, o + 5, none⟩ = some (.slice m.v.a2 m.v.l2 m.v.c2)
  c6 : w.cell? ⟨b, o + 6, none⟩ = some (.slice m.v.a3 m.v.l3 m.v.c3)
  c7 : w.cell? ⟨b, o + 7, none⟩ = some (.slice m.v.a4 m.v.l4 m.v.c4)
theorem C8.below {w w1 : World} {b o : Nat} {m : Mn} {B : Nat} (h : C8 w b o m) (hb : Below B w w1) (hlt : b < B) : C8 w1 b o m := by
  have hc : ∀ q, w1.cell? ⟨b, q, none⟩ = w.cell? ⟨b, q, none⟩ := fun q => hb.cell (p := ⟨b, q, none⟩) hlt
  exact ⟨(hc _).trans h.c0, (hc _).trans h.c1, (hc _).trans h.c2, (hc _).trans h.c3, (hc _).trans h.c4, (hc _).trans h.c5, (hc _).trans h.c6, (hc _).trans h.c7⟩
theorem C8.of {w : World} {b o : Nat} {m : Mn} (h : ∀ q u, (fields m)[q]? = some u → w.cell? ⟨b, o + q, none⟩ = some u) : C8 w b o m :=
  ⟨h 0 _ rfl, h 1 _ rfl, h 2 _ rfl, h 3 _ rfl, h 4 _ rfl, h 5 _ rfl, h 6 _ rfl, h 7 _ rfl⟩
theorem C8.get {w : World} {b o : Nat} {m : Mn} (h : C8 w b o m) : ∀ q u, (fields m)[q]? = some u → w.cell? ⟨b, o + q, none⟩ = some u := by
  intro q u hq
  match q, hq with
  | 0, hq => cases hq; exact h.c0
  | 1, hq => cases hq; exact h.c1
  | 2, hq => cases hq; exact h.c2
  | 3, hq => cases hq; exact h.c3
  | 4, hq => cases hq; exact h.c4
  | 5, hq => cases hq; exact h.c5
  | 6, hq => cases hq; exact h.c6
  | 7, hq => cases hq; exact h.c7
  | q + 8, hq => simp [fields, cellsV] at hq
/-- A slice of annotations that is read. -/
def KnN (w : World) (v : Value) (l : List Mn) : Prop := ∃ a cap, v = .slice a l.length cap ∧ l.length ≤ cap ∧ ∀ (j : Nat) m, l[j]? = some m → ∃ b o, a = some ⟨b, o, none⟩ ∧ b < w.heap.size ∧ C8 w b (o + j * 8) m
theorem KnN.below {w w1 : World} {v : Value} {l : List Mn} (h : KnN w v l) (hb : Below w.heap.size w w1) : KnN w1 v l := by
  obtain ⟨a, cap, rfl, hc, h⟩ := h
  refine ⟨a, cap, rfl, hc, fun j m hm => ?_⟩
  obtain ⟨b, o, rfl, hlt, h8⟩ := h j m hm
  exact ⟨b, o, rfl, Nat.lt_of_lt_of_le hlt hb.size, h8.below hb hlt⟩
theorem known_nil (w : World) : KnN w (.slice none 0 0) [] := ⟨none, 0, rfl, Nat.le_refl _, fun j m hm => by simp at hm⟩
/-- A box that holds an annotation. -/
theorem box8 (w : World) (m : Mn) (T : TypeId) : C8 (w.alloc (.cells (fields m).toArray T)) w.heap.size 0 m := by
  refine C8.of fun q u hq => ?_
  rw [Nat.zero_add, World.cell?_alloc_at _ _ _ _ rfl]
  simpa using hq
end Go.Proofs.YthjpchnogllliaaGreatDoor.NotK
