/- A slice of annotations that a call has made itself. -/
import Derived.Test.YthjpchnogllliaaDoorNotK
import Derived.Laws.AppendOwn
import Derived.Laws.OwnMore
set_option linter.unusedSimpArgs false
set_option linter.unusedVariables false
namespace Go.Proofs.YthjpchnogllliaaDoor.OwnN
open Go.RowKit Nums ScaM ScaV Val NotM NotK

def OwnN (w : World) (base : Nat) (v : Value) (l : List Mn) : Prop := w.ownsRow base 42 8 v l.length (l.flatMap fields)
theorem infoN : (Tryd.prog.info? 42).map (fun i => (i.zero, i.size, i.bytes)) = some (some (.agg #[.string ByteArray.empty, .int .i64 0, .int .u64 0, .string ByteArray.empty, .slice none 0 0, .slice none 0 0, .slice none 0 0, .slice none 0 0]), 8, 144) := by kernel_rfl
theorem fields_len (m : Mn) : (fields m).length = 8 := rfl
theorem flat_at : ∀ (l : List Mn) (j q : Nat) (m : Mn), l[j]? = some m → q < 8 → (l.flatMap fields)[j * 8 + q]? = (fields m)[q]?
  | [], j, q, m, h, _ => by simp at h
  | c :: l, 0, q, m, h, hq => by
    simp at h
    subst h
    rw [List.flatMap_cons, List.getElem?_append_left (by rw [fields_len]; omega), Nat.zero_mul, Nat.zero_add]
  | c :: l, j + 1, q, m, h, hq => by
    rw [List.flatMap_cons, List.getElem?_append_right (by rw [fields_len]; omega)]
    rw [fields_len, show (j + 1) * 8 + q - 8 = j * 8 + q by omega]
    exact flat_at l j q m (by simpa using h) hq
theorem flat_len : ∀ l : List Mn, (l.flatMap fields).length = l.length * 8
  | [] => rfl
  | c :: l => by
    rw [List.flatMap_cons, List.length_append, flat_len l, fields_len]
    simp only [List.length_cons]
    omega
section
variable {w w1 : World} {base : Nat} {v : Value} {l : List Mn}
theorem OwnN.nil (w : World) (base : Nat) : OwnN w base (.slice none 0 0) [] := World.ownsRow_nil _ _ _ _
theorem OwnN.below (h : OwnN w base v l) (hb : Below w.heap.size w w1) : OwnN w1 base v l := by
  refine ⟨h.1, h.2.imp id fun ⟨g, cap, cur, h1, h2, h3, h4⟩ => ⟨g, cap, cur, h1, h2, ?_, h4⟩⟩
  rw [hb.block g (Array.getElem?_eq_some_iff.1 h3).1]
  exact h3
theorem OwnN.lt (h : OwnN w base v l) : ∀ k, v.ownBlock = some k → base ≤ k ∧ k < w.heap.size := World.ownsRow.lt h
theorem OwnN.known (h : OwnN w base v l) : KnN w v l := by
  rcases h.2 with ⟨rfl, hn⟩ | ⟨g, cap, cur, rfl, hb, hg, hnc, hcm, hcs, htk⟩
  · have : l = [] := List.length_eq_zero_iff.1 hn
    subst this
    exact known_nil w
  · refine ⟨_, cap, rfl, hnc, fun j m hm => ⟨g, 0, rfl, (Array.getElem?_eq_some_iff.1 hg).1, ?_⟩⟩
    have hj := (List.getElem?_eq_some_iff.1 hm).1
    refine C8.of fun q u hq => ?_
    have hq8 : q < 8 := by
      have := (List.getElem?_eq_some_iff.1 hq).1
      rw [fields_len] at this
      exact this
    rw [Nat.zero_add, World.ownsRow.cellAt h (j * 8 + q) (by omega), flat_at l j q m hm hq8]
    exact hq
theorem fields_flat (m : Mn) : ∀ u ∈ fields m, u.oneCell' = true := by
  intro u hu
  simp only [fields, cellsV, List.mem_cons, List.not_mem_nil, or_false] at hu
  rcases hu with rfl | rfl | rfl | rfl | rfl | rfl | rfl | rfl <;> rfl
/-- The cells of a block that has just been made for one annotation. -/
theorem new_cells (w : World) (m : Mn) (T : TypeId) (k : Nat) (hk : k = w.heap.size) : ∀ (j : Nat) u, (fields m)[j]? = some u → (w.alloc (.cells (fields m).toArray T)).cell? ((⟨k, 0, none⟩ : Addr).add j) = some u := by
  intro j u hj
  subst hk
  have hadd : (⟨w.heap.size, 0, none⟩ : Addr).add j = ⟨w.heap.size, j, none⟩ := by
    unfold Addr.add
    split
    · rename_i h; rw [h]
    · simp
  rw [hadd, World.cell?_alloc_at _ _ _ _ rfl]
  simpa using hj
end
end Go.Proofs.YthjpchnogllliaaDoor.OwnN
