/- A slice of strings that a call has made itself. -/
import Derived.Test.YtpgikodjfidkkaaDoorNums
import Derived.Laws.AppendOwn
import Derived.Laws.OwnMore
import Derived.WalkSmall
set_option linter.unusedSimpArgs false
set_option linter.unusedVariables false
namespace Go.Proofs.YtpgikodjfidkkaaDoor.OwnS
open Go.RowKit Nums

def OwnS (w : World) (base : Nat) (v : Value) (l : List ByteArray) : Prop := w.ownsRow base 9 1 v l.length (l.map Value.string)
theorem infoS : (Tryd.prog.info? 9).map (fun i => (i.zero, i.size, i.bytes)) = some (some (.string ByteArray.empty), 1, 16) := by kernel_rfl

section
variable {w w1 : World} {base : Nat} {v : Value} {l : List ByteArray}
theorem OwnS.same (h : OwnS w base v l) (hs : ∀ g, base ≤ g → g < w.heap.size → w1.heap[g]? = w.heap[g]?) : OwnS w1 base v l := by
  refine ⟨h.1, h.2.imp id fun ⟨g, cap, cur, h1, h2, h3, h4⟩ => ⟨g, cap, cur, h1, h2, ?_, h4⟩⟩
  rw [hs g h2 (Array.getElem?_eq_some_iff.1 h3).1]
  exact h3
theorem OwnS.below (h : OwnS w base v l) (hb : Below w.heap.size w w1) : OwnS w1 base v l := h.same fun g _ hg => hb.block g hg
theorem OwnS.drew (h : OwnS w base v l) : OwnS w.drew base v l := h.below (Below.refl _ _).drew
theorem OwnS.one (w : World) (s : ByteArray) (hb : base ≤ w.heap.size) : OwnS (w.alloc (.cells #[.string s] 9)) base (.slice (some ⟨w.heap.size, 0, none⟩) 1 1) [s] :=
  World.ownsRow_lit w #[.string s] 1 hb (by decide) rfl
theorem OwnS.lt (h : OwnS w base v l) : ∀ k, v.ownBlock = some k → base ≤ k := fun k hk => (World.ownsRow.lt h k hk).1
/-- A slice that is not empty: where it lies, and its cells. -/
theorem OwnS.at (h : OwnS w base v l) (hl : l ≠ []) : ∃ g cap, v = .slice (some ⟨g, 0, none⟩) l.length cap ∧ base ≤ g ∧ g < w.heap.size ∧ l.length ≤ cap ∧ ∀ (j : Nat) x, l[j]? = some x → w.cell? ⟨g, j, none⟩ = some (.string x) := by
  rcases h.2 with ⟨_, hn⟩ | ⟨g, cap, cur, rfl, hb, hg, hnc, hcm, hcs, htk⟩
  · exact absurd (List.length_eq_zero_iff.1 hn) hl
  · refine ⟨g, cap, rfl, hb, (Array.getElem?_eq_some_iff.1 hg).1, hnc, ?_⟩
    intro j x hx
    have hj := (List.getElem?_eq_some_iff.1 hx).1
    have := World.ownsRow.cellAt h j (by omega)
    rw [this, List.getElem?_map, hx]
    rfl
end
end Go.Proofs.YtpgikodjfidkkaaDoor.OwnS
