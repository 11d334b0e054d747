/- Slices of strings that are read. -/
import Derived.Test.YtpgikodjfidkkaaDoorIdpB
set_option linter.unusedSimpArgs false
set_option linter.unusedVariables false
namespace Go.Proofs.YtpgikodjfidkkaaDoor.KnS
open Go.RowKit Nums IdnM IdnC Uld IdpA OwnS

def Kn (w : World) (v : Value) (l : List ByteArray) : Prop := ∃ a cap, v = .slice a l.length cap ∧ l.length ≤ cap ∧ ∀ (j : Nat) x, l[j]? = some x → ∃ b o, a = some ⟨b, o, none⟩ ∧ b < w.heap.size ∧ w.cell? ⟨b, o + j, none⟩ = some (.string x)
theorem Kn.below {w w1 : World} {v : Value} {l : List ByteArray} (h : Kn w v l) (hb : Below w.heap.size w w1) : Kn w1 v l := by
  obtain ⟨a, cap, rfl, hc, h⟩ := h
  refine ⟨a, cap, rfl, hc, fun j x hx => ?_⟩
  obtain ⟨b, o, rfl, hlt, hcell⟩ := h j x hx
  exact ⟨b, o, rfl, Nat.lt_of_lt_of_le hlt hb.size, (hb.cell (p := ⟨b, o + j, none⟩) hlt).trans hcell⟩
theorem Kn.of_own {w : World} {base : Nat} {v : Value} {l : List ByteArray} (h : OwnS w base v l) (hl : l ≠ []) : Kn w v l := by
  obtain ⟨g, cap, rfl, _, hlt, hc, hcell⟩ := h.at hl
  refine ⟨_, cap, rfl, hc, fun j x hx => ⟨g, 0, rfl, hlt, ?_⟩⟩
  have := hcell j x hx
  rw [Nat.zero_add]
  exact this
theorem ups_ne (s : ByteArray) : upsB s ≠ [] := by
  have := upsB_pos s
  intro e
  rw [e] at this
  simp at this
end Go.Proofs.YtpgikodjfidkkaaDoor.KnS
