/- A slice of strings among the arguments, opened. -/
import Derived.Test.YtpgikodjfidkkaaDoorKnS
import Derived.SliceStrings
import Derived.OpenShut
import Derived.JoinedCond
set_option linter.unusedSimpArgs false
set_option linter.unusedVariables false
namespace Go.Proofs.YtpgikodjfidkkaaDoor.KnO
open Go.ChangeShapes Go.WideShapes Go.ChangeAt Go.RowKit
open KnS

theorem open_known {H : Type} {enc : TypeId × Value → H} {w : World} {base : Nat} {spare : Nat → Bool} {held : Bool} {r : Reach} {b0 : Nat} {v : Value} {d : DataW H} {p : List MemPlace}
    (hv : Value.okWide Tryd.prog w r b0 28 v) (h : DataW.Trod enc Tryd.prog w base spare held 28 v d p) :
    ∃ ks : List ByteArray, Kn w v ks ∧ ∀ x ∈ ks, x.size ≤ 9223372036854775807 := by
  obtain ⟨a0, len0, cap0, rfl⟩ := okWide_slice Tryd.underlying28 hv
  obtain ⟨fuel, hf⟩ := h
  rcases open_strings Tryd.underlying28 Tryd.underlying9 (by kernel_rfl) hf with ⟨hc, _⟩ | ⟨a, len, cap, ss, hc, _, hl, hm, hz, _, hcell, hsz⟩
  · have hc' : Value.slice a0 len0 cap0 = .slice none 0 0 := by simpa [Value.cells] using hc
    rw [hc']
    exact ⟨[], ⟨none, 0, rfl, Nat.le_refl _, fun j x hx => by simp at hx⟩, by simp⟩
  · have hc' : Value.slice a0 len0 cap0 = .slice (some a) len cap := by simpa [Value.cells] using hc
    rw [hc']
    have hlm : len ≤ ss.length := by rw [hz]; split <;> omega
    have htl : (ss.take len).length = len := by rw [List.length_take]; omega
    refine ⟨ss.take len, ⟨some a, cap, by rw [htl], by rw [htl]; exact hl, fun j x hx => ?_⟩, fun x hx => by
      have := hsz x (List.mem_of_mem_take hx)
      unfold maxLen at this
      omega⟩
    have hj : j < len := by
      have := (List.getElem?_eq_some_iff.1 hx).1
      omega
    have hc0 := hcell j (by omega)
    have hx2 : ss[j]? = some x := by rw [List.getElem?_take_of_lt hj] at hx; exact hx
    have hsp := World.cell?_spot (hcell 0 (by omega))
    obtain ⟨b, o, sp⟩ := a
    have hsn : sp = none := by simpa [Addr.add] using hsp
    subst hsn
    rw [add_plain] at hc0
    refine ⟨b, o, rfl, World.block_lt_of_cell? w _ hc0, ?_⟩
    rw [hc0, List.getD_eq_getElem?_getD, hx2]
    rfl
end Go.Proofs.YtpgikodjfidkkaaDoor.KnO
