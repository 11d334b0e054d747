/- An argument that is a slice of calls, opened. -/
import Derived.Test.YtdgbbfhhjhhahaaStk
import Derived.Test.YtdgbbfhhjhhahaaAgg
import Derived.Deep.SlicePairs
namespace Go.Proofs.Ytdgbbfhhjhhahaa.OpsA
open Go.ChangeShapes Go.WideShapes Go.RowKit Go.Deep CurM Has Nums Stk Agg

/-- The number that a value holds. -/
def numOf : Value → Int
  | .int _ z => z
  | _ => 0

section
variable {H : Type} {enc : TypeId × Value → H} {w : World} {base : Nat} {spare : Nat → Bool} {held : Bool}
theorem open_ops {r : Reach} {b0 : Nat} {v : Value} {d : DataW H} {p : List MemPlace}
    (hv : Value.okWide Try.prog w r b0 24 v) (h : DataW.Trod enc Try.prog w base spare held 24 v d p) :
    ∃ (A : Option Addr) (L cap : Nat) (K N : Nat → Int), v = .slice A L cap ∧ L ≤ 9223372036854775807 ∧ Ops w A L K N := by
  obtain ⟨a0, len0, cap0, rfl⟩ := okWide_slice Try.underlying24 hv
  obtain ⟨fuel, hf⟩ := h
  rcases open_slice_pairs Try.underlying24 Try.underlying29 (by kernel_rfl) rfl rfl (by kernel_rfl) (by kernel_rfl) hf with ⟨hc, _⟩ | ⟨a, len, cap, m, n, V0, V1, D0, D1, P0, P1, hc, hb, hl, hm, hmm, _, hx⟩
  · have hc' : Value.slice a0 len0 cap0 = .slice none 0 0 := by simpa [Value.cells] using hc
    rw [hc']
    exact ⟨none, 0, 0, fun _ => 0, fun _ => 0, rfl, by omega, ⟨fun i hi => by omega, fun i hi => by omega, fun i hi => by omega⟩⟩
  · have hc' : Value.slice a0 len0 cap0 = .slice (some a) len cap := by simpa [Value.cells] using hc
    rw [hc']
    have hlm : len ≤ m := by rw [hmm]; split <;> omega
    have hV : ∀ i, i < len → ∃ x y : Int, V0 i = .int .i64 x ∧ V1 i = .int .i64 y ∧ inI x ∧ inI y := by
      intro i hi
      obtain ⟨_, _, h0, h1⟩ := hx i (by omega)
      obtain ⟨x, hx1, _, hx2⟩ := one_int Try.underlying3 h0
      obtain ⟨y, hy1, _, hy2⟩ := one_int Try.underlying3 h1
      exact ⟨x, y, hx1, hy1, wf_i64 hx2, wf_i64 hy2⟩
    refine ⟨some a, len, cap, fun i => numOf (V0 i), fun i => numOf (V1 i), rfl, by unfold maxLen at hm; omega, ⟨fun i hi => ?_, fun i hi => ?_, fun i hi => ?_⟩⟩
    · obtain ⟨x, y, e0, e1, _, _⟩ := hV i hi
      obtain ⟨c0, c1, _, _⟩ := hx i (by omega)
      have hlt := World.block_lt_of_cell? w _ c0
      have hsp := World.cell?_spot (hx 0 (by omega)).1
      obtain ⟨b, o, sp⟩ := a
      have hsn : sp = none := by simpa [Addr.add] using hsp
      subst hsn
      rw [add_plain] at c0 c1 hlt
      refine ⟨b, o, rfl, hlt, ?_, ?_⟩
      · rw [c0, e0]; rfl
      · have e : o + (i * 2 + 1) = o + i * 2 + 1 := by omega
        rw [e] at c1
        rw [c1, e1]; rfl
    · obtain ⟨x, y, e0, _, hx0, _⟩ := hV i hi
      rw [e0]; exact hx0
    · obtain ⟨x, y, _, e1, _, hy0⟩ := hV i hi
      rw [e1]; exact hy0
end
end Go.Proofs.Ytdgbbfhhjhhahaa.OpsA
