/- The cells of a slice as one list; slices of the call's own, element by element. -/
import Derived.Test.YtgjbpadhdnclnaaGreatDoorVal
import Derived.Test.YtgjbpadhdnclnaaGreatDoorBox
import Derived.Laws.AppendOwn
import Derived.Laws.OwnMore
set_option linter.unusedSimpArgs false
set_option linter.unusedVariables false
namespace Go.Proofs.YtgjbpadhdnclnaaGreatDoor.CloM
open Go.RowKit Nums Byt UtfM UtfS ScaM ScaV Opn Val Box

/-- The cells of elements, one after the other, each element's as P says. -/
def Parts (size l : Nat) (P : Nat → List Value → Prop) (news : List Value) : Prop :=
  news.length = l * size ∧ ∀ i, i < l → ∃ cs, cs.length = size ∧ P i cs ∧ ∀ j, j < size → news[i * size + j]? = cs[j]?
theorem parts_of {w : World} {ad : Addr} {size : Nat} {P : List Value → Prop} : ∀ (l : Nat), (∀ i, i < l → ∃ cs, cs.length = size ∧ P cs ∧ ∀ j u, cs[j]? = some u → w.cell? (ad.add (i * size + j)) = some u) →
    ∃ news, Parts size l (fun _ => P) news ∧ ∀ j u, news[j]? = some u → w.cell? (ad.add j) = some u
  | 0, _ => ⟨[], ⟨by simp, fun i hi => by omega⟩, fun j u h => by simp at h⟩
  | l + 1, h => by
    obtain ⟨news, ⟨hl, hp⟩, hc⟩ := parts_of l (fun i hi => h i (by omega))
    obtain ⟨cs, h1, h2, h3⟩ := h l (by omega)
    refine ⟨news ++ cs, ⟨by rw [List.length_append, hl, h1, Nat.succ_mul], fun i hi => ?_⟩, fun j u hj => ?_⟩
    · by_cases he : i = l
      · subst he
        refine ⟨cs, h1, h2, fun j hj => ?_⟩
        rw [List.getElem?_append_right (by omega), hl]
        congr 1; omega
      · obtain ⟨cs', k1, k2, k3⟩ := hp i (by omega)
        refine ⟨cs', k1, k2, fun j hj => ?_⟩
        have : i * size + j < l * size := by
          have : (i + 1) * size ≤ l * size := Nat.mul_le_mul_right _ (by omega)
          rw [Nat.succ_mul] at this; omega
        rw [List.getElem?_append_left (by omega)]
        exact k3 j hj
    · by_cases hlt : j < l * size
      · rw [List.getElem?_append_left (by omega)] at hj
        exact hc j u hj
      · rw [List.getElem?_append_right (by omega), hl] at hj
        have := h3 (j - l * size) u hj
        have e : l * size + (j - l * size) = j := by omega
        rwa [e] at this
theorem Parts.one {size l : Nat} {P : Nat → List Value → Prop} {news : List Value} (h : Parts size l P news) (h0 : 0 < size) (hP : ∀ i cs, P i cs → ∀ u ∈ cs, u.oneCell' = true) : ∀ u ∈ news, u.oneCell' = true := by
  intro u hu
  obtain ⟨k, hk⟩ := List.getElem?_of_mem hu
  have hlt : k < l * size := by rw [← h.1]; exact (List.getElem?_eq_some_iff.1 hk).1
  have hi : k / size < l := (Nat.div_lt_iff_lt_mul h0).2 hlt
  obtain ⟨cs, h1, h2, h3⟩ := h.2 _ hi
  have e : k / size * size + k % size = k := Nat.div_add_mod' k size
  have h4 := h3 (k % size) (Nat.mod_lt _ h0)
  rw [e, hk] at h4
  exact hP _ cs h2 u (List.mem_of_getElem? h4.symm)
theorem oneV (u : SV) : ∀ x ∈ cellsV u, x.oneCell' = true := by
  intro x hx
  simp only [cellsV, List.mem_cons, List.not_mem_nil, or_false] at hx
  rcases hx with rfl | rfl | rfl | rfl | rfl | rfl | rfl <;> rfl
theorem oneR {cs : List Value} (h : rawC cs) : ∀ x ∈ cs, x.oneCell' = true := by
  obtain ⟨n, i, b, s, rfl⟩ := h
  intro x hx
  simp only [List.mem_cons, List.not_mem_nil, or_false] at hx
  rcases hx with rfl | rfl | rfl | rfl <;> rfl
end Go.Proofs.YtgjbpadhdnclnaaGreatDoor.CloM
