/- Readings of structs and of slices opened, of no program: one-cell fields, cells of elements. -/
import Derived.Test.YtgjbpadhdnclnaaGreatDoorNums
import Derived.Lib.SmallJoins
import Derived.ChangeSame
import Derived.ChangeArms
set_option linter.unusedSimpArgs false
set_option linter.unusedVariables false
namespace Go.Proofs.YtgjbpadhdnclnaaGreatDoor.Opn
open Go.ChangeShapes Go.WideShapes Go.RowKit Go.Deep

theorem add_add (a : Addr) (i j : Nat) : (a.add i).add j = a.add (i + j) := by
  obtain ⟨b, o, s⟩ := a
  by_cases hi : i = 0
  · subst hi; simp [Addr.add]
  · by_cases hj : j = 0
    · subst hj; simp [Addr.add]
    · simp [Addr.add, hi, hj, Nat.add_assoc]
theorem add_block (a : Addr) (i : Nat) : (a.add i).block = a.block := by
  unfold Addr.add
  split <;> rfl

section
variable {H : Type} {enc : TypeId × Value → H} {P : Program} {w : World} {base : Nat} {spare : Nat → Bool} {held : Bool}
/-- The cells of a struct of one-cell fields, each with its reading. -/
theorem trod_flat {t : TypeId} {fs : Array Field} {fuel : Nat} {cs : List Value} {x : DataW H × List MemPlace} (hs : P.underlying t = some (.struct fs)) (hone : oneCellFields P fs = true) (hC : P.cellsOf t = fs.size)
    (h : DataW.trod enc P w base spare held fuel t cs = some x) :
    ∃ (ys : List (DataW H × List MemPlace)) (n : Nat), fuel = n + 1 ∧ cs.length = fs.size ∧ ys.length = fs.size ∧ x = (.agg (ys.map (·.1)), ys.flatMap (·.2)) ∧
      ∀ (j : Nat) (f : Field) (c : Value), fs[j]? = some f → cs[j]? = some c → ∃ y, ys[j]? = some y ∧ DataW.trod enc P w base spare held n f.type [c] = some y := by
  obtain ⟨ys, n, hfu, hx, hl, hyl, hg⟩ := DataW.trod_struct hs h
  refine ⟨ys, n, hfu, by omega, hyl, hx, fun j f c hf hc => ?_⟩
  obtain ⟨o, k⟩ := hone_of hone j f hf
  have h1 := hg j f hf
  rw [o, k] at h1
  have hj : j < cs.length := (List.getElem?_eq_some_iff.1 hc).1
  have hjy : j < ys.length := by
    have := (Array.getElem?_eq_some_iff.1 hf).1
    omega
  have e : (cs.drop j).take 1 = [c] := by
    rw [List.drop_eq_getElem_cons hj]
    have := (List.getElem?_eq_some_iff.1 hc).2
    simp [this]
  rw [e] at h1
  exact ⟨ys[j], List.getElem?_eq_getElem hjy, h1.trans (List.getElem?_eq_getElem hjy)⟩

theorem one_int {t : TypeId} {k : IntKind} {n : Nat} {c : Value} {y : DataW H × List MemPlace} (ht : P.underlying t = some (.int k)) (h : DataW.trod enc P w base spare held n t [c] = some y) :
    ∃ a : Int, c = .int k a ∧ y = (.lit (.int k a), []) ∧ (Lit.int k a).wf = true := by
  obtain ⟨a, h1, h2, h3⟩ := DataW.trod_int ht h
  exact ⟨a, by simpa using h1, h2, h3⟩
theorem one_string {t : TypeId} {n : Nat} {c : Value} {y : DataW H × List MemPlace} (ht : P.underlying t = some .string) (h : DataW.trod enc P w base spare held n t [c] = some y) :
    ∃ s : ByteArray, c = .string s ∧ y = (.lit (.string s.data.toList), []) ∧ s.size ≤ maxLen := by
  obtain ⟨a, h1, h2, h3⟩ := DataW.trod_string ht h
  exact ⟨a, by simpa using h1, h2, h3⟩
/-- A slice: nil, or elements of the same size each, each with its cells and its reading. -/
theorem one_row {t e : TypeId} {n size : Nat} {c : Value} {y : DataW H × List MemPlace} (ht : P.underlying t = some (.slice e)) (hz : P.cellsOf e = size) (h : DataW.trod enc P w base spare held n t [c] = some y) :
    (c = .slice none 0 0 ∧ y = (.nil, [])) ∨
    ∃ (a : Addr) (l cap : Nat) (ds rs : List (DataW H × List MemPlace)) (m : Nat), n = m + 1 ∧ c = .slice (some a) l cap ∧ y.1 = .slice (ds.map (·.1)) (rs.map (·.1)) ∧ ds.length = l ∧ l ≤ cap ∧ cap ≤ maxLen ∧ base ≤ a.block ∧
      ∀ i, i < l → ∃ cs x, cs.length = size ∧ ds[i]? = some x ∧ (∀ j u, cs[j]? = some u → w.cell? (a.add (i * size + j)) = some u) ∧ DataW.trod enc P w base spare held m e cs = some x := by
  rcases DataW.trod_slice ht h with ⟨hc, hx⟩ | ⟨a, len, cap, elems, rest, m, hn, hcs, hx, hb, hl, hm, hlen, hel, _, _⟩
  · exact .inl ⟨by simpa using hc, hx⟩
  · refine .inr ⟨a, len, cap, elems, rest, m, hn, by simpa using hcs, by rw [hx], hlen, hl, hm, hb, fun i hi => ?_⟩
    have h1 := hel i hi
    have hi' : i < elems.length := by omega
    rw [List.getElem?_eq_getElem hi', Option.bind_eq_some_iff] at h1
    obtain ⟨cs, hc1, hc2⟩ := h1
    obtain ⟨hb', hl', hg'⟩ := World.cells?_some hc1
    refine ⟨cs, elems[i], by omega, List.getElem?_eq_getElem hi', fun j u hj => ?_, hc2⟩
    have hjl : j < cs.length := (List.getElem?_eq_some_iff.1 hj).1
    have := hg' j (by omega)
    rw [← add_add, ← hz]
    rw [this, hj]
end
end Go.Proofs.YtgjbpadhdnclnaaGreatDoor.Opn
