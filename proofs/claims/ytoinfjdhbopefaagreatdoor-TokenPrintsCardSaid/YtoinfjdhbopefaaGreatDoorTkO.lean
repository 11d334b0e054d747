import Derived.Test.YtoinfjdhbopefaaGreatDoorTkrG
import Derived.Deep.Slices
import Derived.Deep.Fields
import Derived.Lib.SmallJoins
import Derived.ChangeSame
import Derived.OpenShut
import Derived.JoinedCond
/- A slice of tokens among the arguments, opened. -/
set_option linter.unusedSimpArgs false
set_option linter.unusedVariables false
namespace Go.Proofs.YtoinfjdhbopefaaGreatDoor.TkO
open Go.ChangeShapes Go.WideShapes Go.ChangeAt Go.RowKit Go.Deep
open TkrF

section
variable {H : Type} {enc : TypeId × Value → H} {P : Program} {w : World} {base : Nat} {spare : Nat → Bool} {held : Bool}
/-- The cells of a struct of one-cell fields, each with its reading. -/
theorem trod_flat {t : TypeId} {fs : Array Field} {fuel : Nat} {cs : List Value} {x : DataW H × List MemPlace} (hs : P.underlying t = some (.struct fs)) (hone : oneCellFields P fs = true) (hC : P.cellsOf t = fs.size)
    (h : DataW.trod enc P w base spare held fuel t cs = some x) :
    ∃ (ys : List (DataW H × List MemPlace)) (n : Nat), cs.length = fs.size ∧ ys.length = fs.size ∧ x = (.agg (ys.map (·.1)), ys.flatMap (·.2)) ∧
      ∀ (j : Nat) (f : Field) (c : Value), fs[j]? = some f → cs[j]? = some c → ∃ y, ys[j]? = some y ∧ DataW.trod enc P w base spare held n f.type [c] = some y := by
  obtain ⟨ys, n, _, hx, hl, hyl, hg⟩ := DataW.trod_struct hs h
  refine ⟨ys, n, by omega, hyl, hx, fun j f c hf hc => ?_⟩
  obtain ⟨o, k⟩ := hone_of hone j f hf
  have h1 := hg j f hf
  rw [o, k] at h1
  have hj : j < cs.length := (List.getElem?_eq_some_iff.1 hc).1
  have hjy : j < ys.length := by
    have := (Array.getElem?_eq_some_iff.1 hf).1
    omega
  have e : (cs.drop j).take 1 = [c] := by
    rw [List.drop_eq_getElem_cons hj]
    have := (List.getElem?_eq_some_iff.1 hc).2
    simp [this]
  rw [e] at h1
  exact ⟨ys[j], List.getElem?_eq_getElem hjy, h1.trans (List.getElem?_eq_getElem hjy)⟩
theorem one_int {t : TypeId} {k : IntKind} {n : Nat} {c : Value} {y : DataW H × List MemPlace} (ht : P.underlying t = some (.int k)) (h : DataW.trod enc P w base spare held n t [c] = some y) :
    ∃ a : Int, c = .int k a ∧ y = (.lit (.int k a), []) ∧ (Lit.int k a).wf = true := by
  obtain ⟨a, h1, h2, h3⟩ := DataW.trod_int ht h
  exact ⟨a, by simpa using h1, h2, h3⟩
theorem one_string {t : TypeId} {n : Nat} {c : Value} {y : DataW H × List MemPlace} (ht : P.underlying t = some .string) (h : DataW.trod enc P w base spare held n t [c] = some y) :
    ∃ s : ByteArray, c = .string s ∧ y = (.lit (.string s.data.toList), []) ∧ s.size ≤ maxLen := by
  obtain ⟨a, h1, h2, h3⟩ := DataW.trod_string ht h
  exact ⟨a, by simpa using h1, h2, h3⟩
end

instance : Inhabited Mt := ⟨⟨0, ⟨#[]⟩, 0, 0⟩⟩
set_option maxRecDepth 100000 in
theorem open_tokens {H : Type} {enc : TypeId × Value → H} {w : World} {base : Nat} {spare : Nat → Bool} {held : Bool} {r : Reach} {b0 : Nat} {v : Value} {d : DataW H} {p : List MemPlace}
    (hv : Value.okWide Tryz.prog w r b0 23 v) (h : DataW.Trod enc Tryz.prog w base spare held 23 v d p) :
    ∃ l : List Mt, KnT w v l ∧ (l.length ≤ 9223372036854775807 ∧ ∀ m ∈ l, m.rng) := by
  obtain ⟨a0, len0, cap0, rfl⟩ := okWide_slice Tryz.underlying23 hv
  obtain ⟨fuel, hf⟩ := h
  rcases open_slice Tryz.underlying23 hf with ⟨hc, _⟩ | ⟨a, len, cap, m, n, D, Pl, hc, hb, hl, hm, hmm, _, hx⟩
  · have hc' : Value.slice a0 len0 cap0 = .slice none 0 0 := by simpa [Value.cells] using hc
    rw [hc']
    exact ⟨[], ⟨none, 0, rfl, Nat.le_refl _, fun j x hx => by simp at hx⟩, by simp, by simp⟩
  · have hc' : Value.slice a0 len0 cap0 = .slice (some a) len cap := by simpa [Value.cells] using hc
    rw [hc']
    have hlm : len ≤ m := by rw [hmm]; split <;> omega
    have each : ∀ i, i < len → ∃ q : Mt, q.rng ∧ w.cell? ((a.add (i * 4)).add 0) = some (.int .i64 q.kd) ∧ w.cell? ((a.add (i * 4)).add 1) = some (.string q.t) ∧ w.cell? ((a.add (i * 4)).add 2) = some (.int .i64 q.nu) ∧ w.cell? ((a.add (i * 4)).add 3) = some (.int .i64 q.ln) := by
      intro i hi
      obtain ⟨cs', h1, h2⟩ := hx i (by omega)
      rw [show Tryz.prog.cellsOf 35 = 4 by kernel_rfl] at h1
      obtain ⟨_, hlen, hcell⟩ := World.cells?_some h1
      obtain ⟨ys, n', hl', hyl, _, hg⟩ := trod_flat Tryz.underlying35 (by kernel_rfl) (by kernel_rfl) h2
      match cs', ys, hl', hyl with
      | [c0, c1, c2, c3], [y0, y1, y2, y3], _, _ =>
        obtain ⟨_, _, t0⟩ := hg 0 _ c0 rfl rfl
        obtain ⟨_, _, t1⟩ := hg 1 _ c1 rfl rfl
        obtain ⟨_, _, t2⟩ := hg 2 _ c2 rfl rfl
        obtain ⟨_, _, t3⟩ := hg 3 _ c3 rfl rfl
        obtain ⟨a0, rfl, _, w0⟩ := one_int Tryz.underlying3 t0
        obtain ⟨d1, rfl, _, w1⟩ := one_string Tryz.underlying9 t1
        obtain ⟨a2, rfl, _, w2⟩ := one_int Tryz.underlying3 t2
        obtain ⟨a3, rfl, _, w3⟩ := one_int Tryz.underlying3 t3
        have e0 := hcell 0 (by omega)
        have e1 := hcell 1 (by omega)
        have e2 := hcell 2 (by omega)
        have e3 := hcell 3 (by omega)
        exact ⟨⟨a0, d1, a2, a3⟩, ⟨by unfold maxLen at w1; exact w1, Nums.wf_i64 w0, Nums.wf_i64 w2, Nums.wf_i64 w3⟩, by simpa using e0, by simpa using e1, by simpa using e2, by simpa using e3⟩
    obtain ⟨q, hq⟩ := choose_lt each
    have hll : ((List.range len).map q).length = len := by simp
    refine ⟨(List.range len).map q, ⟨some a, cap, by rw [hll], by rw [hll]; exact hl, fun j x hx => ?_⟩, by rw [hll]; unfold maxLen at hm; omega, fun x hx => ?_⟩
    · obtain ⟨hj, hjx⟩ := List.getElem?_eq_some_iff.1 hx
      rw [hll] at hj
      rw [List.getElem_map, List.getElem_range] at hjx
      subst hjx
      obtain ⟨_, c0, c1, c2, c3⟩ := hq j hj
      have hsp := World.cell?_spot (hq 0 (by omega)).2.1
      obtain ⟨b, o, sp⟩ := a
      have hsn : sp = none := by simpa [Addr.add] using hsp
      subst hsn
      rw [add_plain, add_plain] at c0 c1 c2 c3
      exact ⟨b, o, rfl, World.block_lt_of_cell? w _ c0, c0, c1, c2, c3⟩
    · obtain ⟨i, hi, rfl⟩ := List.mem_map.1 hx
      exact (hq i (List.mem_range.1 hi)).1
end Go.Proofs.YtoinfjdhbopefaaGreatDoor.TkO
