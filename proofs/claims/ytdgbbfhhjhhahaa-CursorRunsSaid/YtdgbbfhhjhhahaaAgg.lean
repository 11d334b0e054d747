/- Arguments that are structs of one-cell fields: cursors and limits, opened. -/
import Derived.Test.YtdgbbfhhjhhahaaHas
import Derived.Test.YtdgbbfhhjhhahaaNums
import Derived.Lib.SmallJoins
import Derived.ChangeSame
namespace Go.Proofs.Ytdgbbfhhjhhahaa.Agg
open Go.ChangeShapes Go.WideShapes Go.RowKit Go.Deep CurM

section
variable {H : Type} {enc : TypeId × Value → H} {P : Program} {w : World} {base : Nat} {spare : Nat → Bool} {held : Bool}
/-- The cells of a struct of one-cell fields, each with its reading. -/
theorem trod_flat {t : TypeId} {fs : Array Field} {fuel : Nat} {cs : List Value} {x : DataW H × List MemPlace} (hs : P.underlying t = some (.struct fs)) (hone : oneCellFields P fs = true) (hC : P.cellsOf t = fs.size)
    (h : DataW.trod enc P w base spare held fuel t cs = some x) :
    ∃ (ys : List (DataW H × List MemPlace)) (n : Nat), cs.length = fs.size ∧ ys.length = fs.size ∧ x = (.agg (ys.map (·.1)), ys.flatMap (·.2)) ∧
      ∀ (j : Nat) (f : Field) (c : Value), fs[j]? = some f → cs[j]? = some c → ∃ y, ys[j]? = some y ∧ DataW.trod enc P w base spare held n f.type [c] = some y := by
  obtain ⟨ys, n, _, hx, hl, hyl, hg⟩ := DataW.trod_struct hs h
  refine ⟨ys, n, by omega, hyl, hx, fun j f c hf hc => ?_⟩
  obtain ⟨o, k⟩ := hone_of hone j f hf
  have h1 := hg j f hf
  rw [o, k] at h1
  have hj : j < cs.length := (List.getElem?_eq_some_iff.1 hc).1
  have hjy : j < ys.length := by
    have := (Array.getElem?_eq_some_iff.1 hf).1
    omega
  have e : (cs.drop j).take 1 = [c] := by
    rw [List.drop_eq_getElem_cons hj]
    have := (List.getElem?_eq_some_iff.1 hc).2
    simp [this]
  rw [e] at h1
  exact ⟨ys[j], List.getElem?_eq_getElem hjy, h1.trans (List.getElem?_eq_getElem hjy)⟩

theorem one_int {t : TypeId} {k : IntKind} {n : Nat} {c : Value} {y : DataW H × List MemPlace} (ht : P.underlying t = some (.int k)) (h : DataW.trod enc P w base spare held n t [c] = some y) :
    ∃ a : Int, c = .int k a ∧ y = (.lit (.int k a), []) ∧ (Lit.int k a).wf = true := by
  obtain ⟨a, h1, h2, h3⟩ := DataW.trod_int ht h
  exact ⟨a, by simpa using h1, h2, h3⟩
theorem one_string {t : TypeId} {n : Nat} {c : Value} {y : DataW H × List MemPlace} (ht : P.underlying t = some .string) (h : DataW.trod enc P w base spare held n t [c] = some y) :
    ∃ s : ByteArray, c = .string s ∧ y = (.lit (.string s.data.toList), []) ∧ s.size ≤ maxLen := by
  obtain ⟨a, h1, h2, h3⟩ := DataW.trod_string ht h
  exact ⟨a, by simpa using h1, h2, h3⟩
end

section
variable {H : Type} {enc : TypeId × Value → H} {w : World} {base : Nat} {spare : Nat → Bool} {held : Bool}
/-- A cursor that is an argument. -/
theorem open_cursor {r : Reach} {b0 : Nat} {v : Value} {d : DataW H} {p : List MemPlace}
    (hv : Value.okWide Try.prog w r b0 23 v) (h : DataW.Trod enc Try.prog w base spare held 23 v d p) :
    ∃ c : Cur, v = cv c ∧ d = .agg [.lit (.string c.d.data.toList), .lit (.int .i64 c.a), .lit (.int .i64 c.e), .lit (.int .i64 c.dp), .lit (.int .i64 c.n), .lit (.int .i64 c.t)] ∧ p = [] ∧
      (c.d.size ≤ 140737488355328 → Wf c) := by
  obtain ⟨cs, rfl, hsz⟩ := okWide_struct Try.underlying23 hv
  obtain ⟨l⟩ := cs
  obtain ⟨fuel, hf⟩ := h
  obtain ⟨ys, n, hl, hyl, hx, hg⟩ := trod_flat Try.underlying23 (by kernel_rfl) (by kernel_rfl) hf
  match l, ys, hl, hyl with
  | [c0, c1, c2, c3, c4, c5], [y0, y1, y2, y3, y4, y5], _, _ =>
    obtain ⟨_, e0, t0⟩ := hg 0 _ c0 rfl rfl
    obtain ⟨_, e1, t1⟩ := hg 1 _ c1 rfl rfl
    obtain ⟨_, e2, t2⟩ := hg 2 _ c2 rfl rfl
    obtain ⟨_, e3, t3⟩ := hg 3 _ c3 rfl rfl
    obtain ⟨_, e4, t4⟩ := hg 4 _ c4 rfl rfl
    obtain ⟨_, e5, t5⟩ := hg 5 _ c5 rfl rfl
    obtain ⟨d0, rfl, rfl, w0⟩ := one_string Try.underlying9 t0
    obtain ⟨a1, rfl, rfl, w1⟩ := one_int Try.underlying3 t1
    obtain ⟨a2, rfl, rfl, w2⟩ := one_int Try.underlying3 t2
    obtain ⟨a3, rfl, rfl, w3⟩ := one_int Try.underlying3 t3
    obtain ⟨a4, rfl, rfl, w4⟩ := one_int Try.underlying3 t4
    obtain ⟨a5, rfl, rfl, w5⟩ := one_int Try.underlying3 t5
    injection e0 with e0
    injection e1 with e1
    injection e2 with e2
    injection e3 with e3
    injection e4 with e4
    injection e5 with e5
    subst e0 e1 e2 e3 e4 e5
    simp only [Prod.mk.injEq] at hx
    refine ⟨⟨d0, a1, a2, a3, a4, a5⟩, rfl, by simpa using hx.1, by simpa using hx.2, fun hd => ⟨hd, Nums.wf_i64 w1, Nums.wf_i64 w2, Nums.wf_i64 w3, Nums.wf_i64 w4, Nums.wf_i64 w5⟩⟩
/-- Limits that are an argument. -/
theorem open_limits {r : Reach} {b0 : Nat} {v : Value} {d : DataW H} {p : List MemPlace}
    (hv : Value.okWide Try.prog w r b0 39 v) (h : DataW.Trod enc Try.prog w base spare held 39 v d p) :
    ∃ a1 a2 a3 a4 : Int, v = .agg #[.int .i64 a1, .int .i64 a2, .int .i64 a3, .int .i64 a4] ∧ d = .agg [.lit (.int .i64 a1), .lit (.int .i64 a2), .lit (.int .i64 a3), .lit (.int .i64 a4)] ∧ p = [] ∧ inI a1 ∧ inI a2 ∧ inI a3 ∧ inI a4 := by
  obtain ⟨cs, rfl, hsz⟩ := okWide_struct Try.underlying39 hv
  obtain ⟨l⟩ := cs
  obtain ⟨fuel, hf⟩ := h
  obtain ⟨ys, n, hl, hyl, hx, hg⟩ := trod_flat Try.underlying39 (by kernel_rfl) (by kernel_rfl) hf
  match l, ys, hl, hyl with
  | [c1, c2, c3, c4], [y1, y2, y3, y4], _, _ =>
    obtain ⟨_, e1, t1⟩ := hg 0 _ c1 rfl rfl
    obtain ⟨_, e2, t2⟩ := hg 1 _ c2 rfl rfl
    obtain ⟨_, e3, t3⟩ := hg 2 _ c3 rfl rfl
    obtain ⟨_, e4, t4⟩ := hg 3 _ c4 rfl rfl
    obtain ⟨a1, rfl, rfl, w1⟩ := one_int Try.underlying3 t1
    obtain ⟨a2, rfl, rfl, w2⟩ := one_int Try.underlying3 t2
    obtain ⟨a3, rfl, rfl, w3⟩ := one_int Try.underlying3 t3
    obtain ⟨a4, rfl, rfl, w4⟩ := one_int Try.underlying3 t4
    injection e1 with e1
    injection e2 with e2
    injection e3 with e3
    injection e4 with e4
    subst e1 e2 e3 e4
    simp only [Prod.mk.injEq] at hx
    exact ⟨a1, a2, a3, a4, rfl, by simpa using hx.1, by simpa using hx.2, Nums.wf_i64 w1, Nums.wf_i64 w2, Nums.wf_i64 w3, Nums.wf_i64 w4⟩
end
end Go.Proofs.Ytdgbbfhhjhhahaa.Agg
