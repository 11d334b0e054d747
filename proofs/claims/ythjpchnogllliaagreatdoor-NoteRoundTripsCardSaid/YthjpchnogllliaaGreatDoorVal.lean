import Derived.Test.YthjpchnogllliaaGreatDoorNums
import Derived.Lib.SmallJoins
import Derived.ChangeSame
import Derived.ChangeArms
import Derived.Test.YthjpchnogllliaaGreatDoorScaV
/- Readings of structs and of slices opened, of no program: one-cell fields, cells of elements. -/
set_option linter.unusedSimpArgs false
set_option linter.unusedVariables false
namespace Go.Proofs.YthjpchnogllliaaGreatDoor.Opn
open Go.ChangeShapes Go.WideShapes Go.RowKit Go.Deep

theorem add_add (a : Addr) (i j : Nat) : (a.add i).add j = a.add (i + j) := by
  obtain ⟨b, o, s⟩ := a
  by_cases hi : i = 0
  · subst hi; simp [Addr.add]
  · by_cases hj : j = 0
    · subst hj; simp [Addr.add]
    · simp [Addr.add, hi, hj, Nat.add_assoc]
theorem add_block (a : Addr) (i : Nat) : (a.add i).block = a.block := by
  unfold Addr.add
  split <;> rfl

section
variable {H : Type} {enc : TypeId × Value → H} {P : Program} {w : World} {base : Nat} {spare : Nat → Bool} {held : Bool}
/-- The cells of a struct of one-cell fields, each with its reading. -/
theorem trod_flat {t : TypeId} {fs : Array Field} {fuel : Nat} {cs : List Value} {x : DataW H × List MemPlace} (hs : P.underlying t = some (.struct fs)) (hone : oneCellFields P fs = true) (hC : P.cellsOf t = fs.size)
    (h : DataW.trod enc P w base spare held fuel t cs = some x) :
    ∃ (ys : List (DataW H × List MemPlace)) (n : Nat), fuel = n + 1 ∧ cs.length = fs.size ∧ ys.length = fs.size ∧ x = (.agg (ys.map (·.1)), ys.flatMap (·.2)) ∧
      ∀ (j : Nat) (f : Field) (c : Value), fs[j]? = some f → cs[j]? = some c → ∃ y, ys[j]? = some y ∧ DataW.trod enc P w base spare held n f.type [c] = some y := by
  obtain ⟨ys, n, hfu, hx, hl, hyl, hg⟩ := DataW.trod_struct hs h
  refine ⟨ys, n, hfu, by omega, hyl, hx, fun j f c hf hc => ?_⟩
  obtain ⟨o, k⟩ := hone_of hone j f hf
  have h1 := hg j f hf
  rw [o, k] at h1
  have hj : j < cs.length := (List.getElem?_eq_some_iff.1 hc).1
  have hjy : j < ys.length := by
    have := (Array.getElem?_eq_some_iff.1 hf).1
    omega
  have e : (cs.drop j).take 1 = [c] := by
    rw [List.drop_eq_getElem_cons hj]
    have := (List.getElem?_eq_some_iff.1 hc).2
    simp [this]
  rw [e] at h1
  exact ⟨ys[j], List.getElem?_eq_getElem hjy, h1.trans (List.getElem?_eq_getElem hjy)⟩

theorem one_int {t : TypeId} {k : IntKind} {n : Nat} {c : Value} {y : DataW H × List MemPlace} (ht : P.underlying t = some (.int k)) (h : DataW.trod enc P w base spare held n t [c] = some y) :
    ∃ a : Int, c = .int k a ∧ y = (.lit (.int k a), []) ∧ (Lit.int k a).wf = true := by
  obtain ⟨a, h1, h2, h3⟩ := DataW.trod_int ht h
  exact ⟨a, by simpa using h1, h2, h3⟩
theorem one_string {t : TypeId} {n : Nat} {c : Value} {y : DataW H × List MemPlace} (ht : P.underlying t = some .string) (h : DataW.trod enc P w base spare held n t [c] = some y) :
    ∃ s : ByteArray, c = .string s ∧ y = (.lit (.string s.data.toList), []) ∧ s.size ≤ maxLen := by
  obtain ⟨a, h1, h2, h3⟩ := DataW.trod_string ht h
  exact ⟨a, by simpa using h1, h2, h3⟩
/-- A slice: nil, or elements of the same size each, each with its cells and its reading. -/
theorem one_row {t e : TypeId} {n size : Nat} {c : Value} {y : DataW H × List MemPlace} (ht : P.underlying t = some (.slice e)) (hz : P.cellsOf e = size) (h : DataW.trod enc P w base spare held n t [c] = some y) :
    (c = .slice none 0 0 ∧ y = (.nil, [])) ∨
    ∃ (a : Addr) (l cap : Nat) (ds rs : List (DataW H × List MemPlace)) (m : Nat), n = m + 1 ∧ c = .slice (some a) l cap ∧ y.1 = .slice (ds.map (·.1)) (rs.map (·.1)) ∧ ds.length = l ∧ l ≤ cap ∧ cap ≤ maxLen ∧ base ≤ a.block ∧
      ∀ i, i < l → ∃ cs x, cs.length = size ∧ ds[i]? = some x ∧ (∀ j u, cs[j]? = some u → w.cell? (a.add (i * size + j)) = some u) ∧ DataW.trod enc P w base spare held m e cs = some x := by
  rcases DataW.trod_slice ht h with ⟨hc, hx⟩ | ⟨a, len, cap, elems, rest, m, hn, hcs, hx, hb, hl, hm, hlen, hel, _, _⟩
  · exact .inl ⟨by simpa using hc, hx⟩
  · refine .inr ⟨a, len, cap, elems, rest, m, hn, by simpa using hcs, by rw [hx], hlen, hl, hm, hb, fun i hi => ?_⟩
    have h1 := hel i hi
    have hi' : i < elems.length := by omega
    rw [List.getElem?_eq_getElem hi', Option.bind_eq_some_iff] at h1
    obtain ⟨cs, hc1, hc2⟩ := h1
    obtain ⟨hb', hl', hg'⟩ := World.cells?_some hc1
    refine ⟨cs, elems[i], by omega, List.getElem?_eq_getElem hi', fun j u hj => ?_, hc2⟩
    have hjl : j < cs.length := (List.getElem?_eq_some_iff.1 hj).1
    have := hg' j (by omega)
    rw [← add_add, ← hz]
    rw [this, hj]
end
end Go.Proofs.YthjpchnogllliaaGreatDoor.Opn

/- Values of the type Value in memory, to their depth; an argument of that type, opened. -/
set_option linter.unusedSimpArgs false
set_option linter.unusedVariables false
namespace Go.Proofs.YthjpchnogllliaaGreatDoor.Val
open Go.ChangeShapes Go.WideShapes Go.RowKit Nums Byt UtfM UtfS ScaM ScaV Opn

def cellsV (v : SV) : List Value := [.int .i64 v.k, .int .u64 v.b, .string v.t, .slice v.a1 v.l1 v.c1, .slice v.a2 v.l2 v.c2, .slice v.a3 v.l3 v.c3, .slice v.a4 v.l4 v.c4]
theorem vv_cells (v : SV) : vv v = .agg (cellsV v).toArray := rfl
structure Okv (v : SV) : Prop where
  k : -9223372036854775808 ≤ v.k ∧ v.k ≤ 9223372036854775807
  b : v.b ≤ 18446744073709551615
  t : v.t.size ≤ 140737488351232
  l1 : v.l1 * 128 ≤ 140737488351232
  l2 : v.l2 * 256 ≤ 140737488351232
  l3 : v.l3 * 136 ≤ 140737488351232
  l4 : v.l4 * 40 ≤ 140737488351232
theorem Okv.sum {v : SV} (h : Okv v) : v.l1 + v.l2 + v.l3 + v.l4 ≤ 9223372036854775807 := by
  have := h.l1; have := h.l2; have := h.l3; have := h.l4
  omega
theorem Okv.ts {v : SV} (h : Okv v) : v.t.size ≤ 140737488355328 := by have := h.t; omega

/-- A slice of elements of some cells each, in blocks of S: the cells of each element are as P says. -/
structure Row (w : World) (S : Nat → Prop) (size : Nat) (a : Option Addr) (l c : Nat) (P : List Value → Prop) : Prop where
  nil : a = none → l = 0 ∧ c = 0
  at_ : ∀ ad, a = some ad → l ≤ c ∧ (l ≠ 0 → S ad.block) ∧ ∀ i, i < l → ∃ cs, cs.length = size ∧ P cs ∧ ∀ j u, cs[j]? = some u → w.cell? (ad.add (i * size + j)) = some u
theorem Row.mono {w w' : World} {S S' : Nat → Prop} {size : Nat} {a : Option Addr} {l c : Nat} {P P' : List Value → Prop} (h : Row w S size a l c P) (hS : ∀ b, S b → S' b) (hw : ∀ b, S b → w'.heap[b]? = w.heap[b]?) (hP : ∀ cs, P cs → P' cs) :
    Row w' S' size a l c P' := by
  refine ⟨h.nil, fun ad ha => ?_⟩
  obtain ⟨h0, h1, h2⟩ := h.at_ ad ha
  refine ⟨h0, fun hl => hS _ (h1 hl), fun i hi => ?_⟩
  obtain ⟨cs, hc, hp, hg⟩ := h2 i hi
  refine ⟨cs, hc, hP _ hp, fun j u hj => ?_⟩
  rw [← hg j u hj]
  exact World.cell?_of_block (w := w) (a := ad.add (i * size + j)) (by rw [add_block]; exact hw _ (h1 (by omega)))

def rawC (cs : List Value) : Prop := ∃ (n i : Int) (b : Nat) (s : ByteArray), cs = [.int .i64 n, .int .i64 i, .int .u64 b, .string s]
/-- A value whose parts lie in blocks of S, at most so deep. -/
def Tree (w : World) (S : Nat → Prop) : Nat → SV → Prop
  | 0, _ => False
  | n + 1, v => Okv v ∧ Row w S 7 v.a1 v.l1 v.c1 (fun cs => ∃ u, cs = cellsV u ∧ Tree w S n u) ∧ Row w S 14 v.a2 v.l2 v.c2 (fun cs => ∃ u u', cs = cellsV u ++ cellsV u' ∧ Tree w S n u ∧ Tree w S n u') ∧
      Row w S 8 v.a3 v.l3 v.c3 (fun cs => ∃ (m : Int) (u : SV), cs = .int .i64 m :: cellsV u ∧ Tree w S n u) ∧ Row w S 4 v.a4 v.l4 v.c4 rawC
theorem Tree.ok {w : World} {S : Nat → Prop} : ∀ {n : Nat} {v : SV}, Tree w S n v → Okv v
  | 0, _, h => h.elim
  | n + 1, _, h => h.1
theorem Tree.mono {w w' : World} {S S' : Nat → Prop} (hS : ∀ b, S b → S' b) (hw : ∀ b, S b → w'.heap[b]? = w.heap[b]?) : ∀ {n : Nat} {v : SV}, Tree w S n v → Tree w' S' n v
  | 0, _, h => h.elim
  | n + 1, v, ⟨h0, h1, h2, h3, h4⟩ =>
    ⟨h0, h1.mono hS hw (fun cs ⟨u, e, k⟩ => ⟨u, e, Tree.mono hS hw k⟩), h2.mono hS hw (fun cs ⟨u, u', e, k, k'⟩ => ⟨u, u', e, Tree.mono hS hw k, Tree.mono hS hw k'⟩),
      h3.mono hS hw (fun cs ⟨m, u, e, k⟩ => ⟨m, u, e, Tree.mono hS hw k⟩), h4.mono hS hw (fun _ h => h)⟩
theorem Tree.up {w : World} {S : Nat → Prop} : ∀ {n : Nat} {v : SV}, Tree w S n v → Tree w S (n + 1) v
  | 0, _, h => h.elim
  | n + 1, v, ⟨h0, h1, h2, h3, h4⟩ =>
    ⟨h0, h1.mono (fun _ h => h) (fun _ _ => rfl) (fun cs ⟨u, e, k⟩ => ⟨u, e, Tree.up k⟩), h2.mono (fun _ h => h) (fun _ _ => rfl) (fun cs ⟨u, u', e, k, k'⟩ => ⟨u, u', e, Tree.up k, Tree.up k'⟩),
      h3.mono (fun _ h => h) (fun _ _ => rfl) (fun cs ⟨m, u, e, k⟩ => ⟨m, u, e, Tree.up k⟩), h4⟩
theorem Tree.ups {w : World} {S : Nat → Prop} {v : SV} : ∀ {k n : Nat}, n ≤ k → Tree w S n v → Tree w S k v
  | 0, n, h, t => by
    have : n = 0 := by omega
    subst this; exact t
  | k + 1, n, h, t => by
    by_cases e : n = k + 1
    · subst e; exact t
    · exact (Tree.ups (k := k) (by omega) t).up

section
variable {H : Type} {enc : TypeId × Value → H} {w : World}
theorem sizes : Tryz.prog.bytesOf 42 = 128 ∧ Tryz.prog.bytesOf 209 = 256 ∧ Tryz.prog.bytesOf 211 = 136 ∧ Tryz.prog.bytesOf 213 = 40 := ⟨by kernel_rfl, by kernel_rfl, by kernel_rfl, by kernel_rfl⟩
theorem c7 : Tryz.prog.cellsOf 42 = 7 := by kernel_rfl
theorem c1' : Tryz.prog.cellsOf 3 = 1 := by kernel_rfl
/-- Readings of slices' weights. -/
theorem weights_slice {t e : TypeId} {d : DataW H} {es rs : List (DataW H)} (ht : Tryz.prog.underlying t = some (.slice e)) (hd : d = .slice es rs) (h : (d.weights Tryz.prog t).all (· ≤ reachBytes) = true) :
    es.length * Tryz.prog.bytesOf e ≤ reachBytes ∧ ∀ (i : Nat) x, es[i]? = some x → (x.weights Tryz.prog e).all (· ≤ reachBytes) = true := by
  subst hd
  unfold DataW.weights at h
  rw [ht] at h
  simp only [List.all_cons, List.all_append, Bool.and_eq_true, decide_eq_true_eq] at h
  obtain ⟨h1, h2, _⟩ := h
  refine ⟨Nat.le_trans (Nat.mul_le_mul_right _ (Nat.le_add_right _ _)) h1, ?_⟩
  clear h1
  induction es with
  | nil => intro i x hx; simp at hx
  | cons y ys ih =>
    unfold DataW.weightsAll at h2
    rw [List.all_append, Bool.and_eq_true] at h2
    intro i x hx
    cases i with
    | zero => simp at hx; subst hx; exact h2.1
    | succ i => exact ih h2.2 i x (by simpa using hx)

theorem row_of {t e : TypeId} {size bytes n : Nat} {spare : Nat → Bool} {held : Bool} (ht : Tryz.prog.underlying t = some (.slice e)) (hz : Tryz.prog.cellsOf e = size) (hb : Tryz.prog.bytesOf e = bytes) (h0 : 0 < size) {c : Value} {y : DataW H × List MemPlace}
    (h : DataW.trod enc Tryz.prog w 0 spare held n t [c] = some y) (hw : (y.1.weights Tryz.prog t).all (· ≤ reachBytes) = true) {P : List Value → Prop}
    (hP : ∀ m cs x, n = m + 1 → DataW.trod enc Tryz.prog w 0 spare held m e cs = some x → (x.1.weights Tryz.prog e).all (· ≤ reachBytes) = true → P cs) :
    ∃ a l cap, c = .slice a l cap ∧ l * bytes ≤ reachBytes ∧ Row w (· < w.heap.size) size a l cap P := by
  rcases one_row ht hz h with ⟨rfl, _⟩ | ⟨a, l, cap, ds, rs, m, hn, rfl, hy, hd, hlc, hm, _, hx⟩
  · exact ⟨none, 0, 0, rfl, by omega, ⟨fun _ => ⟨rfl, rfl⟩, (fun ad ha => by cases ha)⟩⟩
  · obtain ⟨w1, w2⟩ := weights_slice ht hy hw
    rw [List.length_map, hb, hd] at w1
    refine ⟨some a, l, cap, rfl, w1, ⟨(fun ha => by cases ha), fun ad ha => ?_⟩⟩
    injection ha with ha
    subst ha
    refine ⟨hlc, fun hl => ?_, fun i hi => ?_⟩
    · obtain ⟨cs, x, hcs, _, hg, _⟩ := hx 0 (by omega)
      have hc : cs[0]? = some cs[0] := List.getElem?_eq_getElem (by omega)
      have := World.block_lt_of_cell? w _ (hg 0 _ hc)
      rw [add_block] at this
      exact this
    · obtain ⟨cs, x, hcs, hxi, hg, htr⟩ := hx i hi
      exact ⟨cs, hcs, hP m cs x hn htr (w2 i x.1 (by rw [List.getElem?_map, hxi]; rfl)), hg⟩

set_option maxRecDepth 100000 in
set_option maxHeartbeats 1000000 in
theorem tree_of {spare : Nat → Bool} {held : Bool} : ∀ (fuel : Nat) (cs : List Value) (x : DataW H × List MemPlace), DataW.trod enc Tryz.prog w 0 spare held fuel 42 cs = some x →
    (x.1.weights Tryz.prog 42).all (· ≤ reachBytes) = true → ∃ a : SV, cs = cellsV a ∧ Tree w (· < w.heap.size) fuel a := by
  intro fuel
  induction fuel using Nat.strongRecOn with
  | ind fuel ih =>
    intro cs x h hw
    obtain ⟨ys, n, hf, hl, hyl, hx, hg⟩ := trod_flat Tryz.underlying42 (by kernel_rfl) (by kernel_rfl) h
    match cs, ys, hl, hyl with
    | [c0, c1, c2, c3, c4, c5, c6], [y0, y1, y2, y3, y4, y5, y6], _, _ =>
      obtain ⟨_, e0, t0⟩ := hg 0 _ c0 rfl rfl
      obtain ⟨_, e1, t1⟩ := hg 1 _ c1 rfl rfl
      obtain ⟨_, e2, t2⟩ := hg 2 _ c2 rfl rfl
      obtain ⟨_, e3, t3⟩ := hg 3 _ c3 rfl rfl
      obtain ⟨_, e4, t4⟩ := hg 4 _ c4 rfl rfl
      obtain ⟨_, e5, t5⟩ := hg 5 _ c5 rfl rfl
      obtain ⟨_, e6, t6⟩ := hg 6 _ c6 rfl rfl
      clear hg h
      injection e0 with e0
      injection e1 with e1
      injection e2 with e2
      injection e3 with e3
      injection e4 with e4
      injection e5 with e5
      injection e6 with e6
      subst e0 e1 e2 e3 e4 e5 e6
      subst hx
      obtain ⟨k, rfl, hy0, w0⟩ := one_int Tryz.underlying3 t0
      obtain ⟨b', rfl, hy1, w1⟩ := one_int Tryz.underlying36 t1
      obtain ⟨s, rfl, hy2, w2⟩ := one_string Tryz.underlying9 t2
      obtain ⟨b, rfl, hb⟩ := wf_u64 w1
      simp only [List.map_cons, List.map_nil, DataW.weights, Tryz.underlying42, DataW.weightsEach, List.all_append, Bool.and_eq_true, List.all_nil, hy2, List.all_cons, decide_eq_true_eq] at hw
      obtain ⟨_, _, ⟨hs, _⟩, hw3, hw4, hw5, hw6, _⟩ := hw
      have IH : ∀ m cs x, n = m + 1 → DataW.trod enc Tryz.prog w 0 spare held m 42 cs = some x → (x.1.weights Tryz.prog 42).all (· ≤ reachBytes) = true → ∃ a : SV, cs = cellsV a ∧ Tree w (· < w.heap.size) n a := by
        intro m cs x hm h1 h2
        obtain ⟨a, ha, ht⟩ := ih m (by omega) cs x h1 h2
        exact ⟨a, ha, ht.ups (by omega)⟩
      obtain ⟨a1, l1, p1, rfl, z1, r1⟩ := row_of (size := 7) (bytes := 128) (P := fun cs => ∃ u, cs = cellsV u ∧ Tree w (· < w.heap.size) n u) Tryz.underlying37 (by kernel_rfl) sizes.1 (by decide) t3 hw3 IH
      obtain ⟨a2, l2, p2, rfl, z2, r2⟩ := row_of (size := 14) (bytes := 256) (P := fun cs => ∃ u u', cs = cellsV u ++ cellsV u' ∧ Tree w (· < w.heap.size) n u ∧ Tree w (· < w.heap.size) n u') Tryz.underlying38 (by kernel_rfl) sizes.2.1 (by decide) t4 hw4 (by
        intro m cs x hm h1 h2
        obtain ⟨xs, n', hn', rfl, hl', hxl, hg⟩ := DataW.trod_struct Tryz.underlying209 h1
        match xs, hxl with
        | [x0, x1], _ =>
          have g0 : DataW.trod enc Tryz.prog w 0 spare held n' 42 ((cs.drop 0).take (Tryz.prog.cellsOf 42)) = some x0 := hg 0 _ rfl
          have g1 : DataW.trod enc Tryz.prog w 0 spare held n' 42 ((cs.drop 7).take (Tryz.prog.cellsOf 42)) = some x1 := hg 1 _ rfl
          rw [c7] at g0 g1
          rw [List.drop_zero] at g0
          have hl14 : cs.length = 14 := hl'.trans (by kernel_rfl)
          simp only [List.map_cons, List.map_nil, DataW.weights, Tryz.underlying209, DataW.weightsEach, List.all_append, Bool.and_eq_true, List.all_nil] at h2
          obtain ⟨v0, v1, _⟩ := h2
          obtain ⟨u, hu, hut⟩ := ih n' (by omega) _ _ g0 v0
          obtain ⟨u', hu', hut'⟩ := ih n' (by omega) _ _ g1 v1
          refine ⟨u, u', ?_, hut.ups (by omega), hut'.ups (by omega)⟩
          rw [← hu, ← hu', List.take_of_length_le (l := cs.drop 7) (by rw [List.length_drop]; omega), List.take_append_drop])
      obtain ⟨a3, l3, p3, rfl, z3, r3⟩ := row_of (size := 8) (bytes := 136) (P := fun cs => ∃ (m : Int) (u : SV), cs = .int .i64 m :: cellsV u ∧ Tree w (· < w.heap.size) n u) Tryz.underlying39 (by kernel_rfl) sizes.2.2.1 (by decide) t5 hw5 (by
        intro m cs x hm h1 h2
        obtain ⟨xs, n', hn', rfl, hl', hxl, hg⟩ := DataW.trod_struct Tryz.underlying211 h1
        match xs, hxl with
        | [x0, x1], _ =>
          have g0 : DataW.trod enc Tryz.prog w 0 spare held n' 3 ((cs.drop 0).take (Tryz.prog.cellsOf 3)) = some x0 := hg 0 _ rfl
          have g1 : DataW.trod enc Tryz.prog w 0 spare held n' 42 ((cs.drop 1).take (Tryz.prog.cellsOf 42)) = some x1 := hg 1 _ rfl
          rw [c1'] at g0
          rw [c7] at g1
          have hl8 : cs.length = 8 := hl'.trans (by kernel_rfl)
          simp only [List.map_cons, List.map_nil, DataW.weights, Tryz.underlying211, DataW.weightsEach, List.all_append, Bool.and_eq_true, List.all_nil] at h2
          obtain ⟨_, v1, _⟩ := h2
          obtain ⟨q, qs, rfl⟩ : ∃ q qs, cs = q :: qs := by
            cases cs with
            | nil => simp at hl8
            | cons q qs => exact ⟨q, qs, rfl⟩
          simp only [List.drop_zero, List.take_succ_cons, List.take_zero, List.drop_succ_cons] at g0 g1
          obtain ⟨mm, rfl, _, _⟩ := one_int Tryz.underlying3 g0
          obtain ⟨u', hu', hut'⟩ := ih n' (by omega) _ _ g1 v1
          refine ⟨mm, u', ?_, hut'.ups (by omega)⟩
          rw [← hu', List.take_of_length_le (l := qs) (by simp at hl8; omega)])
      obtain ⟨a4, l4, p4, rfl, z4, r4⟩ := row_of (size := 4) (bytes := 40) (P := rawC) Tryz.underlying40 (by kernel_rfl) sizes.2.2.2 (by decide) t6 hw6 (by
        intro m cs x hm h1 h2
        obtain ⟨ys, n', hf', hl', hyl', hx', hg⟩ := trod_flat Tryz.underlying213 (by kernel_rfl) (by kernel_rfl) h1
        match cs, ys, hl', hyl' with
        | [q0, q1, q2, q3], [z0, z1, z2, z3], _, _ =>
          obtain ⟨_, _, u0⟩ := hg 0 _ q0 rfl rfl
          obtain ⟨_, _, u1⟩ := hg 1 _ q1 rfl rfl
          obtain ⟨_, _, u2⟩ := hg 2 _ q2 rfl rfl
          obtain ⟨_, _, u3⟩ := hg 3 _ q3 rfl rfl
          obtain ⟨i0, rfl, _, _⟩ := one_int Tryz.underlying3 u0
          obtain ⟨i1, rfl, _, _⟩ := one_int Tryz.underlying3 u1
          obtain ⟨i2, rfl, _, wb⟩ := one_int Tryz.underlying36 u2
          obtain ⟨i3, rfl, _, _⟩ := one_string Tryz.underlying9 u3
          obtain ⟨bb, rfl, _⟩ := wf_u64 wb
          exact ⟨i0, i1, bb, i3, rfl⟩)
      have hs' : s.size ≤ 140737488351232 := hs
      refine ⟨⟨k, b, s, a1, l1, p1, a2, l2, p2, a3, l3, p3, a4, l4, p4⟩, rfl, ?_⟩
      subst hf
      exact ⟨⟨wf_i64 w0, hb, hs', z1, z2, z3, z4⟩, r1, r2, r3, r4⟩

set_option maxRecDepth 100000 in
/-- An argument of the type Value. -/
theorem open_value {r : Reach} {b0 : Nat} {v : Value} {d : DataW H} {p : List MemPlace}
    (hv : Value.okWide Tryz.prog w r b0 42 v) (h : DataW.Trod enc Tryz.prog w 0 (fun _ => true) true 42 v d p) (hw : (d.weights Tryz.prog 42).all (· ≤ reachBytes) = true) :
    ∃ (a : SV) (n : Nat), v = vv a ∧ Tree w (· < w.heap.size) n a := by
  obtain ⟨cs, rfl, hsz⟩ := okWide_struct Tryz.underlying42 hv
  obtain ⟨l⟩ := cs
  obtain ⟨fuel, hf⟩ := h
  obtain ⟨a, ha, ht⟩ := tree_of fuel _ _ hf hw
  refine ⟨a, fuel, ?_, ht⟩
  have hl : l = cellsV a := ha
  rw [vv_cells, hl]
end
end Go.Proofs.YthjpchnogllliaaGreatDoor.Val
