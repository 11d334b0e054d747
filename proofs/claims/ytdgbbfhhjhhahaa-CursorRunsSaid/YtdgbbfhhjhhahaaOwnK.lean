/- The slice of cursors that a law makes: pushed, read at its top, popped. -/
import Derived.Test.YtdgbbfhhjhhahaaHas
import Derived.Laws.AppendOwn
import Derived.Laws.OwnMore
namespace Go.Proofs.Ytdgbbfhhjhhahaa.OwnK
open Go.RowKit CurM Has

def fields (c : Cur) : List Value := [.string c.d, .int .i64 c.a, .int .i64 c.e, .int .i64 c.dp, .int .i64 c.n, .int .i64 c.t]
/-- The slice v holds the cursors st, the first one of st at its end. -/
def OwnK (w : World) (base : Nat) (v : Value) (st : List Cur) : Prop := w.ownsRow base 23 6 v st.length (st.reverse.flatMap fields)

/-- Six cells from an offset on. -/
structure HasO (w : World) (g o : Nat) (d : ByteArray) (a e dp n t : Int) : Prop where
  lt : g < w.heap.size
  c0 : w.cell? ⟨g, o, none⟩ = some (.string d)
  c1 : w.cell? ⟨g, o + 1, none⟩ = some (.int .i64 a)
  c2 : w.cell? ⟨g, o + 2, none⟩ = some (.int .i64 e)
  c3 : w.cell? ⟨g, o + 3, none⟩ = some (.int .i64 dp)
  c4 : w.cell? ⟨g, o + 4, none⟩ = some (.int .i64 n)
  c5 : w.cell? ⟨g, o + 5, none⟩ = some (.int .i64 t)
theorem HasO.cells {w : World} {g o : Nat} {d : ByteArray} {a e dp n t : Int} (h : HasO w g o d a e dp n t) :
    w.cell? ⟨g, o, none⟩ = some (.string d) ∧ w.cell? ⟨g, o + 1, none⟩ = some (.int .i64 a) ∧ w.cell? ⟨g, o + 2, none⟩ = some (.int .i64 e) ∧ w.cell? ⟨g, o + 3, none⟩ = some (.int .i64 dp) ∧ w.cell? ⟨g, o + 4, none⟩ = some (.int .i64 n) ∧ w.cell? ⟨g, o + 5, none⟩ = some (.int .i64 t) :=
  ⟨h.c0, h.c1, h.c2, h.c3, h.c4, h.c5⟩
theorem HasO.below {w w1 : World} {g o : Nat} {d : ByteArray} {a e dp n t : Int} (h : HasO w g o d a e dp n t) (hb : Below w.heap.size w w1) : HasO w1 g o d a e dp n t := by
  have hc : ∀ o, w1.cell? ⟨g, o, none⟩ = w.cell? ⟨g, o, none⟩ := fun o => hb.cell (p := ⟨g, o, none⟩) h.lt
  exact ⟨Nat.lt_of_lt_of_le h.lt hb.size, (hc _).trans h.c0, (hc _).trans h.c1, (hc _).trans h.c2, (hc _).trans h.c3, (hc _).trans h.c4, (hc _).trans h.c5⟩

section
variable {w w1 : World} {base : Nat} {v : Value} {st : List Cur} {c : Cur}
theorem OwnK.nil (w : World) (base : Nat) : OwnK w base (.slice none 0 0) [] := World.ownsRow_nil _ _ _ _
/-- Only blocks matter. -/
theorem OwnK.same (h : OwnK w base v st) (hs : ∀ g, base ≤ g → g < w.heap.size → w1.heap[g]? = w.heap[g]?) : OwnK w1 base v st := by
  refine ⟨h.1, h.2.imp id fun ⟨g, cap, cur, h1, h2, h3, h4⟩ => ⟨g, cap, cur, h1, h2, ?_, h4⟩⟩
  rw [hs g h2 (Array.getElem?_eq_some_iff.1 h3).1]
  exact h3
theorem OwnK.below (h : OwnK w base v st) (hb : Below w.heap.size w w1) : OwnK w1 base v st := h.same fun g _ hg => hb.block g hg
theorem OwnK.alloc (h : OwnK w base v st) (o : Obj) : OwnK (w.alloc o) base v st := h.below (below1 o)
theorem OwnK.drew (h : OwnK w base v st) : OwnK w.drew base v st := h.below (Below.refl _ _).drew
theorem OwnK.set (h : OwnK w base v st) {k : Nat} (hk : k < base) (j : Nat) (u : Value) : OwnK (w.setCell ⟨k, j, none⟩ u) base v st :=
  h.same fun g hg _ => Below.heap_setCell w _ _ g (by show g ≠ k; omega)
theorem OwnK.set6 (h : OwnK w base v st) {k : Nat} (hk : k < base) (v0 v1 v2 v3 v4 v5 : Value) :
    OwnK ((((((w.setCell ⟨k, 0, none⟩ v0).setCell ⟨k, 1, none⟩ v1).setCell ⟨k, 2, none⟩ v2).setCell ⟨k, 3, none⟩ v3).setCell ⟨k, 4, none⟩ v4).setCell ⟨k, 5, none⟩ v5) base v st :=
  (((((h.set hk _ _).set hk _ _).set hk _ _).set hk _ _).set hk _ _).set hk _ _
theorem flat_length : ∀ l : List Cur, (l.flatMap fields).length = l.length * 6
  | [] => rfl
  | c :: l => by
    rw [List.flatMap_cons, List.length_append, flat_length l]
    simp [fields]; omega
/-- The top of the slice, and the slice without it. -/
theorem OwnK.top (h : OwnK w base v (c :: st)) : ∃ g cap, v = .slice (some ⟨g, 0, none⟩) (st.length + 1) cap ∧ base ≤ g ∧ st.length + 1 ≤ cap ∧ HasO w g (st.length * 6) c.d c.a c.e c.dp c.n c.t ∧ OwnK w base (.slice (some ⟨g, 0, none⟩) st.length cap) st := by
  rcases h.2 with ⟨_, hn⟩ | ⟨g, cap, cur, rfl, hb, hg, hnc, hcm, hcs, htk⟩
  · simp at hn
  · have hflat : (c :: st).reverse.flatMap fields = st.reverse.flatMap fields ++ fields c := by simp
    have hl : (st.reverse.flatMap fields).length = st.length * 6 := by rw [flat_length, List.length_reverse]
    rw [hflat] at htk
    have hget : ∀ (j : Nat) (u : Value), (fields c)[j]? = some u → w.cell? ⟨g, st.length * 6 + j, none⟩ = some u := by
      intro j u hj
      have h6 : j < 6 := by
        have := (List.getElem?_eq_some_iff.1 hj).1
        simpa [fields] using this
      have h1 : (st.reverse.flatMap fields ++ fields c)[st.length * 6 + j]? = some u := by
        rw [List.getElem?_append_right (by omega), hl]
        simpa using hj
      rw [← htk, List.getElem?_take_of_lt (by simp only [List.length_cons]; omega)] at h1
      have h2 : cur[st.length * 6 + j]? = some u := by simpa using h1
      simp [World.cell?, hg, h2]
    refine ⟨g, cap, rfl, hb, by simpa using hnc, ⟨(Array.getElem?_eq_some_iff.1 hg).1, hget 0 _ rfl, hget 1 _ rfl, hget 2 _ rfl, hget 3 _ rfl, hget 4 _ rfl, hget 5 _ rfl⟩, ⟨hl, .inr ⟨g, cap, cur, rfl, hb, hg, by simp at hnc; omega, hcm, hcs, ?_⟩⟩⟩
    have h3 := congrArg (List.take (st.length * 6)) htk
    rw [List.take_take, List.take_left' hl] at h3
    rw [← h3]
    congr 1
    simp only [List.length_cons]
    omega
theorem OwnK.topAt {g n cap : Nat} (h : OwnK w base (.slice (some ⟨g, 0, none⟩) n cap) (c :: st)) : HasO w g (st.length * 6) c.d c.a c.e c.dp c.n c.t ∧ OwnK w base (.slice (some ⟨g, 0, none⟩) st.length cap) st := by
  obtain ⟨g', cap', hv, _, _, h1, h2⟩ := h.top
  injection hv with ha hn hc
  injection ha with ha
  injection ha with ha
  subst ha hc
  exact ⟨h1, h2⟩
theorem OwnK.len (h : OwnK w base v st) : ∃ a cap, v = .slice a st.length cap := by
  rcases h.2 with ⟨rfl, hn⟩ | ⟨g, cap, cur, rfl, _⟩
  · exact ⟨none, 0, by rw [hn]⟩
  · exact ⟨_, cap, rfl⟩
theorem OwnK.lt (h : OwnK w base v st) : ∀ k, v.ownBlock = some k → base ≤ k := fun k hk => (World.ownsRow.lt h k hk).1
theorem OwnK.ne (h : OwnK w base v st) {q : Nat} (hq : w.heap.size ≤ q) : some q ≠ v.ownBlock := fun e => by have := (World.ownsRow.lt h q e.symm).2; omega
end

theorem info : (Try.prog.info? 23).map (fun i => (i.zero, i.size, i.bytes)) = some (some (.agg #[.string ⟨#[]⟩, .int .i64 0, .int .i64 0, .int .i64 0, .int .i64 0, .int .i64 0]), 6, 56) := by kernel_rfl

/-- One cursor more: append of a new slice of one. -/
theorem wpList_push {w : World} {ops : Array Oper} {rest : List Oper} {o : Oper} {a : Act} {Q : Exit → Act → World → Prop} (hgd : o.guard = none) (s x : Operand)
    (ho : o.op = .call { callee := .builtin .append, args := #[s, x], argTypes := #[25, 25] })
    (base : Nat) (v : Value) (st : List Cur) (c : Cur) (hs : a.eval s = v) (hown : OwnK w base v st) (g cp : Nat) (hx : a.eval x = .slice (some ⟨g, 0, none⟩) 1 cp)
    (h : ∀ v' w', OwnK w' base v' (c :: st) → Below base w w' → w.grownBy w' v.ownBlock → wpList Try.prog ops Q rest (a.put o.dst v') w')
    (hc : HasC w g c.d c.a c.e c.dp c.n c.t) (hlen : st.length ≤ 1000) (hbase : base ≤ w.heap.size) : wpList Try.prog ops Q (o :: rest) a w := by
  obtain ⟨i, hi, hz, h1, h2⟩ := info_parts info
  refine wpList_append_own w hgd s x _ ho base 23 i _ 6 56 Try.underlying25 hi hz h1 h2 rfl (by omega) v st.length (st.reverse.flatMap fields) hs hown ⟨g, 0, none⟩ 1 cp (fields c) hx rfl ?_ ?_ (by unfold maxLen; omega) (by omega) hbase ?_
  · intro j u hj
    have h6 : j < 6 := by
      have := (List.getElem?_eq_some_iff.1 hj).1
      simpa [fields] using this
    match j, h6 with
    | 0, _ => simp [fields] at hj; subst hj; simpa [Addr.add] using hc.c0
    | 1, _ => simp [fields] at hj; subst hj; simpa [Addr.add] using hc.c1
    | 2, _ => simp [fields] at hj; subst hj; simpa [Addr.add] using hc.c2
    | 3, _ => simp [fields] at hj; subst hj; simpa [Addr.add] using hc.c3
    | 4, _ => simp [fields] at hj; subst hj; simpa [Addr.add] using hc.c4
    | 5, _ => simp [fields] at hj; subst hj; simpa [Addr.add] using hc.c5
  · intro u hu
    simp only [fields, List.mem_cons, List.not_mem_nil, or_false] at hu
    rcases hu with rfl | rfl | rfl | rfl | rfl | rfl <;> rfl
  · intro v' w' ho' hg _
    refine h v' w' ?_ ((Below.refl base w).grown hg hbase (OwnK.lt hown)) hg
    unfold OwnK
    simpa using ho'
end Go.Proofs.Ytdgbbfhhjhhahaa.OwnK
