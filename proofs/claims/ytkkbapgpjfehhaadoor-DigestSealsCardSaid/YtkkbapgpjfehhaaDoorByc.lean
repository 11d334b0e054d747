/- Slices of bytes that the call has made, said of cells: with append, stores, conversions from and to strings. Of no program. -/
import Derived.Test.YtkkbapgpjfehhaaDoorByt
import Derived.ArgAppend
import Derived.Lib.ConvBytes
namespace Go.Proofs.YtkkbapgpjfehhaaDoor.Byc
open Go.RowKit Byt

/-- The slice v belongs to the call (its block is base or later), can be written, and holds the bytes l. -/
def OwnC (w : World) (base : Nat) (v : Value) (l : List UInt8) : Prop :=
  (v = .slice none 0 0 ∧ l = []) ∨
  ∃ g cap, v = .slice (some ⟨g, 0, none⟩) l.length cap ∧ base ≤ g ∧ g < w.heap.size ∧ l.length ≤ cap ∧ cap ≤ maxLen ∧
    (∀ i, i < l.length → w.cell? ⟨g, i, none⟩ = some (bv (l.getD i 0))) ∧ (∀ i, i < cap → (w.cell? ⟨g, i, none⟩).isSome = true ∧ w.frozen? ⟨g, i, none⟩ = false)

theorem OwnC.nil (w : World) (base : Nat) : OwnC w base (.slice none 0 0) [] := .inl ⟨rfl, rfl⟩

theorem OwnC.ofB {w : World} {base : Nat} {e : TypeId} {v : Value} {l : List UInt8} (h : OwnB w base e v l) : OwnC w base v l := by
  rcases h.2 with ⟨rfl, hn⟩ | ⟨g, cap, cur, rfl, hb, hg, hc, hm, hsz, htk⟩
  · exact .inl ⟨rfl, List.eq_nil_of_length_eq_zero hn⟩
  · refine .inr ⟨g, cap, rfl, hb, (Array.getElem?_eq_some_iff.1 hg).1, hc, hm, ?_, ?_⟩
    · intro i hi
      have h1 : (l.map bv)[i]? = some (bv l[i]) := by simp [hi]
      have h2 := h.cells (g := g) rfl i _ h1
      have hadd : (⟨g, 0, none⟩ : Addr).add i = ⟨g, i, none⟩ := by unfold Addr.add; split <;> simp_all
      rw [hadd] at h2
      rw [h2]
      simp [List.getD, hi]
    · intro i hi
      have hi' : i < cur.size := by omega
      simp [World.cell?, World.frozen?, hg, hi']

theorem OwnC.kept {w w' : World} {base : Nat} {v : Value} {l : List UInt8} (h : OwnC w base v l) (hs : w.heap.size ≤ w'.heap.size) (hb : ∀ k, base ≤ k → k < w.heap.size → w'.heap[k]? = w.heap[k]?) : OwnC w' base v l := by
  rcases h with h | ⟨g, cap, rfl, h1, h2, h3, h4, h5, h6⟩
  · exact .inl h
  · have e := hb g h1 h2
    refine .inr ⟨g, cap, rfl, h1, Nat.lt_of_lt_of_le h2 hs, h3, h4, fun i hi => ?_, fun i hi => ?_⟩
    · rw [World.cell?_of_block (w := w) (by exact e)]; exact h5 i hi
    · rw [World.cell?_of_block (w := w) (by exact e), World.frozen?_of_block (w := w) (by exact e)]; exact h6 i hi
theorem OwnC.alloc {w : World} {base : Nat} {v : Value} {l : List UInt8} (h : OwnC w base v l) (o : Obj) : OwnC (w.alloc o) base v l :=
  h.kept (by simp) (fun k _ hk => Below.heap_alloc w o k hk)
theorem OwnC.below {w w' : World} {base : Nat} {v : Value} {l : List UInt8} (h : OwnC w base v l) (hb : Below w.heap.size w w') : OwnC w' base v l :=
  h.kept hb.size (fun k _ hk => hb.block k hk)
theorem OwnC.drew {w : World} {base : Nat} {v : Value} {l : List UInt8} (h : OwnC w base v l) : OwnC w.drew base v l := h
theorem OwnC.base {w : World} {base b : Nat} {v : Value} {l : List UInt8} (h : OwnC w base v l) (hb : b ≤ base) : OwnC w b v l := by
  rcases h with h | ⟨g, cap, rfl, h1, h2⟩
  · exact .inl h
  · exact .inr ⟨g, cap, rfl, by omega, h2⟩
theorem OwnC.len {w : World} {base : Nat} {v : Value} {l : List UInt8} (h : OwnC w base v l) : ∃ a cap, v = .slice a l.length cap := by
  rcases h with ⟨rfl, rfl⟩ | ⟨g, cap, rfl, _⟩
  · exact ⟨none, 0, rfl⟩
  · exact ⟨_, cap, rfl⟩

/-- What is known of such a slice, its parts named. -/
theorem OwnC.parts {w : World} {base g n cap : Nat} {l : List UInt8} (h : OwnC w base (.slice (some ⟨g, 0, none⟩) n cap) l) :
    n = l.length ∧ base ≤ g ∧ g < w.heap.size ∧ n ≤ cap ∧ cap ≤ maxLen ∧ (∀ i, i < l.length → w.cell? ⟨g, i, none⟩ = some (bv (l.getD i 0))) ∧
    (∀ i, i < cap → (w.cell? ⟨g, i, none⟩).isSome = true ∧ w.frozen? ⟨g, i, none⟩ = false) := by
  rcases h with ⟨h, _⟩ | ⟨g', cap', h, h1, h2, h3, h4, h5, h6⟩
  · cases h
  · injection h with ha hn hc
    injection ha with ha
    injection ha with ha
    subst ha
    subst hc
    exact ⟨hn, h1, h2, hn ▸ h3, h4, h5, h6⟩
theorem OwnC.mk {w : World} {base g n cap : Nat} {l : List UInt8} (hn : n = l.length) (h1 : base ≤ g) (h2 : g < w.heap.size) (h3 : n ≤ cap) (h4 : cap ≤ maxLen)
    (h5 : ∀ i, i < l.length → w.cell? ⟨g, i, none⟩ = some (bv (l.getD i 0))) (h6 : ∀ i, i < cap → (w.cell? ⟨g, i, none⟩).isSome = true ∧ w.frozen? ⟨g, i, none⟩ = false) :
    OwnC w base (.slice (some ⟨g, 0, none⟩) n cap) l := by
  subst hn
  exact .inr ⟨g, cap, rfl, h1, h2, h3, h4, h5, h6⟩
/-- A byte of it, and that it can be written. -/
theorem OwnC.cell {w : World} {base g n cap : Nat} {l : List UInt8} (h : OwnC w base (.slice (some ⟨g, 0, none⟩) n cap) l) {i : Nat} (hi : i < n) : w.cell? ⟨g, i, none⟩ = some (.int .u8 ((l.getD i 0).toNat : Int)) := by
  obtain ⟨hn, _, _, _, _, h5, _⟩ := h.parts
  exact h5 i (by omega)
theorem OwnC.frozen {w : World} {base g n cap : Nat} {l : List UInt8} (h : OwnC w base (.slice (some ⟨g, 0, none⟩) n cap) l) {i : Nat} (hi : i < n) : w.frozen? ⟨g, i, none⟩ = false := by
  obtain ⟨_, _, _, h3, _, _, h6⟩ := h.parts
  exact (h6 i (by omega)).2

/-- A store into such a slice. -/
theorem OwnC.set {w : World} {base g n cap : Nat} {l : List UInt8} (h : OwnC w base (.slice (some ⟨g, 0, none⟩) n cap) l) {j : Nat} (hj : j < n) (c : UInt8) {x : Int} (hx : x = (c.toNat : Int)) :
    OwnC (w.setCell ⟨g, j, none⟩ (.int .u8 x)) base (.slice (some ⟨g, 0, none⟩) n cap) (l.set j c) := by
  obtain ⟨hn, h1, h2, h3, h4, h5, h6⟩ := h.parts
  refine OwnC.mk (by rw [List.length_set]; exact hn) h1 (by simpa using h2) h3 h4 (fun i hi => ?_) (fun i hi => ?_)
  · rw [List.length_set] at hi
    by_cases e : i = j
    · subst e
      rw [World.cell?_setCell_same _ _ _ (h5 i hi)]
      simp [List.getD, hi, bv, hx]
    · rw [World.cell?_setCell_other _ _ _ _ (by intro e2; injection e2 with _ e3; exact e e3.symm), h5 i hi]
      simp [List.getD, Ne.symm e]
  · rw [World.frozen?_setCell]
    refine ⟨?_, (h6 i hi).2⟩
    by_cases e : i = j
    · subst e
      rw [World.cell?_setCell_same _ _ _ (h5 i (by omega))]; rfl
    · rw [World.cell?_setCell_other _ _ _ _ (by intro e2; injection e2 with _ e3; exact e e3.symm)]; exact (h6 i hi).1

section
variable {P : Program}

theorem wpList_append_byte {w : World} {ops : Array Oper} {rest : List Oper} {o : Oper} {a : Act} {Q : Exit → Act → World → Prop} (hgd : o.guard = none) (s x : Operand) {t e : TypeId} (T : ByteTy P t e)
    (ho : o.op = .call { callee := .builtin .append, args := #[s, x], argTypes := #[t, t] })
    (base : Nat) (v : Value) (l : List UInt8) (hs : a.eval s = v) (hown : OwnC w base v l)
    (g c : Nat) (n : Int) (b : UInt8) (hx : a.eval x = .slice (some ⟨g, 0, none⟩) 1 c)
    (h : ∀ v' w', OwnC w' base v' (l ++ [b]) → Below base w w' → wpList P ops Q rest (a.put o.dst v') w')
    (hcell : w.cell? ⟨g, 0, none⟩ = some (.int .u8 n)) (hn : n = (b.toNat : Int))
    (hlen : l.length + 1 ≤ 140737488355328) (hbase : base ≤ w.heap.size) : wpList P ops Q (o :: rest) a w := by
  obtain ⟨i, hi, hz, hi1, hi2⟩ := T.hi
  have hnews : ∀ j u, [bv b][j]? = some u → w.cell? ((⟨g, 0, none⟩ : Addr).add j) = some u := by
    intro j u hj
    cases j with
    | zero =>
      simp only [List.getElem?_cons_zero, Option.some.injEq] at hj
      subst hj
      rw [bv, ← hn]
      simpa [Addr.add] using hcell
    | succ j => simp at hj
  have hone : ∀ u ∈ [bv b], u.oneCell' = true := by
    intro u hu
    simp only [List.mem_singleton] at hu
    subst hu
    rfl
  rcases hown with ⟨rfl, rfl⟩ | ⟨gv, cap, rfl, h1, h2, h3, h4, h5, h6⟩
  · refine wpList_append_own w hgd s x t ho base e i (.int .u8 0) 1 1 T.ht hi hz hi1 hi2 rfl (by omega) _ 0 [] hs (World.ownsRow_nil _ _ _ _) ⟨g, 0, none⟩ 1 c [bv b] hx rfl hnews hone (by unfold maxLen; omega) (by omega) hbase ?_
    intro v' w' ho' hg' _
    refine h v' w' (OwnC.ofB (e := e) (by unfold OwnB; simpa using ho')) ((Below.refl base w).grown hg' hbase ?_)
    intro k hk
    simp [Value.ownBlock] at hk
  · refine wpList_append_arg w hgd s x t ho e i (.int .u8 0) 1 1 T.ht hi hz hi1 hi2 rfl (by omega) gv 0 l.length cap (l.map bv) hs (by simp) ?_ ⟨g, 0, none⟩ 1 c [bv b] hx rfl hnews hone ?_ (by unfold maxLen; omega) (by omega) ?_ ?_
    · intro j u hj
      have hjl : j < l.length := by
        rcases Nat.lt_or_ge j l.length with hh | hh
        · exact hh
        · simp [List.getElem?_eq_none hh] at hj
      simp only [List.getElem?_map, List.getElem?_eq_getElem hjl, Option.map_some, Option.some.injEq] at hj
      rw [Nat.zero_add, h5 j hjl, ← hj]
      simp [List.getD, hjl]
    · intro hr j hj
      simp only [List.length_singleton] at hj
      have := h6 (l.length + j) (by omega)
      simpa using this
    · intro hr
      have e1 : 0 + l.length * 1 = l.length := by omega
      rw [e1]
      have hset : w.setCells gv l.length [bv b] = w.setCell ⟨gv, l.length, none⟩ (bv b) := rfl
      rw [hset]
      have hsome := (h6 l.length (by omega)).1
      obtain ⟨u0, hu0⟩ := Option.isSome_iff_exists.1 hsome
      refine h _ _ (.inr ⟨gv, cap, by simp, h1, by simpa using h2, by simp; omega, h4, fun i hi => ?_, fun i hi => ?_⟩) ((Below.refl base w).setCell h1 _)
      · simp only [List.length_append, List.length_singleton] at hi
        by_cases ei : i = l.length
        · subst ei
          rw [World.cell?_setCell_same _ _ _ hu0]
          simp [List.getD]
        · rw [World.cell?_setCell_other _ _ _ _ (by intro e2; injection e2 with _ e3; exact ei e3.symm), h5 i (by omega), getD_app (by omega)]
      · rw [World.frozen?_setCell]
        refine ⟨?_, (h6 i hi).2⟩
        by_cases ei : i = l.length
        · subst ei
          rw [World.cell?_setCell_same _ _ _ hu0]; rfl
        · rw [World.cell?_setCell_other _ _ _ _ (by intro e2; injection e2 with _ e3; exact ei e3.symm)]; exact (h6 i hi).1
    · intro _ v' w' ho' hg'
      refine h v' w' (OwnC.base (OwnC.ofB (e := e) (base := w.heap.size) (by unfold OwnB; simpa using ho')) hbase) ((Below.refl base w).grown hg' hbase (fun k hk => by cases hk))

/-- The string of such a slice, or of a part from its head. -/
theorem OwnC.conv {w : World} {base : Nat} {t e : TypeId} {v : Value} {l : List UInt8} (h : OwnC w base v l) (T : ByteTy P t e) {d : TypeId} (hd : P.underlying d = some .string) :
    (convert t d v).run P w = .ok (.string ⟨l.toArray⟩) w := by
  rcases h with ⟨rfl, rfl⟩ | ⟨g, cap, rfl, _, _, _, _, h5, _⟩
  · rw [run_convert_bytes_nil w t e T.ht T.he 0 0 d hd]
    rfl
  · exact conv_cells T hd g l.length cap l rfl h5
theorem OwnC.conv_part {w : World} {base g n m cap cap' : Nat} {t e : TypeId} {l : List UInt8} (h : OwnC w base (.slice (some ⟨g, 0, none⟩) m cap) l) (T : ByteTy P t e) {d : TypeId} (hd : P.underlying d = some .string) (hn : n ≤ m) :
    (convert t d (.slice (some ⟨g, 0, none⟩) n cap')).run P w = .ok (.string ⟨(l.take n).toArray⟩) w := by
  obtain ⟨hm, _, _, _, _, h5, _⟩ := h.parts
  refine conv_cells T hd g n cap' (l.take n) (by rw [List.length_take]; omega) (fun i hi => ?_)
  rw [List.length_take] at hi
  rw [h5 i (by omega)]
  simp [List.getD, show i < n by omega]

/-- Bytes made of a string: a new slice of the call's own. -/
theorem conv_bytes (w : World) {t e : TypeId} (T : ByteTy P t e) {d : TypeId} (hd : P.underlying d = some .string) (l : List UInt8) (n : Nat) (hn : n = l.length) (hs : n ≤ maxLen) :
    ∃ cap W', (convert d t (.string ⟨l.toArray⟩)).run P w = .ok (.slice (some ⟨w.heap.size, 0, none⟩) n cap) W' ∧ OwnC W' w.heap.size (.slice (some ⟨w.heap.size, 0, none⟩) n cap) l ∧ Below w.heap.size w W' := by
  have hsz : (⟨l.toArray⟩ : ByteArray).size = n := by rw [hn]; simp [ByteArray.size]
  generalize hs' : (⟨l.toArray⟩ : ByteArray) = s at *
  have hl : s.data.toList = l := by rw [← hs']
  have hcs : (Lib.bytesCells w e s).size = max s.size (grownCap w s.size 0 e) := by simp [Lib.bytesCells]; omega
  have hge := grownCap_ge w s.size 0 e
  have hcm := grownCap_le_maxLen w s.size 0 e (by omega)
  have hnew := Lib.bytesWorld_at_new w e s
  refine ⟨grownCap w s.size 0 e, Lib.bytesWorld w e s, ?_, OwnC.mk hn (Nat.le_refl _) (by rw [Lib.bytesWorld_size]; omega) (by omega) hcm (fun i hi => ?_) (fun i hi => ?_), ?_⟩
  · rw [← hsz]; exact Lib.run_convert_string_bytes w d t e s hd T.ht T.he
  · rw [Lib.bytesWorld_cell w e s i (by omega), hl]
    rfl
  · have hi' : i < (Lib.bytesCells w e s).size := by rw [hcs]; omega
    constructor
    · simp [World.cell?, hnew, hi']
    · simp [World.frozen?, hnew]; omega
  · exact ⟨rfl, rfl, rfl, by rw [Lib.bytesWorld_size]; omega, fun k hk => Lib.bytesWorld_at_old w e s k hk⟩
end
end Go.Proofs.YtkkbapgpjfehhaaDoor.Byc
