import Derived.Test.YthjpchnogllliaaGreatDoorBytT
import Derived.OwnWalk
/- Slices of bytes of the call's own that grow by several bytes at once: within their capacity nothing is asked of their length. Of no program. -/
set_option linter.unusedSimpArgs false
set_option linter.unusedVariables false
namespace Go.Proofs.YthjpchnogllliaaGreatDoor.Room
open Go.RowKit Byt

/-- There is room for more: within the capacity, or because the whole stays far below what memory can hold. -/
def Room (v : Value) (n m : Nat) : Prop := n + m ≤ 140737488355328 ∨ ∃ g cap, v = .slice (some ⟨g, 0, none⟩) n cap ∧ n + m ≤ cap
theorem Room.le {v : Value} {n m k : Nat} (h : Room v n m) (hk : k ≤ m) : Room v n k := by
  rcases h with h | ⟨g, cap, h1, h2⟩
  · exact .inl (by omega)
  · exact .inr ⟨g, cap, h1, by omega⟩
theorem Room.low {v : Value} {n m : Nat} (h : n + m ≤ 140737488355328) : Room v n m := .inl h

section
variable {P : Program}
theorem wpList_append_bytes {w : World} {ops : Array Oper} {rest : List Oper} {o : Oper} {a : Act} {Q : Exit → Act → World → Prop} (hgd : o.guard = none) (s x : Operand) {t e : TypeId} (T : ByteTy P t e)
    (ho : o.op = .call { callee := .builtin .append, args := #[s, x], argTypes := #[t, t] })
    (base : Nat) (v : Value) (l : List UInt8) (hs : a.eval s = v) (hown : OwnB w base e v l)
    (ad : Addr) (c m : Nat) (bs : List UInt8) (hx : a.eval x = .slice (some ad) m c) (hm : m = bs.length)
    (h : ∀ v' w', OwnB w' base e v' (l ++ bs) → w.grownBy w' v.ownBlock → (∀ k, Room v l.length (m + k) → Room v' (l ++ bs).length k) → wpList P ops Q rest (a.put o.dst v') w')
    (hc : ∀ j u, (bs.map bv)[j]? = some u → w.cell? (ad.add j) = some u)
    (hr : Room v l.length m) (hbase : base ≤ w.heap.size) : wpList P ops Q (o :: rest) a w := by
  subst hm
  obtain ⟨i, hi, hz, h1, h2⟩ := T.hi
  have hone : ∀ u ∈ bs.map bv, u.oneCell' = true := by
    intro u hu
    obtain ⟨b, _, rfl⟩ := List.mem_map.1 hu
    rfl
  have own' : ∀ {v' w'}, World.ownsRow w' base e 1 v' (l.length + bs.length) (l.map bv ++ bs.map bv) → OwnB w' base e v' (l ++ bs) := by
    intro v' w' ho'
    unfold OwnB
    rw [List.length_append, List.map_append]
    exact ho'
  by_cases hfit : ∃ g cap, v = .slice (some ⟨g, 0, none⟩) l.length cap ∧ l.length + bs.length ≤ cap
  · obtain ⟨g, cap, rfl, hle⟩ := hfit
    refine wpList_append_fits w hgd s x t ho base e i 1 T.ht hi h1 g l.length cap (l.map bv) hs hown ad bs.length c (bs.map bv) hx (by simp) hc hone hle ?_
    intro w' ho' hg
    refine h _ w' (own' ho') hg (fun k hk => ?_)
    rw [List.length_append]
    rcases hk with hk | ⟨g', cap', e1, hk⟩
    · exact .inl (by omega)
    · injection e1 with _ _ e2
      subst e2
      exact .inr ⟨g, cap, rfl, by omega⟩
  · have hlow : l.length + bs.length ≤ 140737488355328 := by
      rcases hr with hr | hr
      · exact hr
      · exact absurd hr hfit
    refine wpList_append_own w hgd s x t ho base e i (.int .u8 0) 1 1 T.ht hi hz h1 h2 rfl (by omega) v l.length (l.map bv) hs hown ad bs.length c (bs.map bv) hx (by simp) hc hone (by unfold maxLen; omega) (by omega) hbase ?_
    intro v' w' ho' hg _
    refine h v' w' (own' ho') hg (fun k hk => ?_)
    rw [List.length_append]
    rcases hk with hk | ⟨g', cap', e1, hk⟩
    · exact .inl (by omega)
    · exact absurd ⟨g', cap', e1, by omega⟩ hfit

/-- The same, as one step of a region that draws its order. -/
theorem step_append_bytes {w : World} {ops : Array Oper} {o : Oper} {a : Act} {K : Act → World → Prop} {Q : Exit → Act → World → Prop} {E : Prop} (hgd : o.guard = none) (s x : Operand) {t e : TypeId} (T : ByteTy P t e)
    (ho : o.op = .call { callee := .builtin .append, args := #[s, x], argTypes := #[t, t] })
    (base : Nat) (v : Value) (l : List UInt8) (hs : a.eval s = v) (hown : OwnB w base e v l)
    (ad : Addr) (c m : Nat) (bs : List UInt8) (hx : a.eval x = .slice (some ad) m c) (hm : m = bs.length)
    (hc : ∀ j u, (bs.map bv)[j]? = some u → w.cell? (ad.add j) = some u)
    (hr : Room v l.length m) (hbase : base ≤ w.heap.size)
    (h : ∀ v' w', OwnB w' base e v' (l ++ bs) → w.grownBy w' v.ownBlock → (∀ k, Room v l.length (m + k) → Room v' (l ++ bs).length k) → K (a.put o.dst v') w') :
    if Region.wanted o (yielded ops a.tmps) = true then Oper.wp P o a w K Q else E := by
  have hw : Region.wanted o (yielded ops a.tmps) = true := by simp [Region.wanted, hgd]
  rw [if_pos hw]
  subst hm
  obtain ⟨i, hi, hz, h1, h2⟩ := T.hi
  have hone : ∀ u ∈ bs.map bv, u.oneCell' = true := by
    intro u hu
    obtain ⟨b, _, rfl⟩ := List.mem_map.1 hu
    rfl
  have own' : ∀ {v' w'}, World.ownsRow w' base e 1 v' (l.length + bs.length) (l.map bv ++ bs.map bv) → OwnB w' base e v' (l ++ bs) := by
    intro v' w' ho'
    unfold OwnB
    rw [List.length_append, List.map_append]
    exact ho'
  by_cases hfit : ∃ g cap, v = .slice (some ⟨g, 0, none⟩) l.length cap ∧ l.length + bs.length ≤ cap
  · obtain ⟨g, cap, rfl, hle⟩ := hfit
    obtain ⟨w', hrun, ho', hg⟩ := run_append_fits (P := P) w base t o.type e i 1 T.ht hi h1 g l.length cap (l.map bv) hown ad bs.length c (bs.map bv) (by simp) hc hone hle
    unfold Oper.wp
    simp only [execOp, ho, resolve, invoke, builtin, Sem.run_bind, Sem.run_pure, Result.andThen_ok, List.map_toArray, List.map_cons, List.map_nil, hs, hx, hrun]
    refine h _ w' (own' ho') hg (fun k hk => ?_)
    rw [List.length_append]
    rcases hk with hk | ⟨g', cap', e1, hk⟩
    · exact .inl (by omega)
    · injection e1 with _ _ e2
      subst e2
      exact .inr ⟨g, cap, rfl, by omega⟩
  · have hlow : l.length + bs.length ≤ 140737488355328 := by
      rcases hr with hr | hr
      · exact hr
      · exact absurd hr hfit
    obtain ⟨v', w', hrun, ho', hg, _⟩ := run_append_own (P := P) w base t o.type e i (.int .u8 0) 1 1 T.ht hi hz h1 h2 rfl (by omega) v l.length (l.map bv) hown ad bs.length c (bs.map bv) (by simp) hc hone (by unfold maxLen; omega) (by omega) hbase
    unfold Oper.wp
    simp only [execOp, ho, resolve, invoke, builtin, Sem.run_bind, Sem.run_pure, Result.andThen_ok, List.map_toArray, List.map_cons, List.map_nil, hs, hx, hrun]
    refine h v' w' (own' ho') hg (fun k hk => ?_)
    rw [List.length_append]
    rcases hk with hk | ⟨g', cap', e1, hk⟩
    · exact .inl (by omega)
    · exact absurd ⟨g', cap', e1, by omega⟩ hfit
end

theorem cell_one (w : World) (b : UInt8) (t : TypeId) (x : Value) (h : x = bv b) : ∀ j u, ([b].map bv)[j]? = some u → (w.alloc (.cells #[x] t)).cell? ((⟨w.heap.size, 0, none⟩ : Addr).add j) = some u := by
  subst h
  intro j u hj
  match j, hj with
  | 0, hj => simp at hj; subst hj; simp [Addr.add]
  | j + 1, hj => simp at hj
theorem cell_two (w : World) (b c : UInt8) (t : TypeId) (x y : Value) (h : x = bv b) (k : y = bv c) : ∀ j u, ([b, c].map bv)[j]? = some u → (w.alloc (.cells #[x, y] t)).cell? ((⟨w.heap.size, 0, none⟩ : Addr).add j) = some u := by
  subst h k
  intro j u hj
  match j, hj with
  | 0, hj => simp at hj; subst hj; simp [Addr.add]
  | 1, hj => simp at hj; subst hj; simp [Addr.add]
  | j + 2, hj => simp at hj
end Go.Proofs.YthjpchnogllliaaGreatDoor.Room
