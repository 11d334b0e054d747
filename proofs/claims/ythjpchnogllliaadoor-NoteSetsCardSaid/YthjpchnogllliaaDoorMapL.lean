/- A map with strings as keys, as the list of what was laid in it: making it, a new entry, a look-up. -/
import Derived.Test.YthjpchnogllliaaDoorNums
import Derived.WalkKit
import Derived.ProofKit
import Derived.WalkSmall
import Derived.Maps.Own
import Derived.Maps.OwnOps
set_option linter.unusedSimpArgs false
set_option linter.unusedVariables false
namespace Go.Proofs.YthjpchnogllliaaDoor.MapL
open Go.RowKit Nums

/-- Block b holds the entries of ps, in this order. -/
def MapL (w : World) (b : Nat) (ps : List (ByteArray × Value)) : Prop :=
  ∃ A clock, w.heap[b]? = some (.map A clock) ∧ A.toList.map (fun e => (e.key, e.val)) = ps.map (fun p => (Value.string p.1, p.2))
theorem MapL.made (w : World) : MapL (w.alloc (.map #[] 0)) w.heap.size [] := ⟨#[], 0, (MapKept.heap_alloc w _).1, rfl⟩
theorem MapL.lt {w : World} {b : Nat} {ps : List (ByteArray × Value)} (h : MapL w b ps) : b < w.heap.size := by
  obtain ⟨A, c, hb, _⟩ := h
  exact (Array.getElem?_eq_some_iff.1 hb).1
theorem MapL.of {w w' : World} {b : Nat} {ps : List (ByteArray × Value)} (h : MapL w b ps) (hb : w'.heap[b]? = w.heap[b]?) : MapL w' b ps := by
  obtain ⟨A, c, h1, h2⟩ := h
  exact ⟨A, c, hb.trans h1, h2⟩
theorem MapL.below {w w' : World} {b : Nat} {ps : List (ByteArray × Value)} (h : MapL w b ps) (hb : Below w.heap.size w w') : MapL w' b ps := h.of (hb.block b h.lt)
section
variable {P : Program} {w : World} {b : Nat} {ps : List (ByteArray × Value)} {k t e : TypeId}
theorem keys_of {A : Array MapEntry} (h : A.toList.map (fun e => (e.key, e.val)) = ps.map (fun p => (Value.string p.1, p.2))) : ∀ x ∈ A.toList, ∃ p ∈ ps, x.key = .string p.1 ∧ x.val = p.2 := by
  intro x hx
  have h1 : (x.key, x.val) ∈ A.toList.map (fun e => (e.key, e.val)) := List.mem_map.2 ⟨x, hx, rfl⟩
  rw [h] at h1
  obtain ⟨p, hp, he⟩ := List.mem_map.1 h1
  injection he with h2 h3
  exact ⟨p, hp, h2.symm, h3.symm⟩
theorem of_keys {A : Array MapEntry} (h : A.toList.map (fun e => (e.key, e.val)) = ps.map (fun p => (Value.string p.1, p.2))) : ∀ p ∈ ps, ∃ x ∈ A.toList, x.key = .string p.1 ∧ x.val = p.2 := by
  intro p hp
  have h1 : (Value.string p.1, p.2) ∈ ps.map (fun p => (Value.string p.1, p.2)) := List.mem_map.2 ⟨p, hp, rfl⟩
  rw [← h] at h1
  obtain ⟨x, hx, he⟩ := List.mem_map.1 h1
  injection he with h2 h3
  exact ⟨x, hx, h2, h3⟩
/-- A new entry. -/
theorem MapL.update (h : MapL w b ps) (ht : P.underlying t = some (.map k e)) (hk : P.underlying k = some .string) (hps : ∀ p ∈ ps, p.1.size ≤ maxLen) {s : ByteArray} (hs : s.size ≤ maxLen) (hnew : ∀ p ∈ ps, p.1 ≠ s) (val : Value) :
    ∃ w', (Instr.mapUpdate t (.map (some b)) (.string s) val).run P w = .ok () w' ∧ MapL w' b (ps ++ [(s, val)]) ∧ w.grownBy w' (some b) := by
  obtain ⟨A, c, hb, hA⟩ := h
  have K := Maps.string_keyed hk
  have hkey := WideMaps.keyOf_string_mk hk hs
  have hkeys : ∀ x ∈ A.toList, ∃ l, keyOf P k x.key = some l := fun x hx => by
    obtain ⟨p, hp, h1, _⟩ := keys_of hA x hx
    exact ⟨_, by rw [h1]; exact WideMaps.keyOf_string_mk hk (hps p hp)⟩
  rcases K.find w hkey A.toList hkeys with ⟨h1, _⟩ | ⟨j, e0, _, h2, h3⟩
  · refine ⟨ChangeMaps.setBlock w b (.map (A.push ⟨.string s, val, c⟩) (c + 1)), ?_, ⟨_, _, ChangeMaps.heap_setBlock_same hb _, ?_⟩, ⟨rfl, rfl, rfl, by simp [ChangeMaps.setBlock], fun i _ hi => ChangeMaps.heap_setBlock_other hb _ (fun e => hi (by rw [e]))⟩⟩
    · simp [Instr.mapUpdate, run_underlying ht, MapKept.run_getObj_map hb, K.check w false hkey, h1, MapKept.run_setObj_map _ hb, Result.andThen, ChangeMaps.setBlock]
    · rw [Array.toList_push, List.map_append, hA, List.map_append]
      rfl
  · exfalso
    obtain ⟨p, hp, h4, _⟩ := keys_of hA e0 (List.mem_of_getElem? h2)
    rw [h3] at h4
    injection h4 with h4
    exact hnew p hp h4.symm
/-- A look-up of a name that is not there. -/
theorem MapL.look_no (h : MapL w b ps) (ht : P.underlying t = some (.map k e)) (hk : P.underlying k = some .string) {z : Value} (hz : (zeroValue e).run P w = .ok z w) (hps : ∀ p ∈ ps, p.1.size ≤ maxLen) {s : ByteArray} (hs : s.size ≤ maxLen) (hno : ∀ p ∈ ps, p.1 ≠ s) (c : Bool) :
    (Instr.lookup t (.map (some b)) (.string s) c).run P w = .ok (if c then .tuple #[z, .bool false] else z) w := by
  obtain ⟨A, ck, hb, hA⟩ := h
  have K := Maps.string_keyed hk
  have hkey := WideMaps.keyOf_string_mk hk hs
  have hkeys : ∀ x ∈ A.toList, ∃ l, keyOf P k x.key = some l := fun x hx => by
    obtain ⟨p, hp, h1, _⟩ := keys_of hA x hx
    exact ⟨_, by rw [h1]; exact WideMaps.keyOf_string_mk hk (hps p hp)⟩
  rcases K.find w hkey A.toList hkeys with ⟨h1, _⟩ | ⟨j, e0, _, h2, h3⟩
  · cases c <;> simp [Instr.lookup, run_underlying ht, MapKept.run_getObj_map hb, K.check w _ hkey, h1, hz, Result.andThen]
  · exfalso
    obtain ⟨p, hp, h4, _⟩ := keys_of hA e0 (List.mem_of_getElem? h2)
    rw [h3] at h4
    injection h4 with h4
    exact hno p hp h4.symm
/-- A look-up of a name that is there: the value of some entry with this name. -/
theorem MapL.look_yes (h : MapL w b ps) (ht : P.underlying t = some (.map k e)) (hk : P.underlying k = some .string) (hps : ∀ p ∈ ps, p.1.size ≤ maxLen) {s : ByteArray} (hs : s.size ≤ maxLen) {p0 : ByteArray × Value} (h0 : p0 ∈ ps) (h1 : p0.1 = s) :
    ∃ p ∈ ps, p.1 = s ∧ ∀ c, (Instr.lookup t (.map (some b)) (.string s) c).run P w = .ok (if c then .tuple #[p.2, .bool true] else p.2) w := by
  obtain ⟨A, ck, hb, hA⟩ := h
  have K := Maps.string_keyed hk
  have hkey := WideMaps.keyOf_string_mk hk hs
  have hkeys : ∀ x ∈ A.toList, ∃ l, keyOf P k x.key = some l := fun x hx => by
    obtain ⟨p, hp, h1, _⟩ := keys_of hA x hx
    exact ⟨_, by rw [h1]; exact WideMaps.keyOf_string_mk hk (hps p hp)⟩
  rcases K.find w hkey A.toList hkeys with ⟨_, h2⟩ | ⟨j, e0, h3, h2, h4⟩
  · exfalso
    obtain ⟨x, hx, h5, _⟩ := of_keys hA p0 h0
    exact h2 x hx (by rw [h5, h1])
  · obtain ⟨p, hp, h5, h6⟩ := keys_of hA e0 (List.mem_of_getElem? h2)
    rw [h4] at h5
    injection h5 with h5
    refine ⟨p, hp, h5.symm, fun c => ?_⟩
    cases c <;> simp [Instr.lookup, run_underlying ht, MapKept.run_getObj_map hb, K.check w _ hkey, h3, ← h6, Result.andThen]
end
/-- A new entry at the operation, for a walk. -/
theorem wpList_insert {P : Program} (w : World) {ops : Array Oper} {rest : List Oper} {o : Oper} {a : Act} {Q : Exit → Act → World → Prop}
    (hg : o.guard = none) (m x v : Operand) (t : TypeId) (hop : o.op = Op.insert t m x v) (k e : TypeId) (ht : P.underlying t = some (.map k e)) (hk : P.underlying k = some .string) (b : Nat) (ps : List (ByteArray × Value))
    (hm : a.eval m = .map (some b)) (hown : MapL w b ps) (s : ByteArray) (val : Value) (hx : a.eval x = .string s) (hv : a.eval v = val) (hps : ∀ p ∈ ps, p.1.size ≤ maxLen) (hs : s.size ≤ maxLen) (hnew : ∀ p ∈ ps, p.1 ≠ s)
    (hK : ∀ w', MapL w' b (ps ++ [(s, val)]) → w.grownBy w' (some b) → wpList P ops Q rest (a.put o.dst undef) w') :
    wpList P ops Q (o :: rest) a w := by
  refine wpList_plain hg fun K' hK' => ?_
  obtain ⟨w', hrun, r1, r2⟩ := hown.update ht hk hps hs hnew val
  unfold Oper.wp
  simp [execOp, hop, hm, hx, hv, hrun, Result.andThen]
  exact hK' _ _ (hK w' r1 r2)
/-- A look-up at the operation, for a walk. -/
theorem wpList_look {P : Program} (w : World) {ops : Array Oper} {rest : List Oper} {o : Oper} {a : Act} {Q : Exit → Act → World → Prop}
    (hg : o.guard = none) (m x : Operand) (t : TypeId) (c : Bool) (hop : o.op = Op.lookup t m x c) (v : Value) (mv xv : Value) (hm : a.eval m = mv) (hx : a.eval x = xv)
    (hrun : (Instr.lookup t mv xv c).run P w = .ok v w)
    (hK : wpList P ops Q rest (a.put o.dst v) w) : wpList P ops Q (o :: rest) a w := by
  refine wpList_plain hg fun K' hK' => ?_
  unfold Oper.wp
  simp [execOp, hop, hm, hx, hrun, Result.andThen]
  exact hK' _ _ hK
end Go.Proofs.YthjpchnogllliaaDoor.MapL
