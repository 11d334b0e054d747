import Derived.Test.YthjpchnogllliaaGreatDoorNums
import Derived.WalkKit
import Derived.ProofKit
import Derived.WalkSmall
import Derived.Maps.Own
import Derived.Maps.OwnOps
import Derived.Test.YthjpchnogllliaaGreatDoorNotM
import Derived.Test.YthjpchnogllliaaGreatDoorTld
/- A map with strings as keys, as the list of what was laid in it: making it, a new entry, a look-up. -/
set_option linter.unusedSimpArgs false
set_option linter.unusedVariables false
namespace Go.Proofs.YthjpchnogllliaaGreatDoor.MapL
open Go.RowKit Nums

/-- Block b holds the entries of ps, in this order. -/
def MapL (w : World) (b : Nat) (ps : List (ByteArray × Value)) : Prop :=
  ∃ A clock, w.heap[b]? = some (.map A clock) ∧ A.toList.map (fun e => (e.key, e.val)) = ps.map (fun p => (Value.string p.1, p.2))
theorem MapL.made (w : World) : MapL (w.alloc (.map #[] 0)) w.heap.size [] := ⟨#[], 0, (MapKept.heap_alloc w _).1, rfl⟩
theorem MapL.lt {w : World} {b : Nat} {ps : List (ByteArray × Value)} (h : MapL w b ps) : b < w.heap.size := by
  obtain ⟨A, c, hb, _⟩ := h
  exact (Array.getElem?_eq_some_iff.1 hb).1
theorem MapL.of {w w' : World} {b : Nat} {ps : List (ByteArray × Value)} (h : MapL w b ps) (hb : w'.heap[b]? = w.heap[b]?) : MapL w' b ps := by
  obtain ⟨A, c, h1, h2⟩ := h
  exact ⟨A, c, hb.trans h1, h2⟩
theorem MapL.below {w w' : World} {b : Nat} {ps : List (ByteArray × Value)} (h : MapL w b ps) (hb : Below w.heap.size w w') : MapL w' b ps := h.of (hb.block b h.lt)
section
variable {P : Program} {w : World} {b : Nat} {ps : List (ByteArray × Value)} {k t e : TypeId}
theorem keys_of {A : Array MapEntry} (h : A.toList.map (fun e => (e.key, e.val)) = ps.map (fun p => (Value.string p.1, p.2))) : ∀ x ∈ A.toList, ∃ p ∈ ps, x.key = .string p.1 ∧ x.val = p.2 := by
  intro x hx
  have h1 : (x.key, x.val) ∈ A.toList.map (fun e => (e.key, e.val)) := List.mem_map.2 ⟨x, hx, rfl⟩
  rw [h] at h1
  obtain ⟨p, hp, he⟩ := List.mem_map.1 h1
  injection he with h2 h3
  exact ⟨p, hp, h2.symm, h3.symm⟩
theorem of_keys {A : Array MapEntry} (h : A.toList.map (fun e => (e.key, e.val)) = ps.map (fun p => (Value.string p.1, p.2))) : ∀ p ∈ ps, ∃ x ∈ A.toList, x.key = .string p.1 ∧ x.val = p.2 := by
  intro p hp
  have h1 : (Value.string p.1, p.2) ∈ ps.map (fun p => (Value.string p.1, p.2)) := List.mem_map.2 ⟨p, hp, rfl⟩
  rw [← h] at h1
  obtain ⟨x, hx, he⟩ := List.mem_map.1 h1
  injection he with h2 h3
  exact ⟨x, hx, h2, h3⟩
/-- A new entry. -/
theorem MapL.update (h : MapL w b ps) (ht : P.underlying t = some (.map k e)) (hk : P.underlying k = some .string) (hps : ∀ p ∈ ps, p.1.size ≤ maxLen) {s : ByteArray} (hs : s.size ≤ maxLen) (hnew : ∀ p ∈ ps, p.1 ≠ s) (val : Value) :
    ∃ w', (Instr.mapUpdate t (.map (some b)) (.string s) val).run P w = .ok () w' ∧ MapL w' b (ps ++ [(s, val)]) ∧ w.grownBy w' (some b) := by
  obtain ⟨A, c, hb, hA⟩ := h
  have K := Maps.string_keyed hk
  have hkey := WideMaps.keyOf_string_mk hk hs
  have hkeys : ∀ x ∈ A.toList, ∃ l, keyOf P k x.key = some l := fun x hx => by
    obtain ⟨p, hp, h1, _⟩ := keys_of hA x hx
    exact ⟨_, by rw [h1]; exact WideMaps.keyOf_string_mk hk (hps p hp)⟩
  rcases K.find w hkey A.toList hkeys with ⟨h1, _⟩ | ⟨j, e0, _, h2, h3⟩
  · refine ⟨ChangeMaps.setBlock w b (.map (A.push ⟨.string s, val, c⟩) (c + 1)), ?_, ⟨_, _, ChangeMaps.heap_setBlock_same hb _, ?_⟩, ⟨rfl, rfl, rfl, by simp [ChangeMaps.setBlock], fun i _ hi => ChangeMaps.heap_setBlock_other hb _ (fun e => hi (by rw [e]))⟩⟩
    · simp [Instr.mapUpdate, run_underlying ht, MapKept.run_getObj_map hb, K.check w false hkey, h1, MapKept.run_setObj_map _ hb, Result.andThen, ChangeMaps.setBlock]
    · rw [Array.toList_push, List.map_append, hA, List.map_append]
      rfl
  · exfalso
    obtain ⟨p, hp, h4, _⟩ := keys_of hA e0 (List.mem_of_getElem? h2)
    rw [h3] at h4
    injection h4 with h4
    exact hnew p hp h4.symm
/-- A look-up of a name that is not there. -/
theorem MapL.look_no (h : MapL w b ps) (ht : P.underlying t = some (.map k e)) (hk : P.underlying k = some .string) {z : Value} (hz : (zeroValue e).run P w = .ok z w) (hps : ∀ p ∈ ps, p.1.size ≤ maxLen) {s : ByteArray} (hs : s.size ≤ maxLen) (hno : ∀ p ∈ ps, p.1 ≠ s) (c : Bool) :
    (Instr.lookup t (.map (some b)) (.string s) c).run P w = .ok (if c then .tuple #[z, .bool false] else z) w := by
  obtain ⟨A, ck, hb, hA⟩ := h
  have K := Maps.string_keyed hk
  have hkey := WideMaps.keyOf_string_mk hk hs
  have hkeys : ∀ x ∈ A.toList, ∃ l, keyOf P k x.key = some l := fun x hx => by
    obtain ⟨p, hp, h1, _⟩ := keys_of hA x hx
    exact ⟨_, by rw [h1]; exact WideMaps.keyOf_string_mk hk (hps p hp)⟩
  rcases K.find w hkey A.toList hkeys with ⟨h1, _⟩ | ⟨j, e0, _, h2, h3⟩
  · cases c <;> simp [Instr.lookup, run_underlying ht, MapKept.run_getObj_map hb, K.check w _ hkey, h1, hz, Result.andThen]
  · exfalso
    obtain ⟨p, hp, h4, _⟩ := keys_of hA e0 (List.mem_of_getElem? h2)
    rw [h3] at h4
    injection h4 with h4
    exact hno p hp h4.symm
/-- A look-up of a name that is there: the value of some entry with this name. -/
theorem MapL.look_yes (h : MapL w b ps) (ht : P.underlying t = some (.map k e)) (hk : P.underlying k = some .string) (hps : ∀ p ∈ ps, p.1.size ≤ maxLen) {s : ByteArray} (hs : s.size ≤ maxLen) {p0 : ByteArray × Value} (h0 : p0 ∈ ps) (h1 : p0.1 = s) :
    ∃ p ∈ ps, p.1 = s ∧ ∀ c, (Instr.lookup t (.map (some b)) (.string s) c).run P w = .ok (if c then .tuple #[p.2, .bool true] else p.2) w := by
  obtain ⟨A, ck, hb, hA⟩ := h
  have K := Maps.string_keyed hk
  have hkey := WideMaps.keyOf_string_mk hk hs
  have hkeys : ∀ x ∈ A.toList, ∃ l, keyOf P k x.key = some l := fun x hx => by
    obtain ⟨p, hp, h1, _⟩ := keys_of hA x hx
    exact ⟨_, by rw [h1]; exact WideMaps.keyOf_string_mk hk (hps p hp)⟩
  rcases K.find w hkey A.toList hkeys with ⟨_, h2⟩ | ⟨j, e0, h3, h2, h4⟩
  · exfalso
    obtain ⟨x, hx, h5, _⟩ := of_keys hA p0 h0
    exact h2 x hx (by rw [h5, h1])
  · obtain ⟨p, hp, h5, h6⟩ := keys_of hA e0 (List.mem_of_getElem? h2)
    rw [h4] at h5
    injection h5 with h5
    refine ⟨p, hp, h5.symm, fun c => ?_⟩
    cases c <;> simp [Instr.lookup, run_underlying ht, MapKept.run_getObj_map hb, K.check w _ hkey, h3, ← h6, Result.andThen]
end
/-- A new entry at the operation, for a walk. -/
theorem wpList_insert {P : Program} (w : World) {ops : Array Oper} {rest : List Oper} {o : Oper} {a : Act} {Q : Exit → Act → World → Prop}
    (hg : o.guard = none) (m x v : Operand) (t : TypeId) (hop : o.op = Op.insert t m x v) (k e : TypeId) (ht : P.underlying t = some (.map k e)) (hk : P.underlying k = some .string) (b : Nat) (ps : List (ByteArray × Value))
    (hm : a.eval m = .map (some b)) (hown : MapL w b ps) (s : ByteArray) (val : Value) (hx : a.eval x = .string s) (hv : a.eval v = val) (hps : ∀ p ∈ ps, p.1.size ≤ maxLen) (hs : s.size ≤ maxLen) (hnew : ∀ p ∈ ps, p.1 ≠ s)
    (hK : ∀ w', MapL w' b (ps ++ [(s, val)]) → w.grownBy w' (some b) → wpList P ops Q rest (a.put o.dst undef) w') :
    wpList P ops Q (o :: rest) a w := by
  refine wpList_plain hg fun K' hK' => ?_
  obtain ⟨w', hrun, r1, r2⟩ := hown.update ht hk hps hs hnew val
  unfold Oper.wp
  simp [execOp, hop, hm, hx, hv, hrun, Result.andThen]
  exact hK' _ _ (hK w' r1 r2)
/-- A look-up at the operation, for a walk. -/
theorem wpList_look {P : Program} (w : World) {ops : Array Oper} {rest : List Oper} {o : Oper} {a : Act} {Q : Exit → Act → World → Prop}
    (hg : o.guard = none) (m x : Operand) (t : TypeId) (c : Bool) (hop : o.op = Op.lookup t m x c) (v : Value) (mv xv : Value) (hm : a.eval m = mv) (hx : a.eval x = xv)
    (hrun : (Instr.lookup t mv xv c).run P w = .ok v w)
    (hK : wpList P ops Q rest (a.put o.dst v) w) : wpList P ops Q (o :: rest) a w := by
  refine wpList_plain hg fun K' hK' => ?_
  unfold Oper.wp
  simp [execOp, hop, hm, hx, hrun, Result.andThen]
  exact hK' _ _ hK
end Go.Proofs.YthjpchnogllliaaGreatDoor.MapL

/- The program of stage 8: the map of the known annotations, and what a look-up in it gives. -/
set_option linter.unusedSimpArgs false
set_option linter.unusedVariables false
namespace Go.Proofs.YthjpchnogllliaaGreatDoor.NtpA
open Go.RowKit Nums NotM MapL

abbrev nDeprecated : ByteArray := ⟨#[100, 101, 112, 114, 101, 99, 97, 116, 101, 100]⟩
abbrev nDoc : ByteArray := ⟨#[100, 111, 99]⟩
abbrev nAlias : ByteArray := ⟨#[97, 108, 105, 97, 115]⟩
abbrev nSince : ByteArray := ⟨#[115, 105, 110, 99, 101]⟩
abbrev nUntil : ByteArray := ⟨#[117, 110, 116, 105, 108]⟩
abbrev nMin : ByteArray := ⟨#[109, 105, 110]⟩
abbrev nMax : ByteArray := ⟨#[109, 97, 120]⟩
abbrev nLength : ByteArray := ⟨#[108, 101, 110, 103, 116, 104]⟩
abbrev nSecret : ByteArray := ⟨#[115, 101, 99, 114, 101, 116]⟩
abbrev nIdem : ByteArray := ⟨#[105, 100, 101, 109, 112, 111, 116, 101, 110, 116]⟩
abbrev nTimeout : ByteArray := ⟨#[116, 105, 109, 101, 111, 117, 116]⟩
abbrev nRoute : ByteArray := ⟨#[114, 111, 117, 116, 101]⟩
abbrev nOwner : ByteArray := ⟨#[111, 119, 110, 101, 114]⟩
def rl (k : Int) (b n : Nat) : Value := .agg #[.int .i64 k, .slice (some ⟨b, 0, none⟩) n n]
/-- All entries, with the blocks of their targets. -/
def ents (ba bp bf bm bo : Nat) : List (ByteArray × Value) :=
  [(nDeprecated, rl 1 ba 6), (nDoc, rl 7 ba 6), (nAlias, rl 7 bp 3), (nSince, rl 4 bp 3), (nUntil, rl 4 bp 3), (nMin, rl 3 bf 1), (nMax, rl 3 bf 1), (nLength, rl 4 bf 1), (nSecret, rl 1 bf 1), (nIdem, rl 1 bm 1), (nTimeout, rl 4 bm 1), (nRoute, rl 7 bm 1), (nOwner, rl 7 bo 2)]
def kns : List (ByteArray × Int × List Int) := [(nDeprecated, 1, [1, 2, 3, 4, 5, 6]), (nDoc, 7, [1, 2, 3, 4, 5, 6]), (nAlias, 7, [2, 4, 6]), (nSince, 4, [2, 4, 6]), (nUntil, 4, [2, 4, 6]), (nMin, 3, [2]), (nMax, 3, [2]), (nLength, 4, [2]), (nSecret, 1, [2]), (nIdem, 1, [6]), (nTimeout, 4, [6]), (nRoute, 7, [6]), (nOwner, 7, [1, 5])]
/-- Targets in a block. -/
def Tg (w : World) (b : Nat) (ts : List Int) : Prop := b < w.heap.size ∧ ∀ (j : Nat) t, ts[j]? = some t → w.cell? ⟨b, j, none⟩ = some (.int .i64 t)
theorem Tg.below {w w' : World} {b : Nat} {ts : List Int} (h : Tg w b ts) (hb : Below w.heap.size w w') : Tg w' b ts :=
  ⟨Nat.lt_of_lt_of_le h.1 hb.size, fun j t hj => (hb.cell (p := ⟨b, j, none⟩) h.1).trans (h.2 j t hj)⟩
theorem Tg.grown {w w' : World} {b : Nat} {ts : List Int} {m : Nat} (h : Tg w b ts) (hg : w.grownBy w' (some m)) (hne : b ≠ m) : Tg w' b ts := by
  have hb := hg.block b h.1 (fun e => hne (Option.some.inj e))
  refine ⟨?_, fun j t hj => (World.cell?_of_block (w := w) (a := ⟨b, j, none⟩) hb).trans (h.2 j t hj)⟩
  have h1 := (Array.getElem?_eq_some_iff (xs := w.heap)).1 (Array.getElem?_eq_getElem h.1)
  rw [Array.getElem?_eq_getElem h.1] at hb
  exact (Array.getElem?_eq_some_iff.1 hb).1
theorem Tg.alloc {w : World} {b : Nat} {ts : List Int} (h : Tg w b ts) (o : Obj) : Tg (w.alloc o) b ts := h.below ((Below.refl _ _).alloc (Nat.le_refl _) o)
theorem Tg.new (w : World) (ts : List Int) (T : TypeId) : Tg (w.alloc (.cells (ts.map (Value.int .i64)).toArray T)) w.heap.size ts := by
  refine ⟨by simp, fun j t hj => ?_⟩
  rw [World.cell?_alloc_at _ _ _ _ rfl]
  simp [hj]
/-- The map of the known annotations. -/
def Rul (w : World) (b : Nat) : Prop := ∃ ba bp bf bm bo, MapL w b (ents ba bp bf bm bo) ∧ Tg w ba [1, 2, 3, 4, 5, 6] ∧ Tg w bp [2, 4, 6] ∧ Tg w bf [2] ∧ Tg w bm [6] ∧ Tg w bo [1, 5]
theorem Rul.below {w w' : World} {b : Nat} (h : Rul w b) (hb : Below w.heap.size w w') : Rul w' b := by
  obtain ⟨ba, bp, bf, bm, bo, h0, h1, h2, h3, h4, h5⟩ := h
  exact ⟨ba, bp, bf, bm, bo, h0.below hb, h1.below hb, h2.below hb, h3.below hb, h4.below hb, h5.below hb⟩
theorem Rul.lt {w : World} {b : Nat} (h : Rul w b) : b < w.heap.size := by
  obtain ⟨ba, bp, bf, bm, bo, h0, _⟩ := h
  exact h0.lt

/-- Each entry's kind and targets are those of the plain definitions. -/
theorem kns_kind : ∀ x ∈ kns, kindN x.1.data.toList = x.2.1 := by decide
theorem kns_fits : ∀ x ∈ kns, ∀ t : Int, x.2.2.contains t = fitsT x.1.data.toList t := by
  intro x hx t
  have h6 : ∀ t : Int, [1, 2, 3, 4, 5, 6].contains t = (decide (1 ≤ t) && decide (t ≤ 6)) := by
    intro t
    rw [Bool.eq_iff_iff]
    simp only [List.contains_iff_mem, List.mem_cons, List.not_mem_nil, or_false, Bool.and_eq_true, decide_eq_true_eq]
    omega
  simp only [kns, List.mem_cons, List.not_mem_nil, or_false] at hx
  rcases hx with rfl | rfl | rfl | rfl | rfl | rfl | rfl | rfl | rfl | rfl | rfl | rfl | rfl
  · rw [fitsT, if_pos (by decide)]; exact h6 t
  · rw [fitsT, if_pos (by decide)]; exact h6 t
  all_goals
    rw [fitsT, if_neg (by decide)]
    first
      | (rw [if_pos (by decide)]; rw [Bool.eq_iff_iff]; simp; done)
      | (rw [if_neg (by decide), if_pos (by decide)]; rw [Bool.eq_iff_iff]; simp; done)
      | (rw [if_neg (by decide), if_neg (by decide), if_pos (by decide)]; rw [Bool.eq_iff_iff]; simp; done)
      | (rw [if_neg (by decide), if_neg (by decide), if_neg (by decide)]; rw [Bool.eq_iff_iff]; simp; done)
theorem ents_kns (ba bp bf bm bo : Nat) : (ents ba bp bf bm bo).map (·.1) = kns.map (·.1) := rfl
theorem ents_size (ba bp bf bm bo : Nat) : ∀ p ∈ ents ba bp bf bm bo, p.1.size ≤ maxLen := by
  intro p hp
  have h : ∀ q ∈ kns.map (·.1), q.size ≤ 20 := by decide
  have := h p.1 (by rw [← ents_kns ba bp bf bm bo]; exact List.mem_map.2 ⟨p, hp, rfl⟩)
  unfold maxLen
  omega
theorem known_kns {s : ByteArray} (h : kindN s.data.toList ≠ 0) : ∃ x ∈ kns, x.1 = s := by
  have hall : ∀ n : List UInt8, n ∈ knB ++ knT ++ knU ++ knI → n ∈ kns.map fun x => x.1.data.toList := by decide
  have hm : s.data.toList ∈ knB ++ knT ++ knU ++ knI := by
    unfold kindN at h
    simp only [List.mem_append]
    by_cases h1 : knB.contains s.data.toList = true
    · exact .inl (.inl (.inl (List.contains_iff_mem.1 h1)))
    · rw [if_neg h1] at h
      by_cases h2 : knT.contains s.data.toList = true
      · exact .inl (.inl (.inr (List.contains_iff_mem.1 h2)))
      · rw [if_neg h2] at h
        by_cases h3 : knU.contains s.data.toList = true
        · exact .inl (.inr (List.contains_iff_mem.1 h3))
        · rw [if_neg h3] at h
          by_cases h4 : knI.contains s.data.toList = true
          · exact .inr (List.contains_iff_mem.1 h4)
          · rw [if_neg h4] at h
            exact absurd rfl h
  obtain ⟨x, hx, he⟩ := List.mem_map.1 (hall _ hm)
  refine ⟨x, hx, ?_⟩
  cases hx1 : x.1
  cases s
  simp only [hx1, Array.toList_inj] at he
  rw [he]
theorem zeroR (w : World) : (zeroValue 62).run Tryz.prog w = .ok (.agg #[.int .i64 0, .slice none 0 0]) w := by
  kernel_rfl
/-- A look-up: nothing there, or the kind and the targets. -/
theorem Rul.look {w : World} {b : Nat} (h : Rul w b) {s : ByteArray} (hs : s.size ≤ 140737488351232) :
    (kindN s.data.toList = 0 ∧ ∀ c, (Instr.lookup 49 (.map (some b)) (.string s) c).run Tryz.prog w = .ok (if c then .tuple #[.agg #[.int .i64 0, .slice none 0 0], .bool false] else .agg #[.int .i64 0, .slice none 0 0]) w) ∨
    (kindN s.data.toList ≠ 0 ∧ ∃ tb ts, (∀ c, (Instr.lookup 49 (.map (some b)) (.string s) c).run Tryz.prog w = .ok (if c then .tuple #[rl (kindN s.data.toList) tb ts.length, .bool true] else rl (kindN s.data.toList) tb ts.length) w) ∧ Tg w tb ts ∧ ts.length ≤ 6 ∧ ∀ t, ts.contains t = fitsT s.data.toList t) := by
  obtain ⟨ba, bp, bf, bm, bo, h0, h1, h2, h3, h4, h5⟩ := h
  have hsm : s.size ≤ maxLen := by unfold maxLen; omega
  by_cases hk : kindN s.data.toList = 0
  · left
    refine ⟨hk, fun c => h0.look_no Tryz.underlying49 Tryz.underlying9 (zeroR w) (ents_size _ _ _ _ _) hsm ?_ c⟩
    intro p hp he
    have hm : p.1 ∈ kns.map (·.1) := by rw [← ents_kns ba bp bf bm bo]; exact List.mem_map.2 ⟨p, hp, rfl⟩
    obtain ⟨x, hx, hxe⟩ := List.mem_map.1 hm
    have hkk := kns_kind x hx
    rw [hxe, he, hk] at hkk
    have hnz : ∀ x ∈ kns, x.2.1 ≠ 0 := by decide
    exact hnz x hx hkk.symm
  · right
    refine ⟨hk, ?_⟩
    obtain ⟨x, hx, hxe⟩ := known_kns hk
    have hm : s ∈ (ents ba bp bf bm bo).map (·.1) := by rw [ents_kns]; exact List.mem_map.2 ⟨x, hx, hxe⟩
    obtain ⟨p0, hp0, hp1⟩ := List.mem_map.1 hm
    obtain ⟨p, hp, hpe, hrun⟩ := h0.look_yes Tryz.underlying49 Tryz.underlying9 (ents_size _ _ _ _ _) hsm hp0 hp1
    have key : ∀ (y : ByteArray × Int × List Int) (tb : Nat), y ∈ kns → y.1 = s → p.2 = rl y.2.1 tb y.2.2.length → Tg w tb y.2.2 → y.2.2.length ≤ 6 → ∃ tb ts, (∀ c, (Instr.lookup 49 (.map (some b)) (.string s) c).run Tryz.prog w = .ok (if c then .tuple #[rl (kindN s.data.toList) tb ts.length, .bool true] else rl (kindN s.data.toList) tb ts.length) w) ∧ Tg w tb ts ∧ ts.length ≤ 6 ∧ ∀ t, ts.contains t = fitsT s.data.toList t := by
      intro y tb hy hys hv hT hl
      have e1 := kns_kind y hy
      rw [hys] at e1
      refine ⟨tb, y.2.2, fun c => ?_, hT, hl, fun t => ?_⟩
      · rw [e1, ← hv]; exact hrun c
      · have := kns_fits y hy t
        rwa [hys] at this
    simp only [ents, List.mem_cons, List.not_mem_nil, or_false] at hp
    rcases hp with rfl | rfl | rfl | rfl | rfl | rfl | rfl | rfl | rfl | rfl | rfl | rfl | rfl
    · exact key (nDeprecated, 1, [1, 2, 3, 4, 5, 6]) ba (by simp [kns]) hpe rfl h1 (by decide)
    · exact key (nDoc, 7, [1, 2, 3, 4, 5, 6]) ba (by simp [kns]) hpe rfl h1 (by decide)
    · exact key (nAlias, 7, [2, 4, 6]) bp (by simp [kns]) hpe rfl h2 (by decide)
    · exact key (nSince, 4, [2, 4, 6]) bp (by simp [kns]) hpe rfl h2 (by decide)
    · exact key (nUntil, 4, [2, 4, 6]) bp (by simp [kns]) hpe rfl h2 (by decide)
    · exact key (nMin, 3, [2]) bf (by simp [kns]) hpe rfl h3 (by decide)
    · exact key (nMax, 3, [2]) bf (by simp [kns]) hpe rfl h3 (by decide)
    · exact key (nLength, 4, [2]) bf (by simp [kns]) hpe rfl h3 (by decide)
    · exact key (nSecret, 1, [2]) bf (by simp [kns]) hpe rfl h3 (by decide)
    · exact key (nIdem, 1, [6]) bm (by simp [kns]) hpe rfl h4 (by decide)
    · exact key (nTimeout, 4, [6]) bm (by simp [kns]) hpe rfl h4 (by decide)
    · exact key (nRoute, 7, [6]) bm (by simp [kns]) hpe rfl h4 (by decide)
    · exact key (nOwner, 7, [1, 5]) bo (by simp [kns]) hpe rfl h5 (by decide)

/-- While the map is filled. -/
structure RT (w0 w : World) (ps : List (ByteArray × Value)) : Prop where
  mp : MapL w (w0.heap.size + 1 + 1 + 1 + 1) ps
  bl : Below w0.heap.size w0 w
  t0 : Tg w w0.heap.size [1, 2, 3, 4, 5, 6]
  t1 : Tg w (w0.heap.size + 1) [2, 4, 6]
  t2 : Tg w (w0.heap.size + 1 + 1) [2]
  t3 : Tg w (w0.heap.size + 1 + 1 + 1) [6]
theorem RT.step {w0 w w' : World} {ps : List (ByteArray × Value)} (h : RT w0 w ps) {p : ByteArray × Value} (hm : MapL w' (w0.heap.size + 1 + 1 + 1 + 1) (ps ++ [p])) (hg : w.grownBy w' (some (w0.heap.size + 1 + 1 + 1 + 1))) : RT w0 w' (ps ++ [p]) :=
  ⟨hm, h.bl.grown hg (by have := h.t0.1; omega) (fun k hk => by cases hk; omega), h.t0.grown hg (by omega), h.t1.grown hg (by omega), h.t2.grown hg (by omega), h.t3.grown hg (by omega)⟩
theorem RT.alloc {w0 w : World} {ps : List (ByteArray × Value)} (h : RT w0 w ps) (o : Obj) : RT w0 (w.alloc o) ps :=
  ⟨h.mp.below ((Below.refl _ _).alloc (Nat.le_refl _) o), h.bl.alloc h.bl.size o, h.t0.alloc o, h.t1.alloc o, h.t2.alloc o, h.t3.alloc o⟩
/-- A new entry while the map is filled. -/
theorem RT.insert {w0 w : World} {ps : List (ByteArray × Value)} (h : RT w0 w ps) (hps : ∀ p ∈ ps, p.1.size ≤ maxLen) (s : ByteArray) (hs : s.size ≤ maxLen) (hnew : ∀ p ∈ ps, p.1 ≠ s) (val : Value) :
    ∃ w', (Instr.mapUpdate 49 (.map (some (w0.heap.size + 1 + 1 + 1 + 1))) (.string s) val).run Tryz.prog w = .ok () w' ∧ RT w0 w' (ps ++ [(s, val)]) := by
  obtain ⟨w', h1, h2, h3⟩ := h.mp.update Tryz.underlying49 Tryz.underlying9 hps hs hnew val
  exact ⟨w', h1, h.step h2 h3⟩
theorem small {s : ByteArray} (h : s.size ≤ 20) : s.size ≤ maxLen := by unfold maxLen; omega
theorem smalls {ps : List (ByteArray × Value)} {ns : List ByteArray} (he : ps.map (·.1) = ns) (h : ∀ s ∈ ns, s.size ≤ 20) : ∀ p ∈ ps, p.1.size ≤ maxLen := fun p hp => small (h p.1 (by rw [← he]; exact List.mem_map.2 ⟨p, hp, rfl⟩))
theorem news {ps : List (ByteArray × Value)} {ns : List ByteArray} {s : ByteArray} (he : ps.map (·.1) = ns) (h : ∀ q ∈ ns, q.data.toList ≠ s.data.toList) : ∀ p ∈ ps, p.1 ≠ s := fun p hp e => h p.1 (by rw [← he]; exact List.mem_map.2 ⟨p, hp, rfl⟩) (by rw [e])
end Go.Proofs.YthjpchnogllliaaGreatDoor.NtpA

/- The program of stage 8: the function that makes the map; Kind. -/
set_option linter.unusedSimpArgs false
set_option linter.unusedVariables false
namespace Go.Proofs.YthjpchnogllliaaGreatDoor.NtpB
open Go.RowKit Nums NotM MapL NtpA

def W0 (w : World) : World := ((((w.alloc (.cells #[.int .i64 1, .int .i64 2, .int .i64 3, .int .i64 4, .int .i64 5, .int .i64 6] 3)).alloc (.cells #[.int .i64 2, .int .i64 4, .int .i64 6] 3)).alloc (.cells #[.int .i64 2] 3)).alloc (.cells #[.int .i64 6] 3)).alloc (.map #[] 0)
theorem start (w : World) : RT w (W0 w) [] := by
  have a0 := Tg.new w [1, 2, 3, 4, 5, 6] 3
  have a1 := Tg.new (w.alloc (.cells #[.int .i64 1, .int .i64 2, .int .i64 3, .int .i64 4, .int .i64 5, .int .i64 6] 3)) [2, 4, 6] 3
  have a2 := Tg.new ((w.alloc (.cells #[.int .i64 1, .int .i64 2, .int .i64 3, .int .i64 4, .int .i64 5, .int .i64 6] 3)).alloc (.cells #[.int .i64 2, .int .i64 4, .int .i64 6] 3)) [2] 3
  have a3 := Tg.new (((w.alloc (.cells #[.int .i64 1, .int .i64 2, .int .i64 3, .int .i64 4, .int .i64 5, .int .i64 6] 3)).alloc (.cells #[.int .i64 2, .int .i64 4, .int .i64 6] 3)).alloc (.cells #[.int .i64 2] 3)) [6] 3
  have a4 := MapL.made ((((w.alloc (.cells #[.int .i64 1, .int .i64 2, .int .i64 3, .int .i64 4, .int .i64 5, .int .i64 6] 3)).alloc (.cells #[.int .i64 2, .int .i64 4, .int .i64 6] 3)).alloc (.cells #[.int .i64 2] 3)).alloc (.cells #[.int .i64 6] 3))
  simp only [World.size_alloc] at a1 a2 a3 a4
  exact ⟨a4, ((((Below.refl _ w).alloc (Nat.le_refl _) _).alloc (by simp) _).alloc (by simp; omega) _ |>.alloc (by simp; omega) _).alloc (by simp; omega) _, (((a0.alloc _).alloc _).alloc _).alloc _, ((a1.alloc _).alloc _).alloc _, (a2.alloc _).alloc _, a3.alloc _⟩

set_option maxHeartbeats 4000000 in
set_option maxRecDepth 100000 in
theorem rules_any (w : World) : Calls Tryz.prog 16 #[] w fun e w' => ∃ b, e = .returned (.map (some b)) ∧ Rul w' b ∧ Below w.heap.size w w' := by
  have hmm := @run_makeMap Tryz.prog
  have R0 := start w
  unfold W0 at R0
  go_enter Tryz.func16, Tryz.ntmps16
  go_wp2_with fail
  generalize (((((w.alloc (.cells #[.int .i64 1, .int .i64 2, .int .i64 3, .int .i64 4, .int .i64 5, .int .i64 6] 3)).alloc (.cells #[.int .i64 2, .int .i64 4, .int .i64 6] 3)).alloc (.cells #[.int .i64 2] 3)).alloc (.cells #[.int .i64 6] 3)).alloc (.map #[] 0)) = V0 at *
  obtain ⟨V1, hr, R1⟩ := R0.insert (smalls rfl (ns := []) (by decide)) nDeprecated (small (by decide)) (news rfl (ns := []) (by decide)) (rl 1 (w.heap.size) 6)
  unfold rl at hr
  rw [hr]
  clear hr R0
  simp only [Result.andThen]
  rw [Oper.upon_skip]
  go_wp2_with fail
  obtain ⟨V2, hr, R2⟩ := R1.insert (smalls rfl (ns := [nDeprecated]) (by decide)) nDoc (small (by decide)) (news rfl (ns := [nDeprecated]) (by decide)) (rl 7 (w.heap.size) 6)
  unfold rl at hr
  rw [hr]
  clear hr R1
  simp only [Result.andThen]
  rw [Oper.upon_skip]
  go_wp2_with fail
  obtain ⟨V3, hr, R3⟩ := R2.insert (smalls rfl (ns := [nDeprecated, nDoc]) (by decide)) nAlias (small (by decide)) (news rfl (ns := [nDeprecated, nDoc]) (by decide)) (rl 7 (w.heap.size + 1) 3)
  unfold rl at hr
  rw [hr]
  clear hr R2
  simp only [Result.andThen]
  rw [Oper.upon_skip]
  go_wp2_with fail
  obtain ⟨V4, hr, R4⟩ := R3.insert (smalls rfl (ns := [nDeprecated, nDoc, nAlias]) (by decide)) nSince (small (by decide)) (news rfl (ns := [nDeprecated, nDoc, nAlias]) (by decide)) (rl 4 (w.heap.size + 1) 3)
  unfold rl at hr
  rw [hr]
  clear hr R3
  simp only [Result.andThen]
  rw [Oper.upon_skip]
  go_wp2_with fail
  obtain ⟨V5, hr, R5⟩ := R4.insert (smalls rfl (ns := [nDeprecated, nDoc, nAlias, nSince]) (by decide)) nUntil (small (by decide)) (news rfl (ns := [nDeprecated, nDoc, nAlias, nSince]) (by decide)) (rl 4 (w.heap.size + 1) 3)
  unfold rl at hr
  rw [hr]
  clear hr R4
  simp only [Result.andThen]
  rw [Oper.upon_skip]
  go_wp2_with fail
  obtain ⟨V6, hr, R6⟩ := R5.insert (smalls rfl (ns := [nDeprecated, nDoc, nAlias, nSince, nUntil]) (by decide)) nMin (small (by decide)) (news rfl (ns := [nDeprecated, nDoc, nAlias, nSince, nUntil]) (by decide)) (rl 3 (w.heap.size + 1 + 1) 1)
  unfold rl at hr
  rw [hr]
  clear hr R5
  simp only [Result.andThen]
  rw [Oper.upon_skip]
  go_wp2_with fail
  obtain ⟨V7, hr, R7⟩ := R6.insert (smalls rfl (ns := [nDeprecated, nDoc, nAlias, nSince, nUntil, nMin]) (by decide)) nMax (small (by decide)) (news rfl (ns := [nDeprecated, nDoc, nAlias, nSince, nUntil, nMin]) (by decide)) (rl 3 (w.heap.size + 1 + 1) 1)
  unfold rl at hr
  rw [hr]
  clear hr R6
  simp only [Result.andThen]
  rw [Oper.upon_skip]
  go_wp2_with fail
  obtain ⟨V8, hr, R8⟩ := R7.insert (smalls rfl (ns := [nDeprecated, nDoc, nAlias, nSince, nUntil, nMin, nMax]) (by decide)) nLength (small (by decide)) (news rfl (ns := [nDeprecated, nDoc, nAlias, nSince, nUntil, nMin, nMax]) (by decide)) (rl 4 (w.heap.size + 1 + 1) 1)
  unfold rl at hr
  rw [hr]
  clear hr R7
  simp only [Result.andThen]
  rw [Oper.upon_skip]
  go_wp2_with fail
  obtain ⟨V9, hr, R9⟩ := R8.insert (smalls rfl (ns := [nDeprecated, nDoc, nAlias, nSince, nUntil, nMin, nMax, nLength]) (by decide)) nSecret (small (by decide)) (news rfl (ns := [nDeprecated, nDoc, nAlias, nSince, nUntil, nMin, nMax, nLength]) (by decide)) (rl 1 (w.heap.size + 1 + 1) 1)
  unfold rl at hr
  rw [hr]
  clear hr R8
  simp only [Result.andThen]
  rw [Oper.upon_skip]
  go_wp2_with fail
  obtain ⟨V10, hr, R10⟩ := R9.insert (smalls rfl (ns := [nDeprecated, nDoc, nAlias, nSince, nUntil, nMin, nMax, nLength, nSecret]) (by decide)) nIdem (small (by decide)) (news rfl (ns := [nDeprecated, nDoc, nAlias, nSince, nUntil, nMin, nMax, nLength, nSecret]) (by decide)) (rl 1 (w.heap.size + 1 + 1 + 1) 1)
  unfold rl at hr
  rw [hr]
  clear hr R9
  simp only [Result.andThen]
  rw [Oper.upon_skip]
  go_wp2_with fail
  obtain ⟨V11, hr, R11⟩ := R10.insert (smalls rfl (ns := [nDeprecated, nDoc, nAlias, nSince, nUntil, nMin, nMax, nLength, nSecret, nIdem]) (by decide)) nTimeout (small (by decide)) (news rfl (ns := [nDeprecated, nDoc, nAlias, nSince, nUntil, nMin, nMax, nLength, nSecret, nIdem]) (by decide)) (rl 4 (w.heap.size + 1 + 1 + 1) 1)
  unfold rl at hr
  rw [hr]
  clear hr R10
  simp only [Result.andThen]
  rw [Oper.upon_skip]
  go_wp2_with fail
  obtain ⟨V12, hr, R12⟩ := R11.insert (smalls rfl (ns := [nDeprecated, nDoc, nAlias, nSince, nUntil, nMin, nMax, nLength, nSecret, nIdem, nTimeout]) (by decide)) nRoute (small (by decide)) (news rfl (ns := [nDeprecated, nDoc, nAlias, nSince, nUntil, nMin, nMax, nLength, nSecret, nIdem, nTimeout]) (by decide)) (rl 7 (w.heap.size + 1 + 1 + 1) 1)
  unfold rl at hr
  rw [hr]
  clear hr R11
  simp only [Result.andThen]
  rw [Oper.upon_skip]
  go_wp2_with fail
  have Ro := Tg.new V12 [1, 5] 3
  obtain ⟨V13, hr, hm, hg⟩ := (R12.alloc (.cells #[.int .i64 1, .int .i64 5] 3)).mp.update Tryz.underlying49 Tryz.underlying9 (smalls rfl (ns := [nDeprecated, nDoc, nAlias, nSince, nUntil, nMin, nMax, nLength, nSecret, nIdem, nTimeout, nRoute]) (by decide)) (s := nOwner) (small (by decide)) (news rfl (ns := [nDeprecated, nDoc, nAlias, nSince, nUntil, nMin, nMax, nLength, nSecret, nIdem, nTimeout, nRoute]) (by decide)) (rl 7 V12.heap.size 2)
  unfold rl at hr
  rw [hr]
  have R13 := (R12.alloc (.cells #[.int .i64 1, .int .i64 5] 3)).step hm hg
  have Ro2 := Ro.grown hg (by have := R12.mp.lt; omega)
  clear hr hm hg R12 Ro
  simp only [Result.andThen]
  rw [Oper.upon_skip]
  go_wp2_with fail
  go_ret
  exact ⟨_, rfl, ⟨_, _, _, _, _, R13.mp, R13.t0, R13.t1, R13.t2, R13.t3, Ro2⟩, R13.bl⟩
end Go.Proofs.YthjpchnogllliaaGreatDoor.NtpB

/- The program of stage 8: Kind; whether a list of targets has one. -/
set_option linter.unusedSimpArgs false
set_option linter.unusedVariables false
namespace Go.Proofs.YthjpchnogllliaaGreatDoor.NtpK
open Go.RowKit Nums NotM MapL NtpA NtpB

theorem field0 (w : World) (k : Int) (a : Option Addr) (l c : Nat) : (Instr.field 62 (.agg #[.int .i64 k, .slice a l c]) 0).run Tryz.prog w = .ok (.int .i64 k) w := by kernel_rfl
set_option maxHeartbeats 4000000 in
set_option maxRecDepth 100000 in
theorem pkind (s : ByteArray) (hs : s.size ≤ 140737488351232) (w : World) (hL : Tld.Ld w) :
    Calls Tryz.prog 13 #[.string s] w fun e w' => e = .returned (.int .i64 (kindN s.data.toList)) ∧ Below w.heap.size w w' := by
  obtain ⟨K, hK⟩ : ∃ K, K = kindN s.data.toList := ⟨_, rfl⟩
  rw [← hK]
  have HK := Lib.hid hK
  clear hK
  have hf := field0
  go_enter Tryz.func13, Tryz.ntmps13
  go_wp2_with fail
  refine (rules_any w).mono ?_
  rintro _ w1 ⟨b, rfl, hR, hb⟩
  rcases hR.look hs with ⟨hk, hl⟩ | ⟨hk, tb, ts, hl, _⟩
  · have hl1 := hl false
    have Hk := Lib.hid hk
    clear hl hk
    rw [if_neg (by decide)] at hl1
    go_wp2_with fail
    go_ret
    exact ⟨by rw [HK.out, Hk.out]; rfl, hb⟩
  · have hl1 := hl false
    clear hl hk
    rw [if_neg (by decide), ← HK.out] at hl1
    unfold rl at hl1
    go_wp2_with fail
    go_ret
    exact ⟨rfl, hb⟩

/-- The place of a number. -/
def ixI (t : Int) : Nat → List Int → Int
  | _, [] => -1
  | k, x :: r => if t = x then (k : Int) else ixI t (k + 1) r
theorem ix_contains (t : Int) : ∀ (l : List Int) (k : Nat), decide (0 ≤ ixI t k l) = l.contains t
  | [], k => rfl
  | x :: r, k => by
    unfold ixI
    by_cases h : t = x
    · rw [if_pos h, List.contains_cons, h]
      simp
    · rw [if_neg h, ix_contains t r, List.contains_cons]
      have : (t == x) = false := by rw [beq_eq_false_iff_ne]; exact h
      rw [this, Bool.false_or]
set_option maxHeartbeats 4000000 in
set_option maxRecDepth 100000 in
theorem indexI (b : Nat) (ts : List Int) (t : Int) (w : World) (h : Tg w b ts) (hl : ts.length ≤ 6) :
    Calls Tryz.prog 60 #[.slice (some ⟨b, 0, none⟩) ts.length ts.length, .int .i64 t] w fun e w' => e = .returned (.int .i64 (ixI t 0 ts)) ∧ w = w' := by
  obtain ⟨X, hX⟩ : ∃ X, X = ixI t 0 ts := ⟨_, rfl⟩
  rw [← hX]
  have HX := Lib.hid hX
  have HT := Lib.hid h.2
  clear hX h
  go_enter Tryz.func60, Tryz.ntmps60
  go_wp2_with fail
  go_loop [5, 8] (fun iv jv => ∃ k : Nat, k ≤ ts.length ∧ jv = .int .i64 k ∧ Hid (X = ixI t k (ts.drop k))) (fun iv jv => ts.length - (intOf jv).toNat)
  case atStart => exact ⟨0, by omega, rfl, Lib.hid (by rw [List.drop_zero]; exact HX.out)⟩
  case round =>
    obtain ⟨k, hk, rfl, Hk⟩ := hrel
    by_cases hlt : k < ts.length
    · obtain ⟨m, hm⟩ : ∃ m, ts[k]? = some m := ⟨_, List.getElem?_eq_getElem hlt⟩
      have c0 := HT.out k m hm
      have hx := Hk.out
      have hdrop : ts.drop k = m :: ts.drop (k + 1) := by
        obtain ⟨h1, h2⟩ := List.getElem?_eq_some_iff.1 hm
        rw [List.drop_eq_getElem_cons h1, h2]
      rw [hdrop, ixI] at hx
      clear hdrop hm
      by_cases he : t = m
      · have e1 : (t == m) = true := by rw [beq_iff_eq]; exact he
        rw [if_pos he] at hx
        have Hx := Lib.hid hx
        clear hx he
        go_wp2_with fail
        go_ret
        exact ⟨by rw [Hx.out]; rfl, rfl⟩
      · have e1 : (t == m) = false := by rw [beq_eq_false_iff_ne]; exact he
        rw [if_neg he] at hx
        have Hx := Lib.hid hx
        clear hx he
        go_wp2_with fail
        exact ⟨⟨k + 1, by omega, by go_num, Hx⟩, by simp [intOf]; omega⟩
    · obtain rfl : k = ts.length := by omega
      have hx := Hk.out
      rw [List.drop_of_length_le (Nat.le_refl _), ixI] at hx
      have Hx := Lib.hid hx
      clear hx
      go_wp2_with fail
      go_ret
      exact ⟨by rw [Hx.out]; rfl, rfl⟩
set_option maxHeartbeats 4000000 in
set_option maxRecDepth 100000 in
theorem containsI (b : Nat) (ts : List Int) (t : Int) (w : World) (h : Tg w b ts) (hl : ts.length ≤ 6) :
    Calls Tryz.prog 30 #[.slice (some ⟨b, 0, none⟩) ts.length ts.length, .int .i64 t] w fun e w' => e = .returned (.bool (ts.contains t)) ∧ w = w' := by
  rw [← ix_contains t ts 0]
  have H0 := Lib.hid (indexI b ts t w h hl)
  generalize ixI t 0 ts = X at *
  go_enter Tryz.func30, Tryz.ntmps30
  go_wp2_with fail
  refine (H0.out).mono ?_
  rintro _ w1 ⟨rfl, rfl⟩
  go_wp2_with fail
  go_ret
  exact ⟨rfl, rfl⟩
end Go.Proofs.YthjpchnogllliaaGreatDoor.NtpK
