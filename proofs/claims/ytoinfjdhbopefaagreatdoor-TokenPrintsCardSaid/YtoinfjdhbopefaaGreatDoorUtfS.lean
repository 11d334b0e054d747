/- The library's calls that package utf makes, and small facts on worlds with the iterator of a string. -/
import Derived.Test.YtoinfjdhbopefaaGreatDoorShelf
import Derived.Test.YtoinfjdhbopefaaGreatDoorBytT
import Derived.Test.YtoinfjdhbopefaaGreatDoorNums
import Derived.Test.YtoinfjdhbopefaaGreatDoorUtfD
import Derived.Test.YtoinfjdhbopefaaGreatDoorUtfQ
import Derived.WalkKit
import Derived.ProofKit
import Derived.WalkSpells
import Derived.WalkLawsBesides
import Derived.Lib.Hide
import Derived.Lib.Walk
import Derived.Lib.OthersKept
import Derived.WalkSmall
import Derived.Laws.RangeString
import Derived.Laws.RangeAny
import Derived.LoopTactic
set_option linter.unusedSimpArgs false
set_option linter.unusedVariables false
namespace Go.Proofs.YtoinfjdhbopefaaGreatDoor.UtfS
open Go.RowKit Nums Byt UtfM

theorem hasPrefix (s p : ByteArray) (w : World) : Calls Tryz.prog 26 #[.string s, .string p] w fun e w' => e = .returned (.bool (Lib.hasPrefix s.data.toList p.data.toList)) ∧ w = w' :=
  (Tryz.strings_HasPrefix s p w).mono fun _ _ ⟨h1, h2⟩ => ⟨h1, h2.symm⟩
theorem indexByte (s : ByteArray) (b : UInt8) (c : Int) (hc : c = (b.toNat : Int)) (w : World) : Calls Tryz.prog 31 #[.string s, .int .u8 c] w fun e w' => e = .returned (.int .i64 (Lib.indexByte s.data.toList b)) ∧ w = w' :=
  (Tryz.strings_IndexByte s c w).mono fun _ _ ⟨h1, h2⟩ => ⟨by rw [h1, hc]; simp, h2.symm⟩

/-- A rune appended to bytes of the call's own. -/
theorem appendRune (base : Nat) (v : Value) (l : List UInt8) (r : Int) (hr0 : 0 ≤ r) (hr1 : r ≤ 2147483647) (w : World) (hown : OwnB w base 5 v l) (hlen : l.length + 4 ≤ 140737488355328) (hb : base ≤ w.heap.size) :
    Calls Tryz.prog 62 #[v, .int .i32 r] w fun e w' => ∃ v', e = .returned v' ∧ OwnB w' base 5 v' (l ++ Lib.encodeRune r) ∧ (∃ o, (w.alloc o).grownBy w' v.ownBlock) := by
  refine (Tryz.utf8_AppendRune_plain base v l.length (l.map bv) r (by omega) hr1 w hown hlen hb).mono ?_
  rintro e w' ⟨v', he, ho, o, hg⟩
  refine ⟨v', he, ?_, o, hg⟩
  unfold OwnB
  rw [List.length_append, List.map_append, ← Lib.runeCells_length]
  have : (Lib.encodeRune r).map bv = Lib.runeCells r := Lib.byteCells_encodeRune r
  rw [this]
  exact ho

/-- The bytes stay while the iterator of a string moves on. -/
theorem ownB_iter {w : World} {base : Nat} {e : TypeId} {v : Value} {l : List UInt8} (h : OwnB w base e v l) {k : Nat} {s : ByteArray} {p : Nat} (hk : w.heap[k]? = some (.stringIter s p)) (q : Nat) : OwnB (w.iterAt k s q) base e v l := by
  unfold OwnB at h ⊢
  obtain ⟨h1, h2⟩ := h
  refine ⟨h1, ?_⟩
  rcases h2 with h2 | ⟨g, cap, cur, a, b, c, d⟩
  · exact .inl h2
  · refine .inr ⟨g, cap, cur, a, b, ?_, d⟩
    rw [Lib.iterAt_other _ _ _ _ _ (fun e => ?_)]
    · exact c
    · subst e; rw [c] at hk; cases hk
/-- The iterator stays while bytes of the call's own grow. -/
theorem iter_grown {w w' : World} {base : Nat} {e : TypeId} {v : Value} {l : List UInt8} (h : OwnB w base e v l) {k : Nat} {s : ByteArray} {p : Nat} (hk : w.heap[k]? = some (.stringIter s p)) (hg : w.grownBy w' v.ownBlock) : w'.heap[k]? = some (.stringIter s p) := by
  rw [hg.block k (Array.getElem?_eq_some_iff.1 hk).1 (fun e2 => ?_)]
  · exact hk
  · rcases h.2 with ⟨rfl, _⟩ | ⟨g, cap, cur, rfl, _, c, _⟩
    · cases e2
    · simp [Value.ownBlock] at e2
      subst e2
      rw [c] at hk; cases hk
theorem iter_alloc {w : World} {k : Nat} {s : ByteArray} {p : Nat} (hk : w.heap[k]? = some (.stringIter s p)) (o : Obj) : (w.alloc o).heap[k]? = some (.stringIter s p) := by
  rw [heap_alloc_old w o (Array.getElem?_eq_some_iff.1 hk).1]; exact hk
theorem ret_int {a b : Int} (h : a = b) : Ending.returned (.int .i64 a) = .returned (.int .i64 b) := by rw [h]
theorem ret_bool {a b : Bool} (h : a = b) : Ending.returned (.bool a) = .returned (.bool b) := by rw [h]
/-- A part of a string from an index on, as bytes. -/
theorem drop_data (s : ByteArray) (i : Nat) : (s.extract i s.size).data.toList = s.data.toList.drop i := by
  have : s.data.toList.length = s.size := rfl
  simp
  rw [List.take_of_length_le (by simp)]
end Go.Proofs.YtoinfjdhbopefaaGreatDoor.UtfS
