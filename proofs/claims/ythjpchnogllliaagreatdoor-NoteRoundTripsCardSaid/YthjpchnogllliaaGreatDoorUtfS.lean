import Derived.Test.YthjpchnogllliaaGreatDoorUtfQ
import Derived.Laws.RangeAny
import Derived.Lib.Strings
import Derived.Test.YthjpchnogllliaaGreatDoorShelf
import Derived.Test.YthjpchnogllliaaGreatDoorBytT
import Derived.Test.YthjpchnogllliaaGreatDoorNums
import Derived.WalkKit
import Derived.ProofKit
import Derived.WalkSpells
import Derived.WalkLawsBesides
import Derived.Lib.Hide
import Derived.Lib.Walk
import Derived.Lib.OthersKept
import Derived.WalkSmall
import Derived.Laws.RangeString
import Derived.LoopTactic
/- Stage 3: the model's own decoding of a string, rune by rune, against the parts of its bytes. Of no program. -/
set_option linter.unusedSimpArgs false
set_option linter.unusedVariables false
namespace Go.Proofs.YthjpchnogllliaaGreatDoor.UtfD
open UtfM

theorem at_some {s : ByteArray} {i k : Nat} {b : UInt8} (h : s.data.toList[i + k]? = some b) : i + k < s.size ∧ s.get! (i + k) = b := by
  obtain ⟨h1, h2⟩ := List.getElem?_eq_some_iff.1 h
  have h1' : i + k < s.size := h1
  refine ⟨h1', ?_⟩
  have : s.get! (i + k) = s[i + k] := by
    simp [ByteArray.get!, getElem!_pos, h1']
    rfl
  rw [this, ← h2]
  rfl
theorem at_lt {s : ByteArray} {i k : Nat} (h : i + k < s.size) : s.data.toList[i + k]? = some (s.get! (i + k)) := by
  have : s.get! (i + k) = s[i + k] := by
    simp [ByteArray.get!, getElem!_pos, h]
    rfl
  rw [this, List.getElem?_eq_getElem h]
  rfl

/-- Where no well-formed sequence begins. -/
theorem decode_wrong {s : ByteArray} {i : Nat} (h : i < s.size) (hz : sz (s.data.toList.drop i) = 0) : Utf8.decode s i = (65533, 1) := by
  rw [sz_drop] at hz
  have h0 := at_lt (s := s) (i := i) (k := 0) h
  have hb : ∀ k, (s.get! (i + k)).toNat < 256 := fun k => (s.get! (i + k)).toNat_lt
  have b0 := hb 0
  have b1 := hb 1
  have b2 := hb 2
  have b3 := hb 3
  unfold Utf8.decode
  simp only []
  split
  · rename_i hc
    exact absurd (szF_mk1 (f := fun k => s.data.toList[i + k]?) h0 hc) (by omega)
  · split
    · rename_i hc
      simp only [Bool.and_eq_true, beq_iff_eq, decide_eq_true_eq] at hc
      obtain ⟨c0, c1, c2⟩ := hc
      split
      · rename_i hd
        have h1 := at_lt (s := s) c1
        exact absurd (szF_mk2 (f := fun k => s.data.toList[i + k]?) h0 h1 (by unfold W2; omega)) (by omega)
      · rfl
    · split
      · rename_i hc
        simp only [Bool.and_eq_true, beq_iff_eq, decide_eq_true_eq] at hc
        obtain ⟨⟨c0, c1, c2⟩, c3, c4⟩ := hc
        split
        · rename_i hd
          have h1 := at_lt (s := s) c1
          have h2 := at_lt (s := s) c3
          simp only [Utf8.valid, Bool.and_eq_true, Bool.or_eq_true, decide_eq_true_eq] at hd
          exact absurd (szF_mk3 (f := fun k => s.data.toList[i + k]?) h0 h1 h2 (by unfold W3; omega)) (by omega)
        · rfl
      · split
        · rename_i hc
          simp only [Bool.and_eq_true, beq_iff_eq, decide_eq_true_eq] at hc
          obtain ⟨⟨⟨c0, c1, c2⟩, c3, c4⟩, c5, c6⟩ := hc
          split
          · rename_i hd
            have h1 := at_lt (s := s) c1
            have h2 := at_lt (s := s) c3
            have h3 := at_lt (s := s) c5
            simp only [Utf8.valid, Bool.and_eq_true, Bool.or_eq_true, decide_eq_true_eq] at hd
            exact absurd (szF_mk4 (f := fun k => s.data.toList[i + k]?) h0 h1 h2 h3 (by unfold W4; omega)) (by omega)
          · rfl
        · rfl

theorem take1 {l : List UInt8} {a : UInt8} (h : l[0]? = some a) : l.take 1 = [a] := by
  cases l with
  | nil => simp at h
  | cons x t => simp at h; simp [h]
theorem take2 {l : List UInt8} {a b : UInt8} (h : l[0]? = some a) (h1 : l[1]? = some b) : l.take 2 = [a, b] := by
  match l, h, h1 with
  | x :: y :: t, h, h1 => simp at h h1; simp [h, h1]
theorem take3 {l : List UInt8} {a b c : UInt8} (h : l[0]? = some a) (h1 : l[1]? = some b) (h2 : l[2]? = some c) : l.take 3 = [a, b, c] := by
  match l, h, h1, h2 with
  | x :: y :: z :: t, h, h1, h2 => simp at h h1 h2; simp [h, h1, h2]
theorem take4 {l : List UInt8} {a b c d : UInt8} (h : l[0]? = some a) (h1 : l[1]? = some b) (h2 : l[2]? = some c) (h3 : l[3]? = some d) : l.take 4 = [a, b, c, d] := by
  match l, h, h1, h2, h3 with
  | x :: y :: z :: u :: t, h, h1, h2, h3 => simp at h h1 h2 h3; simp [h, h1, h2, h3]

theorem u8_of {a : UInt8} {z : Int} (h : z = (a.toNat : Int)) : z.toNat.toUInt8 = a := by
  subst h
  simp

theorem enc2 {a b : UInt8} (h : W2 a.toNat b.toNat) : Lib.encodeRune ((a.toNat % 32 * 64 + b.toNat % 64 : Nat) : Int) = [a, b] := by
  obtain ⟨w1, w2, w3, w4⟩ := h
  rw [Lib.encodeRune, Lib.encodeRuneZ_two (by omega) (by omega)]
  simp only [List.map_cons, List.map_nil]
  rw [u8_of (a := a) (by omega), u8_of (a := b) (by omega)]
theorem enc3 {a b c : UInt8} (h : W3 a.toNat b.toNat c.toNat) : Lib.encodeRune ((a.toNat % 16 * 4096 + b.toNat % 64 * 64 + c.toNat % 64 : Nat) : Int) = [a, b, c] := by
  unfold W3 at h
  rw [Lib.encodeRune, Lib.encodeRuneZ_three (by omega)]
  simp only [List.map_cons, List.map_nil]
  rw [u8_of (a := a) (by omega), u8_of (a := b) (by omega), u8_of (a := c) (by omega)]
theorem enc4 {a b c d : UInt8} (h : W4 a.toNat b.toNat c.toNat d.toNat) : Lib.encodeRune ((a.toNat % 8 * 262144 + b.toNat % 64 * 4096 + c.toNat % 64 * 64 + d.toNat % 64 : Nat) : Int) = [a, b, c, d] := by
  unfold W4 at h
  rw [Lib.encodeRune, Lib.encodeRuneZ_four (by omega) (by omega)]
  simp only [List.map_cons, List.map_nil]
  rw [u8_of (a := a) (by omega), u8_of (a := b) (by omega), u8_of (a := c) (by omega), u8_of (a := d) (by omega)]

/-- Where one does. -/
theorem decode_well {s : ByteArray} {i : Nat} (hz : sz (s.data.toList.drop i) ≠ 0) :
    (Utf8.decode s i).2 = sz (s.data.toList.drop i) ∧ Lib.encodeRune (Utf8.decode s i).1 = (s.data.toList.drop i).take (sz (s.data.toList.drop i)) := by
  rw [sz_drop] at hz ⊢
  have dropAt : ∀ k, (s.data.toList.drop i)[k]? = s.data.toList[i + k]? := fun k => by rw [List.getElem?_drop]
  rcases szF_cases (fun k => s.data.toList[i + k]?) with h' | ⟨hs, a, h0, hw⟩ | ⟨hs, a, b, h0, h1, hw⟩ | ⟨hs, a, b, c, h0, h1, h2, hw⟩ | ⟨hs, a, b, c, d, h0, h1, h2, h3, hw⟩
  · exact absurd h' hz
  all_goals rw [hs]
  · obtain ⟨_, e0⟩ := at_some h0
    have hd : Utf8.decode s i = (a.toNat, 1) := by simp [Utf8.decode, show s.get! i = a from e0, hw]
    rw [hd, take1 ((dropAt 0).trans h0)]
    refine ⟨rfl, ?_⟩
    rw [Lib.encodeRune, Lib.encodeRuneZ_one (by omega) (by omega)]
    simp
  · obtain ⟨_, e0⟩ := at_some h0
    obtain ⟨l1, e1⟩ := at_some h1
    have hw' := hw
    obtain ⟨w1, w2, w3, w4⟩ := hw
    have n0 : ¬ a.toNat < 128 := by omega
    have n1 : a.toNat / 32 = 6 := by omega
    have n2 : b.toNat / 64 = 2 := by omega
    have n3 : 128 ≤ a.toNat % 32 * 64 + b.toNat % 64 := by omega
    have hd : Utf8.decode s i = (a.toNat % 32 * 64 + b.toNat % 64, 2) := by simp [Utf8.decode, show s.get! i = a from e0, e1, l1, n0, n1, n2, n3]
    rw [hd, take2 ((dropAt 0).trans h0) ((dropAt 1).trans h1)]
    exact ⟨rfl, enc2 hw'⟩
  · obtain ⟨_, e0⟩ := at_some h0
    obtain ⟨l1, e1⟩ := at_some h1
    obtain ⟨l2, e2⟩ := at_some h2
    have hw' := hw
    unfold W3 at hw
    have n0 : ¬ a.toNat < 128 := by omega
    have n1 : a.toNat / 32 = 7 := by omega
    have n1' : a.toNat / 16 = 14 := by omega
    have n2 : b.toNat / 64 = 2 := by omega
    have n3 : c.toNat / 64 = 2 := by omega
    have n4 : 2048 ≤ a.toNat % 16 * 4096 + b.toNat % 64 * 64 + c.toNat % 64 := by omega
    have n5 : Utf8.valid ((a.toNat % 16 * 4096 + b.toNat % 64 * 64 + c.toNat % 64 : Nat) : Int) = true := by
      simp only [Utf8.valid, Bool.or_eq_true, Bool.and_eq_true, decide_eq_true_eq]; omega
    have hd : Utf8.decode s i = (a.toNat % 16 * 4096 + b.toNat % 64 * 64 + c.toNat % 64, 3) := by
      simp only [Utf8.decode, show s.get! (i + 0) = a from e0, e1, e2, l1, l2, if_neg n0, n1, n1', n2, n3, n5]
      simp [n4]
    rw [hd, take3 ((dropAt 0).trans h0) ((dropAt 1).trans h1) ((dropAt 2).trans h2)]
    exact ⟨rfl, enc3 hw'⟩
  · obtain ⟨_, e0⟩ := at_some h0
    obtain ⟨l1, e1⟩ := at_some h1
    obtain ⟨l2, e2⟩ := at_some h2
    obtain ⟨l3, e3⟩ := at_some h3
    have hw' := hw
    unfold W4 at hw
    have n0 : ¬ a.toNat < 128 := by omega
    have n1 : a.toNat / 32 = 7 := by omega
    have n1' : a.toNat / 16 = 15 := by omega
    have n1'' : a.toNat / 8 = 30 := by omega
    have n2 : b.toNat / 64 = 2 := by omega
    have n3 : c.toNat / 64 = 2 := by omega
    have n3' : d.toNat / 64 = 2 := by omega
    have n4 : 65536 ≤ a.toNat % 8 * 262144 + b.toNat % 64 * 4096 + c.toNat % 64 * 64 + d.toNat % 64 := by omega
    have n5 : Utf8.valid ((a.toNat % 8 * 262144 + b.toNat % 64 * 4096 + c.toNat % 64 * 64 + d.toNat % 64 : Nat) : Int) = true := by
      simp only [Utf8.valid, Bool.or_eq_true, Bool.and_eq_true, decide_eq_true_eq]; omega
    have hd : Utf8.decode s i = (a.toNat % 8 * 262144 + b.toNat % 64 * 4096 + c.toNat % 64 * 64 + d.toNat % 64, 4) := by
      simp only [Utf8.decode, show s.get! (i + 0) = a from e0, e1, e2, e3, l1, l2, l3, if_neg n0, n1, n1', n1'', n2, n3, n3', n5]
      simp [n4]
    rw [hd, take4 ((dropAt 0).trans h0) ((dropAt 1).trans h1) ((dropAt 2).trans h2) ((dropAt 3).trans h3)]
    exact ⟨rfl, enc4 hw'⟩

/-- How far the model goes. -/
theorem decode_step {s : ByteArray} {i : Nat} (h : i < s.size) : (Utf8.decode s i).2 = stp (s.data.toList.drop i) := by
  unfold stp
  by_cases hz : sz (s.data.toList.drop i) = 0
  · rw [if_pos hz, decode_wrong h hz]
  · rw [if_neg hz]; exact (decode_well hz).1

theorem sz_fffd {l : List UInt8} (h : Lib.hasPrefix l [239, 191, 189] = true) : sz l = 3 := by
  obtain ⟨r, rfl⟩ := List.isPrefixOf_iff_prefix.1 h
  exact szF_mk3 (a := 239) (b := 191) (c := 189) (by simp) (by simp) (by simp) (by unfold W3; decide)
/-- The program's own test for a wrong byte. -/
theorem wrong_iff {s : ByteArray} {i : Nat} (h : i < s.size) :
    (((Utf8.decode s i).1 : Int) == 65533 && !Lib.hasPrefix (s.data.toList.drop i) [239, 191, 189]) = decide (sz (s.data.toList.drop i) = 0) := by
  by_cases hz : sz (s.data.toList.drop i) = 0
  · rw [decode_wrong h hz]
    cases hp : Lib.hasPrefix (s.data.toList.drop i) [239, 191, 189] with
    | true => have := sz_fffd hp; omega
    | false => simp [hz]
  · have hne : decide (sz (s.data.toList.drop i) = 0) = false := by simp [hz]
    rw [hne]
    by_cases hr : (Utf8.decode s i).1 = 65533
    · have h2 := (decode_well hz).2
      rw [hr] at h2
      have he : Lib.encodeRune ((65533 : Nat) : Int) = [239, 191, 189] := by decide
      have hp : Lib.hasPrefix (s.data.toList.drop i) [239, 191, 189] = true := by
        rw [← he, h2]
        exact List.isPrefixOf_iff_prefix.2 (List.take_prefix _ _)
      simp [hp]
    · have : (((Utf8.decode s i).1 : Int) == 65533) = false := by
        simp only [beq_eq_false_iff_ne]; omega
      rw [this]; rfl
end Go.Proofs.YthjpchnogllliaaGreatDoor.UtfD

/- The library's calls that package utf makes, and small facts on worlds with the iterator of a string. -/
set_option linter.unusedSimpArgs false
set_option linter.unusedVariables false
namespace Go.Proofs.YthjpchnogllliaaGreatDoor.UtfS
open Go.RowKit Nums Byt UtfM

theorem hasPrefix (s p : ByteArray) (w : World) : Calls Tryz.prog 51 #[.string s, .string p] w fun e w' => e = .returned (.bool (Lib.hasPrefix s.data.toList p.data.toList)) ∧ w = w' :=
  (Tryz.strings_HasPrefix s p w).mono fun _ _ ⟨h1, h2⟩ => ⟨h1, h2.symm⟩
theorem indexByte (s : ByteArray) (b : UInt8) (c : Int) (hc : c = (b.toNat : Int)) (w : World) : Calls Tryz.prog 56 #[.string s, .int .u8 c] w fun e w' => e = .returned (.int .i64 (Lib.indexByte s.data.toList b)) ∧ w = w' :=
  (Tryz.strings_IndexByte s c w).mono fun _ _ ⟨h1, h2⟩ => ⟨by rw [h1, hc]; simp, h2.symm⟩

/-- A rune appended to bytes of the call's own. -/
theorem appendRune (base : Nat) (v : Value) (l : List UInt8) (r : Int) (hr0 : 0 ≤ r) (hr1 : r ≤ 2147483647) (w : World) (hown : OwnB w base 5 v l) (hlen : l.length + 4 ≤ 140737488355328) (hb : base ≤ w.heap.size) :
    Calls Tryz.prog 77 #[v, .int .i32 r] w fun e w' => ∃ v', e = .returned v' ∧ OwnB w' base 5 v' (l ++ Lib.encodeRune r) ∧ (∃ o, (w.alloc o).grownBy w' v.ownBlock) := by
  refine (Tryz.utf8_AppendRune_plain base v l.length (l.map bv) r (by omega) hr1 w hown hlen hb).mono ?_
  rintro e w' ⟨v', he, ho, o, hg⟩
  refine ⟨v', he, ?_, o, hg⟩
  unfold OwnB
  rw [List.length_append, List.map_append, ← Lib.runeCells_length]
  have : (Lib.encodeRune r).map bv = Lib.runeCells r := Lib.byteCells_encodeRune r
  rw [this]
  exact ho

/-- The bytes stay while the iterator of a string moves on. -/
theorem ownB_iter {w : World} {base : Nat} {e : TypeId} {v : Value} {l : List UInt8} (h : OwnB w base e v l) {k : Nat} {s : ByteArray} {p : Nat} (hk : w.heap[k]? = some (.stringIter s p)) (q : Nat) : OwnB (w.iterAt k s q) base e v l := by
  unfold OwnB at h ⊢
  obtain ⟨h1, h2⟩ := h
  refine ⟨h1, ?_⟩
  rcases h2 with h2 | ⟨g, cap, cur, a, b, c, d⟩
  · exact .inl h2
  · refine .inr ⟨g, cap, cur, a, b, ?_, d⟩
    rw [Lib.iterAt_other _ _ _ _ _ (fun e => ?_)]
    · exact c
    · subst e; rw [c] at hk; cases hk
/-- The iterator stays while bytes of the call's own grow. -/
theorem iter_grown {w w' : World} {base : Nat} {e : TypeId} {v : Value} {l : List UInt8} (h : OwnB w base e v l) {k : Nat} {s : ByteArray} {p : Nat} (hk : w.heap[k]? = some (.stringIter s p)) (hg : w.grownBy w' v.ownBlock) : w'.heap[k]? = some (.stringIter s p) := by
  rw [hg.block k (Array.getElem?_eq_some_iff.1 hk).1 (fun e2 => ?_)]
  · exact hk
  · rcases h.2 with ⟨rfl, _⟩ | ⟨g, cap, cur, rfl, _, c, _⟩
    · cases e2
    · simp [Value.ownBlock] at e2
      subst e2
      rw [c] at hk; cases hk
theorem iter_alloc {w : World} {k : Nat} {s : ByteArray} {p : Nat} (hk : w.heap[k]? = some (.stringIter s p)) (o : Obj) : (w.alloc o).heap[k]? = some (.stringIter s p) := by
  rw [heap_alloc_old w o (Array.getElem?_eq_some_iff.1 hk).1]; exact hk
theorem ret_int {a b : Int} (h : a = b) : Ending.returned (.int .i64 a) = .returned (.int .i64 b) := by rw [h]
theorem ret_bool {a b : Bool} (h : a = b) : Ending.returned (.bool a) = .returned (.bool b) := by rw [h]
/-- A part of a string from an index on, as bytes. -/
theorem drop_data (s : ByteArray) (i : Nat) : (s.extract i s.size).data.toList = s.data.toList.drop i := by
  have : s.data.toList.length = s.size := rfl
  simp
  rw [List.take_of_length_le (by simp)]
end Go.Proofs.YthjpchnogllliaaGreatDoor.UtfS
