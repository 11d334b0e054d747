import Derived.Test.YthjpchnogllliaaGreatDoorNums
import Derived.ProofKit
import Derived.Test.YthjpchnogllliaaGreatDoorTkrC
import Derived.Test.YthjpchnogllliaaGreatDoorUtfL
import Derived.BigQuiet
import Derived.Test.YthjpchnogllliaaGreatDoorTkpM
import Derived.Laws.AppendOwn
import Derived.Laws.OwnMore
/- A block of four cells: what it holds in worlds that have only grown. -/
set_option linter.unusedSimpArgs false
set_option linter.unusedVariables false
namespace Go.Proofs.YthjpchnogllliaaGreatDoor.Box4
open Go.RowKit

structure B4 (w : World) (k : Nat) (v0 v1 v2 v3 : Value) : Prop where
  lt : k < w.heap.size
  c0 : w.cell? ⟨k, 0, none⟩ = some v0
  c1 : w.cell? ⟨k, 1, none⟩ = some v1
  c2 : w.cell? ⟨k, 2, none⟩ = some v2
  c3 : w.cell? ⟨k, 3, none⟩ = some v3
  fz : ∀ o, w.frozen? ⟨k, o, none⟩ = false
theorem b4_new (w : World) (v0 v1 v2 v3 : Value) (T : TypeId) : B4 (w.alloc (.cells #[v0, v1, v2, v3] T)) w.heap.size v0 v1 v2 v3 := by
  refine ⟨by simp, ?_, ?_, ?_, ?_, fun o => by simp⟩ <;> (rw [World.cell?_alloc_at _ _ _ _ rfl]; rfl)
section
variable {w w1 : World} {k : Nat} {v0 v1 v2 v3 : Value}
theorem B4.belowB {B : Nat} (h : B4 w k v0 v1 v2 v3) (hk : k < B) (hb : Below B w w1) : B4 w1 k v0 v1 v2 v3 := by
  have hc : ∀ o, w1.cell? ⟨k, o, none⟩ = w.cell? ⟨k, o, none⟩ := fun o => hb.cell (p := ⟨k, o, none⟩) hk
  exact ⟨Nat.lt_of_lt_of_le h.lt hb.size, (hc _).trans h.c0, (hc _).trans h.c1, (hc _).trans h.c2, (hc _).trans h.c3, fun o => (hb.frozen (p := ⟨k, o, none⟩) hk).trans (h.fz o)⟩
theorem B4.below (h : B4 w k v0 v1 v2 v3) (hb : Below w.heap.size w w1) : B4 w1 k v0 v1 v2 v3 := h.belowB h.lt hb
theorem B4.alloc (h : B4 w k v0 v1 v2 v3) (o : Obj) : B4 (w.alloc o) k v0 v1 v2 v3 := h.below ((Below.refl _ _).alloc (Nat.le_refl _) o)
theorem B4.drew (h : B4 w k v0 v1 v2 v3) : B4 w.drew k v0 v1 v2 v3 := h.below (Below.refl _ _).drew
theorem B4.cells (h : B4 w k v0 v1 v2 v3) : w.cell? ⟨k, 0, none⟩ = some v0 ∧ w.cell? ⟨k, 1, none⟩ = some v1 ∧ w.cell? ⟨k, 2, none⟩ = some v2 ∧ w.cell? ⟨k, 3, none⟩ = some v3 := ⟨h.c0, h.c1, h.c2, h.c3⟩
end
end Go.Proofs.YthjpchnogllliaaGreatDoor.Box4

/- The reference of stage 7: the token that begins at a place. -/
set_option linter.unusedSimpArgs false
set_option linter.unusedVariables false
namespace Go.Proofs.YthjpchnogllliaaGreatDoor.TkrD
open Go.RowKit Nums IdnM IdnC TokM TokD TokS IdrA TkrA TkrB TkrC Box4

/-- A token in memory, on the line ln. -/
def tv (k : Tok) (ln : Int) : Value := .agg #[.int .i64 k.kind, .string ⟨k.text.toArray⟩, .int .i64 k.num, .int .i64 ln]
def noTok : Tok := ⟨0, [], 0⟩
/-- What integer and one return: a token, where it ends, and the error. -/
def Res (x : Except Nat (Tok × Nat)) (i : Nat) (v : Value) : Prop := ∃ (k : Tok) (n er : Nat), v = .tuple #[tv k 0, .int .i64 ((i + n : Nat) : Int), .int .i64 (er : Int)] ∧ ((∃ m, x = .ok m ∧ m = (k, n) ∧ er = 0) ∨ (x = .error er))
def RB (x : Except Nat (Tok × Nat)) (i : Nat) (w : World) (e : Ending) (w' : World) : Prop := ∃ v, e = .returned v ∧ Res x i v ∧ Below w.heap.size w w'
theorem rb_ok {x : Except Nat (Tok × Nat)} {i n : Nat} {k : Tok} {w w' : World} {t : ByteArray} {kd nu z : Int} (h : x = .ok (k, n)) (h1 : k.kind = kd) (h2 : k.text = t.data.toList) (h3 : k.num = nu) (hz : z = ((i + n : Nat) : Int)) (hb : Below w.heap.size w w') :
    RB x i w (.returned (.tuple #[.agg #[.int .i64 kd, .string t, .int .i64 nu, .int .i64 0], .int .i64 z, .int .i64 0])) w' := by
  refine ⟨_, rfl, ⟨k, n, 0, ?_, .inl ⟨_, h, rfl, rfl⟩⟩, hb⟩
  rw [hz, ← h1, ← h3]
  simp only [tv, h2]
  rfl
theorem rb_err {x : Except Nat (Tok × Nat)} {i n er : Nat} {w w' : World} {z : Int} (h : x = .error er) (hz : z = ((i + n : Nat) : Int)) (hb : Below w.heap.size w w') :
    RB x i w (.returned (.tuple #[.agg #[.int .i64 0, .string ⟨#[]⟩, .int .i64 0, .int .i64 0], .int .i64 z, .int .i64 (er : Int)])) w' := by
  refine ⟨_, rfl, ⟨noTok, n, er, ?_, .inr h⟩, hb⟩
  rw [hz]
  rfl
theorem rb_err2 {x : Except Nat (Tok × Nat)} {i n er : Nat} {w w' : World} {z kd nu : Int} {t : ByteArray} (h : x = .error er) (hz : z = ((i + n : Nat) : Int)) (hb : Below w.heap.size w w') :
    RB x i w (.returned (.tuple #[.agg #[.int .i64 kd, .string t, .int .i64 nu, .int .i64 0], .int .i64 z, .int .i64 (er : Int)])) w' := by
  refine ⟨_, rfl, ⟨⟨kd, t.data.toList, nu⟩, n, er, ?_, .inr h⟩, hb⟩
  rw [hz]
  rfl
theorem rb_raw {x : Except Nat (Tok × Nat)} {i n er : Nat} {k : Tok} {w w' : World} {z : Int} (h : (∃ m, x = .ok m ∧ m = (k, n) ∧ er = 0) ∨ x = .error er) (hz : z = ((i + n : Nat) : Int)) (hb : Below w.heap.size w w') :
    RB x i w (.returned (.tuple #[.agg #[.int .i64 k.kind, .string ⟨k.text.toArray⟩, .int .i64 k.num, .int .i64 0], .int .i64 z, .int .i64 (er : Int)])) w' := by
  refine ⟨_, rfl, ⟨k, n, er, ?_, h⟩, hb⟩
  rw [hz]
  rfl
theorem below4 {B : Nat} {a w : World} (h : Below B a w) {g : Nat} (hg : B ≤ g) (v0 v1 v2 v3 : Value) : Below B a ((((w.setCell ⟨g, 0, none⟩ v0).setCell ⟨g, 1, none⟩ v1).setCell ⟨g, 2, none⟩ v2).setCell ⟨g, 3, none⟩ v3) :=
  (((h.setCell (p := ⟨g, 0, none⟩) hg _).setCell (p := ⟨g, 1, none⟩) hg _).setCell (p := ⟨g, 2, none⟩) hg _).setCell (p := ⟨g, 3, none⟩) hg _

theorem dlen_step {s : ByteArray} {k : Nat} (h : k < s.size) (hi : dg (atB s k) = true) : dlen (s.data.toList.drop k) = dlen (s.data.toList.drop (k + 1)) + 1 := by
  rw [drop_at h]
  unfold dlen
  rw [List.takeWhile_cons_of_pos hi]
  rfl
theorem dlen_stop {s : ByteArray} {k : Nat} (hi : dg (atB s k) = false) : dlen (s.data.toList.drop k) = 0 := by
  rcases Nat.lt_or_ge k s.size with h | h
  · rw [drop_at h]
    unfold dlen
    rw [List.takeWhile_cons_of_neg (by rw [hi]; simp)]
    rfl
  · rw [drop_end h]; rfl
theorem dg_in {s : ByteArray} {k : Nat} (h : dg (atB s k) = true) : k < s.size := by
  rcases Nat.lt_or_ge k s.size with h1 | h1
  · exact h1
  · rw [atB_ge h1] at h; exact absurd h (by decide)
theorem ext_take (s : ByteArray) (i n : Nat) : (s.extract i (i + n)).data.toList = (s.data.toList.drop i).take n := by
  have : (s.extract i (i + n)).data.toList = (s.data.toList.take (i + n)).drop i := by
    simp only [ByteArray.data_extract, Array.toList_extract, List.extract_eq_take_drop]
    rw [List.drop_take]
  rw [this, List.drop_take, show i + n - i = n by omega]

/-- The integer that begins with a digit. -/
def intE (l : List UInt8) : Except Nat (Tok × Nat) := match l.drop (dlen l) with
  | [] => (number (l.take (dlen l))).map fun n => (⟨2, [], n⟩, dlen l)
  | c :: _ => if wch c then .error 2 else (number (l.take (dlen l))).map fun n => (⟨2, [], n⟩, dlen l)
theorem intE_bad {l : List UInt8} {c : UInt8} {r : List UInt8} (e : l.drop (dlen l) = c :: r) (h : wch c = true) : intE l = .error 2 := by
  unfold intE
  rw [e]
  exact if_pos h
theorem intE_num {l : List UInt8} (h : ∀ c r, l.drop (dlen l) = c :: r → wch c = false) : intE l = (number (l.take (dlen l))).map fun n => (⟨2, [], n⟩, dlen l) := by
  unfold intE
  split
  · rfl
  · rename_i c r e
    rw [h c r e]
    rfl
theorem one_intE {b : UInt8} {t : List UInt8} (h : nm (b :: t) = 0) (hd : dg b = true) : one (b :: t) = intE (b :: t) := by
  cases e : (b :: t).drop (dlen (b :: t)) with
  | nil =>
    have hn : ∀ c r, (b :: t).drop (dlen (b :: t)) = c :: r → wch c = false := fun c r e2 => by rw [e] at e2; cases e2
    rw [one_int h hd hn, intE_num hn]
  | cons c r =>
    cases hw : wch c with
    | true => rw [one_int_bad h hd e hw, intE_bad e hw]
    | false =>
      have hn : ∀ c r, (b :: t).drop (dlen (b :: t)) = c :: r → wch c = false := fun c2 r2 e2 => by rw [e] at e2; cases e2; exact hw
      rw [one_int h hd hn, intE_num hn]

end Go.Proofs.YthjpchnogllliaaGreatDoor.TkrD

/- The reference of stage 7: a token as it is written; whether a token is a sign or name. -/
set_option linter.unusedSimpArgs false
set_option linter.unusedVariables false
namespace Go.Proofs.YthjpchnogllliaaGreatDoor.TkrE
open Go.RowKit Nums IdnM IdnC TokM TokD TokS IdrA TkrA TkrB TkrC TkrD Box4

theorem wrap_uI (n : Int) (h1 : -9223372036854775808 ≤ n) (h2 : n ≤ 9223372036854775807) : IntKind.u64.wrap n = (uI n : Int) := by
  rw [IntKind.wrap_u64]
  unfold uI
  split <;> omega
theorem uI_le (n : Int) (h1 : -9223372036854775808 ≤ n) (h2 : n ≤ 9223372036854775807) : uI n ≤ 18446744073709551615 := by
  unfold uI
  split <;> omega
theorem below_drewN {B : Nat} {a w : World} (h : Below B a w) (n : Nat) : Below B a (w.drewN n) := ⟨h.os, h.tape, h.output, h.size, h.block⟩
theorem nm_size (t : ByteArray) : nm t.data.toList ≤ t.size := nm_le _
theorem data_ne {t : ByteArray} (h : t.size ≠ 0) : t.data.toList ≠ [] := fun e => h (List.length_eq_zero_iff.2 e)
theorem data_nil {t : ByteArray} (h : t.size = 0) : t.data.toList = [] := List.length_eq_zero_iff.1 h
theorem w_int {nu : Int} : wrtn ⟨2, [], nu⟩ = ScaM.dec (uI nu) := rfl
theorem w_intx {x : List UInt8} {nu : Int} (h : x ≠ []) : wrtn ⟨2, x, nu⟩ = [] := by
  unfold wrtn
  rw [if_pos rfl]
  exact if_neg h
theorem w_num {kd nu : Int} {x : List UInt8} (h : kd ≠ 2) (h0 : nu ≠ 0) : wrtn ⟨kd, x, nu⟩ = [] := by
  unfold wrtn
  rw [if_neg h]
  exact if_pos h0
theorem w_sign {x : List UInt8} : wrtn ⟨4, x, 0⟩ = if signB x then x else [] := by
  unfold wrtn signB
  match x with
  | [] => rfl
  | [b] => rfl
  | _ :: _ :: _ => rfl
theorem w_other {kd : Int} {x : List UInt8} (h2 : kd ≠ 2) (h3 : kd ≠ 3) (h4 : kd ≠ 4) (h1 : kd ≠ 1) : wrtn ⟨kd, x, 0⟩ = [] := by
  unfold wrtn
  rw [if_neg h2, if_neg (by simp), if_neg h3, if_neg h4, if_neg h1]

end Go.Proofs.YthjpchnogllliaaGreatDoor.TkrE

/- The reference of stage 7: comparing tokens. -/
set_option linter.unusedSimpArgs false
set_option linter.unusedVariables false
namespace Go.Proofs.YthjpchnogllliaaGreatDoor.TkrF
open Go.RowKit Nums IdnM IdnC TokM TokD TokS IdrA TkrA TkrB TkrC TkrD TkrE Box4

/-- A token of a slice, as it lies in memory. -/
structure Mt where
  kd : Int
  t : ByteArray
  nu : Int
  ln : Int
def Mt.tok (m : Mt) : Tok := ⟨m.kd, m.t.data.toList, m.nu⟩
def Mt.rng (m : Mt) : Prop := m.t.size ≤ 9223372036854775807 ∧ (-9223372036854775808 ≤ m.kd ∧ m.kd ≤ 9223372036854775807) ∧ (-9223372036854775808 ≤ m.nu ∧ m.nu ≤ 9223372036854775807) ∧ (-9223372036854775808 ≤ m.ln ∧ m.ln ≤ 9223372036854775807)
def Mt.ok (m : Mt) : Prop := m.t.size ≤ 140737488351232 ∧ (-9223372036854775808 ≤ m.kd ∧ m.kd ≤ 9223372036854775807) ∧ (-9223372036854775808 ≤ m.nu ∧ m.nu ≤ 9223372036854775807) ∧ (-9223372036854775808 ≤ m.ln ∧ m.ln ≤ 9223372036854775807)
/-- A slice of tokens that is read. -/
def KnT (w : World) (v : Value) (l : List Mt) : Prop := ∃ a cap, v = .slice a l.length cap ∧ l.length ≤ cap ∧ ∀ (j : Nat) m, l[j]? = some m → ∃ b o, a = some ⟨b, o, none⟩ ∧ b < w.heap.size ∧
  w.cell? ⟨b, o + j * 4, none⟩ = some (.int .i64 m.kd) ∧ w.cell? ⟨b, o + j * 4 + 1, none⟩ = some (.string m.t) ∧ w.cell? ⟨b, o + j * 4 + 2, none⟩ = some (.int .i64 m.nu) ∧ w.cell? ⟨b, o + j * 4 + 3, none⟩ = some (.int .i64 m.ln)
theorem KnT.below {w w1 : World} {v : Value} {l : List Mt} (h : KnT w v l) (hb : Below w.heap.size w w1) : KnT w1 v l := by
  obtain ⟨a, cap, rfl, hc, h⟩ := h
  refine ⟨a, cap, rfl, hc, fun j m hm => ?_⟩
  obtain ⟨b, o, rfl, hlt, c0, c1, c2, c3⟩ := h j m hm
  have hcell : ∀ q, w1.cell? ⟨b, q, none⟩ = w.cell? ⟨b, q, none⟩ := fun q => hb.cell (p := ⟨b, q, none⟩) hlt
  exact ⟨b, o, rfl, Nat.lt_of_lt_of_le hlt hb.size, (hcell _).trans c0, (hcell _).trans c1, (hcell _).trans c2, (hcell _).trans c3⟩

/-- Whether a token is this sign or name. -/
def isB (k : Tok) (s : List UInt8) : Bool := (decide (k.kind = 4) || decide (k.kind = 1)) && decide (k.text = s)
def same (a b : List Mt) : Bool := decide (a.map Mt.tok = b.map Mt.tok)
def lines (a b : List Mt) : Bool := decide (a.map Mt.ln = b.map Mt.ln)
theorem map_no {α : Type} (f : Mt → α) {a b : List Mt} {k : Nat} {x y : Mt} (hx : a[k]? = some x) (hy : b[k]? = some y) (hne : f x ≠ f y) : a.map f ≠ b.map f := by
  intro e
  have h1 : (a.map f)[k]? = some (f x) := by rw [List.getElem?_map, hx]; rfl
  have h2 : (b.map f)[k]? = some (f y) := by rw [List.getElem?_map, hy]; rfl
  rw [e, h2] at h1
  exact hne (Option.some.inj h1).symm
theorem map_yes {α : Type} (f : Mt → α) {a b : List Mt} (hl : a.length = b.length) (h : ∀ (k : Nat) x y, a[k]? = some x → b[k]? = some y → f x = f y) : a.map f = b.map f := by
  apply List.ext_getElem?
  intro k
  rw [List.getElem?_map, List.getElem?_map]
  rcases Nat.lt_or_ge k a.length with hk | hk
  · have h1 : a[k]? = some a[k] := List.getElem?_eq_getElem hk
    have h2 : b[k]? = some (b[k]'(by omega)) := List.getElem?_eq_getElem (by omega)
    rw [h1, h2]
    exact congrArg some (h k _ _ h1 h2)
  · rw [List.getElem?_eq_none hk, List.getElem?_eq_none (by omega)]
theorem map_len {α : Type} (f : Mt → α) {a b : List Mt} (hl : a.length ≠ b.length) : a.map f ≠ b.map f := by
  intro e
  have := congrArg List.length e
  rw [List.length_map, List.length_map] at this
  exact hl this
theorem str_ne (a b : ByteArray) {v : Bool} (h : decide (a.data.toList = b.data.toList) = v) : (a.toList != b.toList) = !v := by
  rw [← h, ByteArray.toList_eq, ByteArray.toList_eq, Bool.eq_iff_iff, bne_iff_ne, Bool.not_eq_true', decide_eq_false_iff_not]
theorem str_eq (a b : ByteArray) {v : Bool} (h : decide (a.data.toList = b.data.toList) = v) : (a.toList == b.toList) = v := by
  rw [← h, ByteArray.toList_eq, ByteArray.toList_eq, Bool.eq_iff_iff, beq_iff_eq, decide_eq_true_eq]

end Go.Proofs.YthjpchnogllliaaGreatDoor.TkrF

/- A slice of tokens that a call has made itself; what a scan leaves. -/
set_option linter.unusedSimpArgs false
set_option linter.unusedVariables false
namespace Go.Proofs.YthjpchnogllliaaGreatDoor.OwnT
open Go.RowKit Nums TokM TokS TokU TkrD TkrF

def fields (m : Mt) : List Value := [.int .i64 m.kd, .string m.t, .int .i64 m.nu, .int .i64 m.ln]
def OwnT (w : World) (base : Nat) (v : Value) (l : List Mt) : Prop := w.ownsRow base 34 4 v l.length (l.flatMap fields)
theorem infoT : (Tryz.prog.info? 34).map (fun i => (i.zero, i.size, i.bytes)) = some (some (.agg #[.int .i64 0, .string ByteArray.empty, .int .i64 0, .int .i64 0]), 4, 40) := by kernel_rfl
theorem flat_len : ∀ l : List Mt, (l.flatMap fields).length = l.length * 4
  | [] => rfl
  | c :: l => by
    rw [List.flatMap_cons, List.length_append, flat_len l]
    simp [fields]; omega
theorem flat_at : ∀ (l : List Mt) (j q : Nat) (m : Mt), l[j]? = some m → q < 4 → (l.flatMap fields)[j * 4 + q]? = (fields m)[q]?
  | [], j, q, m, h, _ => by simp at h
  | c :: l, 0, q, m, h, hq => by
    simp at h
    subst h
    rw [List.flatMap_cons, List.getElem?_append_left (by simp [fields]; omega), Nat.zero_mul, Nat.zero_add]
  | c :: l, j + 1, q, m, h, hq => by
    rw [List.flatMap_cons, List.getElem?_append_right (by simp [fields]; omega)]
    have hf : (fields c).length = 4 := rfl
    rw [hf, show (j + 1) * 4 + q - 4 = j * 4 + q by omega]
    exact flat_at l j q m (by simpa using h) hq
section
variable {w w1 : World} {base : Nat} {v : Value} {l : List Mt}
theorem OwnT.nil (w : World) (base : Nat) : OwnT w base (.slice none 0 0) [] := World.ownsRow_nil _ _ _ _
theorem OwnT.below (h : OwnT w base v l) (hb : Below w.heap.size w w1) : OwnT w1 base v l := by
  refine ⟨h.1, h.2.imp id fun ⟨g, cap, cur, h1, h2, h3, h4⟩ => ⟨g, cap, cur, h1, h2, ?_, h4⟩⟩
  rw [hb.block g (Array.getElem?_eq_some_iff.1 h3).1]
  exact h3
theorem OwnT.set (h : OwnT w base v l) {k : Nat} (hk : v.ownBlock ≠ some k) (j : Nat) (u : Value) : OwnT (w.setCell ⟨k, j, none⟩ u) base v l := by
  refine ⟨h.1, h.2.imp id fun ⟨g, cap, cur, h1, h2, h3, h4⟩ => ⟨g, cap, cur, h1, h2, ?_, h4⟩⟩
  rw [Below.heap_setCell w _ _ g (by subst h1; simpa [Value.ownBlock] using hk)]
  exact h3
theorem OwnT.lt (h : OwnT w base v l) : ∀ k, v.ownBlock = some k → base ≤ k ∧ k < w.heap.size := World.ownsRow.lt h
theorem OwnT.known (h : OwnT w base v l) : KnT w v l := by
  rcases h.2 with ⟨rfl, hn⟩ | ⟨g, cap, cur, rfl, hb, hg, hnc, hcm, hcs, htk⟩
  · have : l = [] := List.length_eq_zero_iff.1 hn
    subst this
    exact ⟨none, 0, rfl, Nat.le_refl _, fun j m hm => by simp at hm⟩
  · refine ⟨_, cap, rfl, hnc, fun j m hm => ⟨g, 0, rfl, (Array.getElem?_eq_some_iff.1 hg).1, ?_⟩⟩
    have hj := (List.getElem?_eq_some_iff.1 hm).1
    have hc : ∀ q, q < 4 → w.cell? ⟨g, 0 + j * 4 + q, none⟩ = (fields m)[q]? := fun q hq => by
      rw [Nat.zero_add, World.ownsRow.cellAt h (j * 4 + q) (by omega), flat_at l j q m hm hq]
    exact ⟨hc 0 (by omega), hc 1 (by omega), hc 2 (by omega), hc 3 (by omega)⟩
end
/-- A token as it lies in memory. -/
def mk (p : Tok × Nat) : Mt := ⟨p.1.kind, ⟨p.1.text.toArray⟩, p.1.num, (p.2 : Int)⟩
theorem mk_tok (p : Tok × Nat) : (mk p).tok = p.1 := rfl
/-- What a scan leaves: its tokens, a line and an error. -/
def SR (s : ByteArray) (w : World) (v : Value) (line er : Int) : Prop :=
  if 16384 < s.size then KnT w v [] ∧ line = 0 ∧ er = 3 else match scanT 1 s.data.toList with
    | .error e => KnT w v [] ∧ line = e.1 ∧ er = e.2
    | .ok P => line = 0 ∧ er = 0 ∧ KnT w v (P.map mk) ∧ ∀ p ∈ P, (mk p).ok
def SB (s : ByteArray) (w : World) (e : Ending) (w' : World) : Prop := ∃ v line er, e = .returned (.tuple #[v, .int .i64 line, .int .i64 er]) ∧ SR s w' v line er ∧ Below w.heap.size w w'
theorem known_nil (w : World) : KnT w (.slice none 0 0) [] := ⟨none, 0, rfl, Nat.le_refl _, fun j m hm => by simp at hm⟩
end Go.Proofs.YthjpchnogllliaaGreatDoor.OwnT

/- The reference of stage 7: dividing a text into tokens. -/
set_option linter.unusedSimpArgs false
set_option linter.unusedVariables false
namespace Go.Proofs.YthjpchnogllliaaGreatDoor.TkrH
open Go.RowKit Nums IdnM IdnC TokM TokD TokS TokT TokU IdrA TkrA TkrB TkrC TkrD TkrE TkrF OwnT Box4

theorem one_kind {l : List UInt8} {k : Tok} {n : Nat} (h : one l = .ok (k, n)) : 1 ≤ k.kind ∧ k.kind ≤ 4 ∧ k.text.length ≤ l.length := by
  cases l with
  | nil => simp [one] at h
  | cons b t =>
    by_cases h0 : nm (b :: t) = 0
    · cases hd : dg b with
      | true =>
        rw [one_intE h0 hd] at h
        have key : ∀ x : Except Nat Int, (x.map fun n => ((⟨2, [], n⟩ : Tok), dlen (b :: t))) = .ok (k, n) → 1 ≤ k.kind ∧ k.kind ≤ 4 ∧ k.text.length ≤ (b :: t).length := by
          intro x hx
          cases x with
          | error e => cases hx
          | ok m =>
            simp only [Except.map, Except.ok.injEq, Prod.mk.injEq] at hx
            obtain ⟨rfl, _⟩ := hx
            exact ⟨by show (1 : Int) ≤ 2; decide, by show (2 : Int) ≤ 4; decide, Nat.zero_le _⟩
        cases e : (b :: t).drop (dlen (b :: t)) with
        | nil => rw [intE_num (fun c r e2 => by rw [e] at e2; cases e2)] at h; exact key _ h
        | cons c r =>
          cases hw : wch c with
          | true => rw [intE_bad e hw] at h; cases h
          | false => rw [intE_num (fun c2 r2 e2 => by rw [e] at e2; cases e2; exact hw)] at h; exact key _ h
      | false =>
        by_cases hq : b = 34
        · subst hq
          rw [one_text h0] at h
          split at h
          · simp only [Except.ok.injEq, Prod.mk.injEq] at h
            obtain ⟨rfl, _⟩ := h
            refine ⟨by show (1 : Int) ≤ 3; decide, by show (3 : Int) ≤ 4; decide, ?_⟩
            show (UtfQ.unquote (34 :: t)).1.length ≤ _
            rcases UtfQ.unquote_cases (34 :: t) with hu | ⟨s, m, hu, h2, h3, h4⟩
            · rw [hu]; exact Nat.zero_le _
            · rw [hu]
              have h5 := congrArg List.length h4
              rw [UtfQ.quote_len, List.length_take] at h5
              have h6 := (UtfQ.body_le s).1
              show s.length ≤ _
              omega
          · cases h
        · rw [one_sign h0 hd hq] at h
          split at h
          · simp only [Except.ok.injEq, Prod.mk.injEq] at h
            obtain ⟨rfl, _⟩ := h
            exact ⟨by show (1 : Int) ≤ 4; decide, by show (4 : Int) ≤ 4; decide, by simp⟩
          · cases h
    · rw [one_name h0] at h
      split at h
      · simp only [Except.ok.injEq, Prod.mk.injEq] at h
        obtain ⟨rfl, _⟩ := h
        exact ⟨by show (1 : Int) ≤ 1; decide, by show (1 : Int) ≤ 4; decide, (List.take_sublist _ _).length_le⟩
      · cases h
theorem mk_ok {l : List UInt8} {k : Tok} {n ln : Nat} (h : one l = .ok (k, n)) (hl : l.length ≤ 4294967296) (hln : ln ≤ 4294967299) : (mk (k, ln)).ok := by
  obtain ⟨h1, h2, h3⟩ := one_kind h
  have h4 := one_in h
  refine ⟨?_, ?_, h4, ?_⟩
  · show k.text.toArray.size ≤ _
    simp
    omega
  · show -9223372036854775808 ≤ k.kind ∧ k.kind ≤ 9223372036854775807
    omega
  · show -9223372036854775808 ≤ (ln : Int) ∧ (ln : Int) ≤ 9223372036854775807
    omega

def pre (P : List (Tok × Nat)) (x : Except (Nat × Nat) (List (Tok × Nat))) : Except (Nat × Nat) (List (Tok × Nat)) := x.map fun r => P ++ r
theorem pre_cons (P : List (Tok × Nat)) (p : Tok × Nat) (x : Except (Nat × Nat) (List (Tok × Nat))) : pre P (x.map fun r => p :: r) = pre (P ++ [p]) x := by
  cases x with
  | error e => rfl
  | ok r => simp [pre, Except.map]
theorem drop_at' {s : ByteArray} {k : Nat} (h : k < s.size) : s.data.toList.drop k = s[k] :: s.data.toList.drop (k + 1) := List.drop_eq_getElem_cons (show k < s.data.toList.length from h)
theorem eqb {b : UInt8} {n : Nat} (hn : n < 256) : ((b.toNat : Int) == (n : Int)) = decide (b = UInt8.ofNat n) := by
  rw [Bool.eq_iff_iff, beq_iff_eq, decide_eq_true_eq]
  constructor
  · intro h
    apply UInt8.toNat_inj.1
    rw [UInt8.toNat_ofNat']
    omega
  · rintro rfl
    rw [UInt8.toNat_ofNat']
    omega

theorem at_47 {s : ByteArray} {k : Nat} (h : atB s k = 47) : k < s.size := by
  rcases Nat.lt_or_ge k s.size with h1 | h1
  · exact h1
  · rw [atB_ge h1] at h; exact absurd h (by decide)
end Go.Proofs.YthjpchnogllliaaGreatDoor.TkrH

/- The reference of stage 7: tokens as a text. -/
set_option linter.unusedSimpArgs false
set_option linter.unusedVariables false
namespace Go.Proofs.YthjpchnogllliaaGreatDoor.TkrG
open Go.RowKit Nums IdnM IdnC TokM TokD TokS TokU IdrA TkrA TkrB TkrC TkrD TkrE TkrF Box4

theorem wrtn_len (k : Tok) : (wrtn k).length ≤ 4 * k.text.length + 22 ∨ k.kind = 2 := by
  by_cases h2 : k.kind = 2
  · exact .inr h2
  · left
    unfold wrtn
    rw [if_neg h2]
    split
    · simp
    · split
      · rw [UtfQ.quote_len]
        have := (UtfQ.body_le k.text).2
        omega
      · split
        · match k.text with
          | [] => simp
          | [b] => simp only []; split <;> simp
          | _ :: _ :: _ => simp
        · split
          · split
            · omega
            · simp
          · simp
theorem wrtn_len2 (k : Tok) (h : inI k) : (wrtn k).length ≤ 4 * k.text.length + 22 := by
  rcases wrtn_len k with h1 | h1
  · exact h1
  · obtain ⟨kd, x, nu⟩ := k
    simp only at h1
    subst h1
    by_cases hx : x = []
    · subst hx
      rw [w_int]
      have := ScaM.dec_len 19 (uI nu) (by have := uI_le nu h.1 h.2; omega)
      simp only [List.length_nil]
      omega
    · rw [w_intx hx]; simp
theorem all_no {l : List Tok} {k : Tok} (hm : k ∈ l) (h : wrtn k = []) : TokU.print l = [] := by
  unfold TokU.print
  rw [if_neg]
  rw [Bool.and_eq_true, List.all_eq_true]
  rintro ⟨h1, _⟩
  exact wrt_iff.1 (h1 k hm) h
theorem long_no {l : List Tok} (h : 16384 < (pr l).length) : TokU.print l = [] := by
  unfold TokU.print
  rw [if_neg]
  rw [Bool.and_eq_true, decide_eq_true_eq]
  rintro ⟨_, h1⟩
  omega
theorem ends_of (m : Mt) (S : ByteArray) (hS : S.data.toList = wrtn m.tok) : endsLine m.tok = ((m.kd == 4) && ((S.toList == [59]) || (S.toList == [123]) || (S.toList == [125]))) := by
  unfold endsLine
  rw [ByteArray.toList_eq, hS]
  show (decide (m.kd = 4) && _) = _
  rw [Bool.eq_iff_iff]
  simp only [Bool.and_eq_true, Bool.or_eq_true, decide_eq_true_eq, beq_iff_eq]

end Go.Proofs.YthjpchnogllliaaGreatDoor.TkrG
