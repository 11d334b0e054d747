/- Cursors as plain data, and what each call of a cursor gives: plain mathematics, without the program. -/
import Derived.Test.YtdgbbfhhjhhahaaVarM
import Derived.Test.YtdgbbfhhjhhahaaFixM
import Derived.Lib.Hide
import Derived.Below
namespace Go.Proofs.Ytdgbbfhhjhhahaa.CurM
open Go.RowKit VarM FixM

structure Cur where
  d : ByteArray
  a : Int
  e : Int
  dp : Int
  n : Int
  t : Int

/-- The cursor as a value of the model. -/
abbrev cv (c : Cur) : Value := .agg #[.string c.d, .int .i64 c.a, .int .i64 c.e, .int .i64 c.dp, .int .i64 c.n, .int .i64 c.t]

def inI (x : Int) : Prop := -9223372036854775808 ≤ x ∧ x ≤ 9223372036854775807
structure Wf (c : Cur) : Prop where
  d : c.d.size ≤ 140737488355328
  a : inI c.a
  e : inI c.e
  dp : inI c.dp
  n : inI c.n
  t : inI c.t

def sound (c : Cur) : Bool := decide (0 ≤ c.a) && (decide (c.a ≤ c.e) && decide (c.e ≤ c.d.size))
theorem sound_iff {c : Cur} : sound c = true ↔ 0 ≤ c.a ∧ c.a ≤ c.e ∧ c.e ≤ c.d.size := by simp [sound]
theorem sound_not {c : Cur} : sound c = false ↔ ¬ (0 ≤ c.a ∧ c.a ≤ c.e ∧ c.e ≤ c.d.size) := by
  rw [← sound_iff]; simp

/-- The bytes that are left. -/
def rest (c : Cur) : ByteArray := if sound c = true then c.d.extract c.a.toNat c.e.toNat else ⟨#[]⟩
theorem rest_yes {c : Cur} (h : sound c = true) : rest c = c.d.extract c.a.toNat c.e.toNat := by rw [rest, if_pos h]
theorem rest_no {c : Cur} (h : sound c = false) : rest c = ⟨#[]⟩ := by rw [rest, if_neg (by simp [h])]
theorem rest_size_yes {c : Cur} (h : sound c = true) : ((rest c).size : Int) = c.e - c.a := by
  have h' := sound_iff.1 h
  rw [rest_yes h, ByteArray.size_extract]; omega
theorem rest_size_no {c : Cur} (h : sound c = false) : (rest c).size = 0 := by
  rw [rest_no h]; rfl
theorem rest_le (c : Cur) : (rest c).size ≤ c.d.size := by
  cases h : sound c with
  | true => have := rest_size_yes h; have := sound_iff.1 h; omega
  | false => rw [rest_size_no h]; omega

/-- The cursor n bytes on. -/
def fwd (c : Cur) (n : Int) : Cur := { c with a := c.a + n }

def pByte (c : Cur) : Nat × Cur × Int := if h : 0 < (rest c).size then ((rest c)[0].toNat, fwd c 1, 0) else (0, c, 4)
def pVarint (c : Cur) : Nat × Cur × Int :=
  if (take (rest c).data.toList).2.2 = 0 then ((take (rest c).data.toList).1, fwd c (take (rest c).data.toList).2.1, 0) else (0, c, (take (rest c).data.toList).2.2)
def pFixed (c : Cur) : Nat × Cur × Int :=
  if (rest c).size < 8 then (0, c, 4) else (num ((rest c).data.toList.take 8), fwd c 8, 0)
def pText (c : Cur) (n : Int) : ByteArray × Cur × Int :=
  if n < 0 then (⟨#[]⟩, c, 1) else if ((rest c).size : Int) < n then (⟨#[]⟩, c, 4) else if c.t < n then (⟨#[]⟩, c, 3) else ((rest c).extract 0 n.toNat, fwd c n, 0)
def pEnough (c : Cur) (n : Int) : Int := if n < 0 then 1 else if ((rest c).size : Int) < n then 4 else 0
def pSpend (c : Cur) (n : Int) : Cur × Int :=
  if n < 0 then (c, 1) else if c.n < n then (c, 3) else ({ c with n := c.n - n }, 0)
def pEnter (c : Cur) (n : Int) : Cur × Int :=
  if n < 0 then (c, 1) else if ((rest c).size : Int) < n then (c, 4) else if c.dp < 1 then (c, 17) else ({ c with e := c.a + n, dp := c.dp - 1 }, 0)
def pOpen (s : ByteArray) (lb ld ln lt : Int) : Cur × Int :=
  if 0 ≤ lb ∧ 0 ≤ ld ∧ 0 ≤ ln ∧ 0 ≤ lt then (if lb < (s.size : Int) then (⟨⟨#[]⟩, 0, 0, 0, 0, 0⟩, 3) else (⟨s, 0, s.size, ld, ln, lt⟩, 0)) else (⟨⟨#[]⟩, 0, 0, 0, 0, 0⟩, 1)
def leaves (c i : Cur) : Bool := sound c && (decide (c.a ≤ i.e) && (decide (i.e ≤ c.e) && (decide (0 ≤ i.n) && decide (i.n ≤ c.n))))
def pLeave (c i : Cur) : Cur := if leaves c i = true then { c with a := i.e, n := i.n } else c
theorem leaves_iff {c i : Cur} : leaves c i = true ↔ sound c = true ∧ c.a ≤ i.e ∧ i.e ≤ c.e ∧ 0 ≤ i.n ∧ i.n ≤ c.n := by simp [leaves]

/-- A call that returns a number, a cursor and an error. -/
def Res3 (k : IntKind) (p : Nat × Cur × Int) (w : World) (e : Ending) (w' : World) : Prop :=
  ∃ (b : Nat) (c : Cur) (x : Int), e = .returned (.tuple #[.int k b, cv c, .int .i64 x]) ∧ Hid (p = (b, c, x)) ∧ Below w.heap.size w w'
def Res3s (p : ByteArray × Cur × Int) (w : World) (e : Ending) (w' : World) : Prop :=
  ∃ (b : ByteArray) (c : Cur) (x : Int), e = .returned (.tuple #[.string b, cv c, .int .i64 x]) ∧ Hid (p = (b, c, x)) ∧ Below w.heap.size w w'
def Res2 (p : Cur × Int) (w : World) (e : Ending) (w' : World) : Prop :=
  ∃ (c : Cur) (x : Int), e = .returned (.tuple #[cv c, .int .i64 x]) ∧ Hid (p = (c, x)) ∧ Below w.heap.size w w'
def Res1 (p : Cur) (w : World) (e : Ending) (w' : World) : Prop :=
  ∃ (c : Cur), e = .returned (cv c) ∧ Hid (p = c) ∧ Below w.heap.size w w'
theorem res3_mk {k : IntKind} {p : Nat × Cur × Int} {w w' : World} {b : Nat} {c : Cur} {x : Int} (h : Hid (p = (b, c, x))) (hb : Below w.heap.size w w') :
    Res3 k p w (.returned (.tuple #[.int k b, cv c, .int .i64 x])) w' := ⟨b, c, x, rfl, h, hb⟩
theorem res3s_mk {p : ByteArray × Cur × Int} {w w' : World} {b : ByteArray} {c : Cur} {x : Int} (h : Hid (p = (b, c, x))) (hb : Below w.heap.size w w') :
    Res3s p w (.returned (.tuple #[.string b, cv c, .int .i64 x])) w' := ⟨b, c, x, rfl, h, hb⟩
theorem res2_mk {p : Cur × Int} {w w' : World} {c : Cur} {x : Int} (h : Hid (p = (c, x))) (hb : Below w.heap.size w w') :
    Res2 p w (.returned (.tuple #[cv c, .int .i64 x])) w' := ⟨c, x, rfl, h, hb⟩
theorem res1_mk {p : Cur} {w w' : World} {c : Cur} (h : Hid (p = c)) (hb : Below w.heap.size w w') :
    Res1 p w (.returned (cv c)) w' := ⟨c, rfl, h, hb⟩
end Go.Proofs.Ytdgbbfhhjhhahaa.CurM
