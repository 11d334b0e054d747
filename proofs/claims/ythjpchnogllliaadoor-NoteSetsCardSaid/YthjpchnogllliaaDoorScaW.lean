import Derived.Test.YthjpchnogllliaaDoorScaF
import Derived.Test.YthjpchnogllliaaDoorUtfL
import Derived.Deep.CutRange
import Derived.Deep.DeepCutAuto
import Derived.Test.YthjpchnogllliaaDoorScaC
import Derived.Test.YthjpchnogllliaaDoorUtfB
/- The contract of number of the reference of package scalar: decimal numbers, read. -/
set_option linter.unusedSimpArgs false
set_option linter.unusedVariables false
namespace Go.Proofs.YthjpchnogllliaaDoor.ScaN
open Go.RowKit Nums Byt UtfM UtfS ScaM ScaV ScaA ScaB ScaD UtfR UtfK UtfL

def isD (c : UInt8) : Bool := decide (48 ≤ c.toNat) && decide (c.toNat ≤ 57)
def natOf (l : List UInt8) : Nat := l.foldl (fun a c => 10 * a + (c.toNat - 48)) 0
theorem natOf_snoc (l : List UInt8) (c : UInt8) : natOf (l ++ [c]) = 10 * natOf l + (c.toNat - 48) := by unfold natOf; rw [List.foldl_append]; rfl
/-- The absolute value, whether there is a minus, and the error. -/
def numD (neg : Bool) (l ds : List UInt8) : Nat × Bool × Int :=
  if ds = [] ∨ (ds.head? = some 48 ∧ l ≠ [48]) ∨ ds.all isD = false then (0, false, 2) else if 18446744073709551616 ≤ natOf ds then (0, false, 6) else (natOf ds, neg, 0)
def numV (l : List UInt8) : Nat × Bool × Int := if l.head? = some 45 then numD true l (l.drop 1) else numD false l l
theorem ret_n {a b : Nat} {c d : Bool} {e f : Int} (h : (a, c, e) = (b, d, f)) : Ending.returned (.tuple #[.int .u64 a, .bool c, .int .i64 e]) = .returned (.tuple #[.int .u64 b, .bool d, .int .i64 f]) := by
  injection h with h1 h2
  injection h2 with h2 h3
  rw [h1, h2, h3]
theorem all_false {l : List UInt8} {k : Nat} {c : UInt8} (h : l[k]? = some c) (hc : isD c = false) : l.all isD = false := by
  rw [List.all_eq_false]
  exact ⟨c, List.mem_of_getElem? h, by simp [hc]⟩
theorem take_snoc {D : ByteArray} {k : Nat} (h : k < D.size) : D.data.toList.take (k + 1) = D.data.toList.take k ++ [D[k]] := by
  rw [List.take_succ_eq_append_getElem (show k < D.data.toList.length from h)]; rfl
/-- What the loop knows after some digits. -/
def Known (ds : List UInt8) (U : Nat) (L : Bool) : Prop := ds.all isD = true ∧ (L = false → U = natOf ds) ∧ (L = true → 18446744073709551616 ≤ natOf ds)

end Go.Proofs.YthjpchnogllliaaDoor.ScaN

/- The contract of text of the reference of package scalar: texts and bytes, read. -/
set_option linter.unusedSimpArgs false
set_option linter.unusedVariables false
namespace Go.Proofs.YthjpchnogllliaaDoor.ScaT
open Go.RowKit Nums Byt UtfM UtfQ UtfH UtfS ScaM ScaV ScaA ScaB ScaC ScaD UtfR UtfB UtfK UtfL

/-- A value with a text and nothing else. -/
def tv (k : Int) (l : List UInt8) : SV := ⟨k, 0, ⟨l.toArray⟩, none, 0, 0, none, 0, 0, none, 0, 0, none, 0, 0⟩
/-- What becomes of the text read. -/
def kept (k : Int) (t : List UInt8) : SV × Int := if 4096 < t.length then (zv 0, 3) else (tv k t, 0)
def textS (k : Int) (l : List UInt8) : SV × Int :=
  if (unquote l).2.2 ≠ 0 ∨ (unquote l).2.1 ≠ l.length then (zv 0, 2)
  else if k = 8 then (if uhE (unquote l).1 ≠ 0 then (zv 0, 2) else kept k (uhT (unquote l).1))
  else if 0 ≤ bad (unquote l).1 then (zv 0, 7) else kept k (unquote l).1
theorem ret_ve {a b : Value} {e f : Int} (h : a = b) (h2 : e = f) : Ending.returned (.tuple #[a, .int .i64 e]) = .returned (.tuple #[b, .int .i64 f]) := by rw [h, h2]
theorem unquote_len (l : List UInt8) : (unquote l).1.length ≤ l.length := by
  unfold unquote
  have := unescape_len l
  split
  · simp
  · simp; omega
theorem unhexL_len (l : List UInt8) : ∀ r, unhexL l = some r → 2 * r.length = l.length := by
  generalize hn : l.length = n
  induction n using Nat.strongRecOn generalizing l with
  | _ n ih =>
    intro r hr
    match l with
    | [] => rw [unhexL] at hr; injection hr with hr; rw [← hr, ← hn]; rfl
    | [_] => rw [unhexL] at hr; cases hr
    | a :: b :: t =>
      rw [unhexL] at hr
      split at hr
      · cases hr
      · cases ht : unhexL t with
        | none => rw [ht] at hr; cases hr
        | some q =>
          rw [ht] at hr
          injection hr with hr
          have := ih t.length (by rw [← hn]; simp only [List.length_cons]; omega) t rfl q ht
          rw [← hr, ← hn]
          simp; omega
theorem uhT_len (l : List UInt8) : (uhT l).length ≤ l.length := by
  unfold uhT
  cases h : unhexL l with
  | none => simp
  | some r => have := unhexL_len l r h; simp; omega
/-- The result's box after a call: its seven cells. -/
def zb : Obj := .cells #[.int .i64 0, .int .u64 0, .string ⟨#[]⟩, .slice none 0 0, .slice none 0 0, .slice none 0 0, .slice none 0 0] 34
theorem cells0 {w w1 : World} (hb : Below (w.alloc zb).heap.size (w.alloc zb) w1) :
    (w1.cell? ⟨w.heap.size, 0, none⟩ = some (.int .i64 0) ∧ w1.cell? ⟨w.heap.size, 1, none⟩ = some (.int .u64 0) ∧ w1.cell? ⟨w.heap.size, 2, none⟩ = some (.string ⟨#[]⟩) ∧ w1.cell? ⟨w.heap.size, 3, none⟩ = some (.slice none 0 0)
      ∧ w1.cell? ⟨w.heap.size, 4, none⟩ = some (.slice none 0 0) ∧ w1.cell? ⟨w.heap.size, 5, none⟩ = some (.slice none 0 0) ∧ w1.cell? ⟨w.heap.size, 6, none⟩ = some (.slice none 0 0)) ∧ (∀ o, w1.frozen? ⟨w.heap.size, o, none⟩ = false) ∧ w.heap.size < w1.heap.size ∧ Below w.heap.size w w1 := by
  have hlt : w.heap.size < (w.alloc zb).heap.size := by simp
  have hc : ∀ o, w1.cell? ⟨w.heap.size, o, none⟩ = (w.alloc zb).cell? ⟨w.heap.size, o, none⟩ := fun o => hb.cell (p := ⟨w.heap.size, o, none⟩) hlt
  refine ⟨⟨?_, ?_, ?_, ?_, ?_, ?_, ?_⟩, fun o => (hb.frozen (p := ⟨w.heap.size, o, none⟩) hlt).trans (by simp [zb]), Nat.lt_of_lt_of_le hlt hb.size, bt (below_box _ _) hb⟩ <;> (rw [hc]; unfold zb; rw [World.cell?_alloc_at _ _ _ _ rfl]; rfl)
theorem below7 {B k : Nat} {a w : World} (h : Below B a w) (hk : B ≤ k) (v0 v1 v2 v3 v4 v5 v6 : Value) :
    Below B a (((((((w.setCell ⟨k, 0, none⟩ v0).setCell ⟨k, 1, none⟩ v1).setCell ⟨k, 2, none⟩ v2).setCell ⟨k, 3, none⟩ v3).setCell ⟨k, 4, none⟩ v4).setCell ⟨k, 5, none⟩ v5).setCell ⟨k, 6, none⟩ v6) :=
  ((((((h.setCell hk _).setCell hk _).setCell hk _).setCell hk _).setCell hk _).setCell hk _).setCell hk _

end Go.Proofs.YthjpchnogllliaaDoor.ScaT

/- The contract of whole of the reference of package scalar: whole numbers, read. -/
set_option linter.unusedSimpArgs false
set_option linter.unusedVariables false
namespace Go.Proofs.YthjpchnogllliaaDoor.ScaW
open Go.RowKit Nums Byt UtfM UtfQ UtfH UtfS ScaM ScaV ScaA ScaB ScaC ScaD ScaN ScaT UtfR UtfB UtfK UtfL

/-- A value with a number and nothing else. -/
def nv (k : Int) (b : Nat) : SV := ⟨k, b, ⟨#[]⟩, none, 0, 0, none, 0, 0, none, 0, 0, none, 0, 0⟩
def negN (u : Nat) : Nat := (18446744073709551616 - u) % 18446744073709551616
def outB (k : Int) (u : Nat) (neg : Bool) : Bool := if neg then !sgB k || decide (sgnN < u) else sgB k && decide (sgnN ≤ u)
def wholeS (k : Int) (l : List UInt8) : SV × Int :=
  if (numV l).2.2 ≠ 0 then (zv 0, (numV l).2.2)
  else if outB k (numV l).1 (numV l).2.1 then (zv 0, 6)
  else if fitsB k (sc (nv k (if (numV l).2.1 then negN (numV l).1 else (numV l).1))) then (nv k (if (numV l).2.1 then negN (numV l).1 else (numV l).1), 0) else (zv 0, 6)
theorem numD_le (neg : Bool) (l ds : List UInt8) : (numD neg l ds).1 ≤ 18446744073709551615 := by
  unfold numD
  split
  · simp
  · split
    · simp
    · simp only []; omega
theorem numV_le (l : List UInt8) : (numV l).1 ≤ 18446744073709551615 := by
  unfold numV
  split <;> exact numD_le _ _ _
theorem numV_err (l : List UInt8) : (numV l).2.2 = 0 ∨ (numV l).2.2 = 2 ∨ (numV l).2.2 = 6 := by
  have : ∀ neg a b, (numD neg a b).2.2 = 0 ∨ (numD neg a b).2.2 = 2 ∨ (numD neg a b).2.2 = 6 := by
    intro neg a b
    unfold numD
    split
    · simp
    · split <;> simp
  unfold numV
  split <;> exact this _ _ _
theorem sgn_i : (sgnN : Int) = 9223372036854775808 := rfl
/-- The box of the value under way after a call: its seven cells. -/
def nb (k : Int) (b : Nat) : Obj := .cells #[.int .i64 k, .int .u64 b, .string ⟨#[]⟩, .slice none 0 0, .slice none 0 0, .slice none 0 0, .slice none 0 0] 34
theorem cells2 {w w1 : World} {k : Int} {b : Nat} (hb : Below ((w.alloc zb).alloc (nb k b)).heap.size ((w.alloc zb).alloc (nb k b)) w1) :
    (w1.cell? ⟨w.heap.size, 0, none⟩ = some (.int .i64 0) ∧ w1.cell? ⟨w.heap.size, 1, none⟩ = some (.int .u64 0) ∧ w1.cell? ⟨w.heap.size, 2, none⟩ = some (.string ⟨#[]⟩) ∧ w1.cell? ⟨w.heap.size, 3, none⟩ = some (.slice none 0 0) ∧ w1.cell? ⟨w.heap.size, 4, none⟩ = some (.slice none 0 0) ∧ w1.cell? ⟨w.heap.size, 5, none⟩ = some (.slice none 0 0) ∧ w1.cell? ⟨w.heap.size, 6, none⟩ = some (.slice none 0 0))
    ∧ (w1.cell? ⟨w.heap.size + 1, 0, none⟩ = some (.int .i64 k) ∧ w1.cell? ⟨w.heap.size + 1, 1, none⟩ = some (.int .u64 b) ∧ w1.cell? ⟨w.heap.size + 1, 2, none⟩ = some (.string ⟨#[]⟩) ∧ w1.cell? ⟨w.heap.size + 1, 3, none⟩ = some (.slice none 0 0) ∧ w1.cell? ⟨w.heap.size + 1, 4, none⟩ = some (.slice none 0 0) ∧ w1.cell? ⟨w.heap.size + 1, 5, none⟩ = some (.slice none 0 0) ∧ w1.cell? ⟨w.heap.size + 1, 6, none⟩ = some (.slice none 0 0))
    ∧ (∀ o, w1.frozen? ⟨w.heap.size, o, none⟩ = false) ∧ (∀ o, w1.frozen? ⟨w.heap.size + 1, o, none⟩ = false) ∧ w.heap.size < w1.heap.size ∧ w.heap.size + 1 < w1.heap.size ∧ Below w.heap.size w w1 := by
  have hz : (w.alloc zb).heap.size = w.heap.size + 1 := by simp
  have h1 : Below (w.alloc zb).heap.size (w.alloc zb) w1 := bt (below_box _ _) hb
  obtain ⟨hc, hf, hs, hB⟩ := cells0 h1
  have hlt : w.heap.size + 1 < ((w.alloc zb).alloc (nb k b)).heap.size := by simp
  have hd : ∀ o, w1.cell? ⟨w.heap.size + 1, o, none⟩ = ((w.alloc zb).alloc (nb k b)).cell? ⟨w.heap.size + 1, o, none⟩ := fun o => hb.cell (p := ⟨w.heap.size + 1, o, none⟩) hlt
  refine ⟨hc, ⟨?_, ?_, ?_, ?_, ?_, ?_, ?_⟩, hf, fun o => (hb.frozen (p := ⟨w.heap.size + 1, o, none⟩) hlt).trans ?_, hs, Nat.lt_of_lt_of_le hlt hb.size, hB⟩
  · rw [hd]; unfold nb; rw [World.cell?_alloc_at _ _ _ _ hz.symm]; rfl
  · rw [hd]; unfold nb; rw [World.cell?_alloc_at _ _ _ _ hz.symm]; rfl
  · rw [hd]; unfold nb; rw [World.cell?_alloc_at _ _ _ _ hz.symm]; rfl
  · rw [hd]; unfold nb; rw [World.cell?_alloc_at _ _ _ _ hz.symm]; rfl
  · rw [hd]; unfold nb; rw [World.cell?_alloc_at _ _ _ _ hz.symm]; rfl
  · rw [hd]; unfold nb; rw [World.cell?_alloc_at _ _ _ _ hz.symm]; rfl
  · rw [hd]; unfold nb; rw [World.cell?_alloc_at _ _ _ _ hz.symm]; rfl
  · unfold nb zb; simp

end Go.Proofs.YthjpchnogllliaaDoor.ScaW
