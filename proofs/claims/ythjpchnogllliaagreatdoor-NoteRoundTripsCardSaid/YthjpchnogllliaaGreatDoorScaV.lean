/- Values of the program's type Value, as the model holds them. -/
import Derived.Test.YthjpchnogllliaaGreatDoorScaM
import Derived.Test.YthjpchnogllliaaGreatDoorUtfS
import Derived.Test.YthjpchnogllliaaGreatDoorLawKit
set_option linter.unusedSimpArgs false
set_option linter.unusedVariables false
namespace Go.Proofs.YthjpchnogllliaaGreatDoor.ScaV
open Go.ChangeShapes Go.WideShapes Go.RowKit Nums Byt UtfM UtfS ScaM

/-- A value: its numbers, its text, and the four lists' places, lengths and capacities. -/
structure SV where
  k : Int
  b : Nat
  t : ByteArray
  a1 : Option Addr
  l1 : Nat
  c1 : Nat
  a2 : Option Addr
  l2 : Nat
  c2 : Nat
  a3 : Option Addr
  l3 : Nat
  c3 : Nat
  a4 : Option Addr
  l4 : Nat
  c4 : Nat
def vv (v : SV) : Value := .agg #[.int .i64 v.k, .int .u64 v.b, .string v.t, .slice v.a1 v.l1 v.c1, .slice v.a2 v.l2 v.c2, .slice v.a3 v.l3 v.c3, .slice v.a4 v.l4 v.c4]
def sc (v : SV) : Sc := ⟨v.k, v.b, v.t.data.toList, v.l1, v.l2, v.l3, v.l4⟩
/-- What is known of a value that came in. -/
structure Ok (v : SV) : Prop where
  k : -9223372036854775808 ≤ v.k ∧ v.k ≤ 9223372036854775807
  b : v.b ≤ 18446744073709551615
  t : v.t.size ≤ 140737488351232

section
variable {H : Type} {enc : TypeId × Value → H} {P : Program} {w : World} {base : Nat} {spare : Nat → Bool} {held : Bool}
theorem one_slice {t e : TypeId} {n : Nat} {c : Value} {y : DataW H × List MemPlace} (ht : P.underlying t = some (.slice e)) (h : DataW.trod enc P w base spare held n t [c] = some y) :
    ∃ a l cap, c = .slice a l cap := by
  cases n with
  | zero => simp [DataW.trod] at h
  | succ n =>
    rw [DataW.trod_step] at h
    unfold DataW.trodStep at h
    rw [ht] at h
    cases c with
    | slice a l cap => exact ⟨a, l, cap, rfl⟩
    | _ => simp at h
end
end Go.Proofs.YthjpchnogllliaaGreatDoor.ScaV
