/- What the two laws over calls share: the calls that they are given, and what a statement 'x := call' leaves. -/
import Derived.Test.YtdgbbfhhjhhahaaCurS
import Derived.Test.YtdgbbfhhjhhahaaOwnK
import Derived.Test.YtdgbbfhhjhhahaaNums
namespace Go.Proofs.Ytdgbbfhhjhhahaa.Stk
open Go.RowKit CurM Has Nums CurS OwnK

/-- The calls that the law is given: L of them at A, kinds K and numbers N. -/
structure Ops (w : World) (A : Option Addr) (L : Nat) (K N : Nat → Int) : Prop where
  at_ : ∀ i, i < L → ∃ b o, A = some ⟨b, o, none⟩ ∧ b < w.heap.size ∧ w.cell? ⟨b, o + i * 2, none⟩ = some (.int .i64 (K i)) ∧ w.cell? ⟨b, o + i * 2 + 1, none⟩ = some (.int .i64 (N i))
  k : ∀ i, i < L → inI (K i)
  n : ∀ i, i < L → inI (N i)

/-- What a statement 'x := call' leaves: a new block with the cursor c2; all else as it was. -/
def Made (B : Nat) (w : World) (c c2 : Cur) (st : List Cur) (v5 v7 : Value) (wx : World) : Prop :=
  ∃ q, v7 = .pointer (some ⟨q, 0, none⟩) ∧ q ≠ B ∧ some q ≠ v5.ownBlock ∧ HasC wx q c2.d c2.a c2.e c2.dp c2.n c2.t ∧ HasC wx B c.d c.a c.e c.dp c.n c.t ∧ OwnK wx (B + 1) v5 st ∧ Below B w wx

section
variable {B : Nat} {w wr w2 wx : World} {c c2 : Cur} {st : List Cur} {v5 : Value}
theorem made_of (hC : HasC wr B c.d c.a c.e c.dp c.n c.t) (hO : OwnK wr (B + 1) v5 st) (hb : Below B w wr) (hX : Below wr.drew.heap.size wr.drew wx) {q : Nat} (hle : wr.heap.size ≤ q) (hq : HasC wx q c2.d c2.a c2.e c2.dp c2.n c2.t) :
    Made B w c c2 st v5 (.pointer (some ⟨q, 0, none⟩)) wx :=
  ⟨q, rfl, by have := hC.lt; omega, hO.ne hle, hq, hC.drew.below hX, hO.drew.below hX, hb.drew.trans (hX.mono (Nat.le_of_lt hC.lt))⟩
theorem madeA (hC : HasC wr B c.d c.a c.e c.dp c.n c.t) (hO : OwnK wr (B + 1) v5 st) (hb : Below B w wr) (hb2 : Below wr.drew.heap.size wr.drew w2) (T : TypeId) :
    Made B w c c2 st v5 (.pointer (some ⟨w2.heap.size, 0, none⟩)) (w2.alloc (.cells #[.string c2.d, .int .i64 c2.a, .int .i64 c2.e, .int .i64 c2.dp, .int .i64 c2.n, .int .i64 c2.t] T)) :=
  made_of hC hO hb (bt hb2 (below1 _)) (by have h2 := hb2.size; have h3 : wr.drew.heap.size = wr.heap.size := rfl; omega) (has_new _ _ _ _ _ _ _ _)
theorem madeB (hC : HasC wr B c.d c.a c.e c.dp c.n c.t) (hO : OwnK wr (B + 1) v5 st) (hb : Below B w wr) {T : TypeId} {d0 : ByteArray} {a0 e0 dp0 n0 t0 : Int}
    (hb2 : Below (wr.drew.alloc (.cells #[.string d0, .int .i64 a0, .int .i64 e0, .int .i64 dp0, .int .i64 n0, .int .i64 t0] T)).heap.size (wr.drew.alloc (.cells #[.string d0, .int .i64 a0, .int .i64 e0, .int .i64 dp0, .int .i64 n0, .int .i64 t0] T)) w2) :
    Made B w c c2 st v5 (.pointer (some ⟨wr.heap.size, 0, none⟩)) ((((((w2.setCell ⟨wr.heap.size, 0, none⟩ (.string c2.d)).setCell ⟨wr.heap.size, 1, none⟩ (.int .i64 c2.a)).setCell ⟨wr.heap.size, 2, none⟩ (.int .i64 c2.e)).setCell ⟨wr.heap.size, 3, none⟩ (.int .i64 c2.dp)).setCell ⟨wr.heap.size, 4, none⟩ (.int .i64 c2.n)).setCell ⟨wr.heap.size, 5, none⟩ (.int .i64 c2.t)) := by
  have hX : Below wr.drew.heap.size wr.drew w2 := (below1 _).trans (hb2.mono (by simp))
  have hq : HasC w2 wr.heap.size d0 a0 e0 dp0 n0 t0 := (has_new wr.drew d0 a0 e0 dp0 n0 t0 T).below hb2
  exact made_of hC hO hb (below6 hX (Nat.le_refl wr.heap.size) _ _ _ _ _ _) (Nat.le_refl _) (hq.set6 _ _ _ _ _ _)
theorem madeA2 (hC : HasC wr B c.d c.a c.e c.dp c.n c.t) (hO : OwnK wr (B + 1) v5 st) (hb : Below B w wr) (hb2 : Below wr.drew.heap.size wr.drew w2) (T : TypeId) :
    Below wr.heap.size wr (w2.alloc (.cells #[.string c2.d, .int .i64 c2.a, .int .i64 c2.e, .int .i64 c2.dp, .int .i64 c2.n, .int .i64 c2.t] T)) ∧
    Made B w c c2 st v5 (.pointer (some ⟨w2.heap.size, 0, none⟩)) (w2.alloc (.cells #[.string c2.d, .int .i64 c2.a, .int .i64 c2.e, .int .i64 c2.dp, .int .i64 c2.n, .int .i64 c2.t] T)) :=
  ⟨(Below.refl _ _).drew.trans (bt hb2 (below1 _)), madeA hC hO hb hb2 T⟩
theorem madeB2 (hC : HasC wr B c.d c.a c.e c.dp c.n c.t) (hO : OwnK wr (B + 1) v5 st) (hb : Below B w wr) {T : TypeId} {d0 : ByteArray} {a0 e0 dp0 n0 t0 : Int}
    (hb2 : Below (wr.drew.alloc (.cells #[.string d0, .int .i64 a0, .int .i64 e0, .int .i64 dp0, .int .i64 n0, .int .i64 t0] T)).heap.size (wr.drew.alloc (.cells #[.string d0, .int .i64 a0, .int .i64 e0, .int .i64 dp0, .int .i64 n0, .int .i64 t0] T)) w2) :
    Below wr.heap.size wr ((((((w2.setCell ⟨wr.heap.size, 0, none⟩ (.string c2.d)).setCell ⟨wr.heap.size, 1, none⟩ (.int .i64 c2.a)).setCell ⟨wr.heap.size, 2, none⟩ (.int .i64 c2.e)).setCell ⟨wr.heap.size, 3, none⟩ (.int .i64 c2.dp)).setCell ⟨wr.heap.size, 4, none⟩ (.int .i64 c2.n)).setCell ⟨wr.heap.size, 5, none⟩ (.int .i64 c2.t)) ∧
    Made B w c c2 st v5 (.pointer (some ⟨wr.heap.size, 0, none⟩)) ((((((w2.setCell ⟨wr.heap.size, 0, none⟩ (.string c2.d)).setCell ⟨wr.heap.size, 1, none⟩ (.int .i64 c2.a)).setCell ⟨wr.heap.size, 2, none⟩ (.int .i64 c2.e)).setCell ⟨wr.heap.size, 3, none⟩ (.int .i64 c2.dp)).setCell ⟨wr.heap.size, 4, none⟩ (.int .i64 c2.n)).setCell ⟨wr.heap.size, 5, none⟩ (.int .i64 c2.t)) :=
  ⟨below6 ((Below.refl _ _).drew.trans ((below1 _).trans (hb2.mono (by simp)))) (Nat.le_refl _) _ _ _ _ _ _, madeB hC hO hb hb2⟩
end
end Go.Proofs.Ytdgbbfhhjhhahaa.Stk
