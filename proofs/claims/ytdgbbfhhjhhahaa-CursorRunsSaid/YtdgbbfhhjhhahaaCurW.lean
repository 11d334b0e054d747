/- The example that each law of the cursor contains comes out true. -/
import Derived.Test.YtdgbbfhhjhhahaaCurB
import Derived.Test.YtdgbbfhhjhhahaaCurT
import Derived.Test.YtdgbbfhhjhhahaaCurO
namespace Go.Proofs.Ytdgbbfhhjhhahaa.CurW
open Go.RowKit CurM Has Nums CurA CurB CurT CurO

theorem inj3 {α β γ : Type} {a a' : α} {b b' : β} {c c' : γ} {p : α × β × γ} (h : p = (a, b, c)) (k : p = (a', b', c')) : a' = a ∧ b' = b ∧ c' = c := by
  rw [h] at k; injection k with k1 k2; injection k2 with k2 k3; exact ⟨k1.symm, k2.symm, k3.symm⟩
theorem inj2 {β γ : Type} {b b' : β} {c c' : γ} {p : β × γ} (h : p = (b, c)) (k : p = (b', c')) : b' = b ∧ c' = c := by
  rw [h] at k; injection k with k2 k3; exact ⟨k2.symm, k3.symm⟩

theorem e1 : pOpen ⟨#[5, 97, 98]⟩ 3 1 2 2 = (⟨⟨#[5, 97, 98]⟩, 0, 3, 1, 2, 2⟩, 0) := by rfl
theorem e2 : pByte ⟨⟨#[5, 97, 98]⟩, 0, 3, 1, 2, 2⟩ = (5, ⟨⟨#[5, 97, 98]⟩, 1, 3, 1, 2, 2⟩, 0) := by rfl
theorem e3 : pText ⟨⟨#[5, 97, 98]⟩, 1, 3, 1, 2, 2⟩ 2 = (⟨#[97, 98]⟩, ⟨⟨#[5, 97, 98]⟩, 3, 3, 1, 2, 2⟩, 0) := by rfl
theorem e4 : pByte ⟨⟨#[5, 97, 98]⟩, 3, 3, 1, 2, 2⟩ = (0, ⟨⟨#[5, 97, 98]⟩, 3, 3, 1, 2, 2⟩, 4) := by rfl
theorem e5 : (rest ⟨⟨#[5, 97, 98]⟩, 0, 3, 1, 2, 2⟩).size = 3 := by rfl
theorem e6 : sound ⟨⟨#[5, 97, 98]⟩, 3, 3, 1, 2, 2⟩ = true := by rfl
theorem sz : (⟨#[5, 97, 98]⟩ : ByteArray).size = 3 := by rfl
theorem wf {a : Int} (h : 0 ≤ a ∧ a ≤ 3) : Wf ⟨⟨#[5, 97, 98]⟩, a, 3, 1, 2, 2⟩ := by
  refine ⟨by rw [sz]; omega, ?_, ?_, ?_, ?_, ?_⟩ <;> (unfold inI; simp only; omega)

set_option maxRecDepth 100000 in
set_option maxHeartbeats 1000000 in
theorem awake_any (w : World) : Calls Try.prog 18 #[] w fun e w' => e = .returned (.bool true) ∧ Below w.heap.size w w' := by
  go_enter Try.func18, Try.ntmps18
  go_wp2_with fail
  refine (openP ⟨#[5, 97, 98]⟩ 3 1 2 2 _ (by rw [sz]; omega) (by unfold inI; omega) (by unfold inI; omega) (by unfold inI; omega) (by unfold inI; omega)).mono ?_
  rintro _ w1 ⟨c1, x1, rfl, h1, hb1⟩
  obtain ⟨rfl, rfl⟩ := inj2 e1 h1.out
  clear h1
  go_wp2_with fail
  refine (byteP _ _ (wf ⟨Int.le_refl _, by omega⟩)).mono ?_
  rintro _ w2 ⟨b2, c2, x2, rfl, h2, hb2⟩
  obtain ⟨rfl, rfl, rfl⟩ := inj3 e2 h2.out
  clear h2
  have hA := (has_new _ _ _ _ _ _ _ _).below hb2
  go_wp2_with fail
  refine (textP _ _ _ (wf ⟨by omega, by omega⟩) (by unfold inI; omega)).mono ?_
  rintro _ w3 ⟨b3, c3, x3, rfl, h3, hb3⟩
  obtain ⟨rfl, rfl, rfl⟩ := inj3 e3 h3.out
  clear h3
  have hA := (hA.alloc _).below hb3
  go_wp2_with fail
  refine (byteP _ _ (wf ⟨by omega, Int.le_refl _⟩)).mono ?_
  rintro _ w4 ⟨b4, c4, x4, rfl, h4, hb4⟩
  obtain ⟨rfl, rfl, rfl⟩ := inj3 e4 h4.out
  clear h4
  have hC := ((has_new _ _ _ _ _ _ _ _).below hb4)
  have hA := (hA.alloc _).below hb4
  obtain ⟨i0, r0, r1, r2, r3, r4, r5, rf⟩ := hA
  go_wp2_with fail
  refine (leftP _ _ (wf ⟨Int.le_refl _, by omega⟩)).mono ?_
  rintro _ w5 ⟨rfl, hb5⟩
  rw [e5]
  obtain ⟨i1, s0, s1, s2, s3, s4, s5, sf⟩ := (hC.alloc _).below hb5
  go_wp2_with fail
  refine (soundP _ _ (wf ⟨by omega, Int.le_refl _⟩) true e6).mono ?_
  rintro _ w6 ⟨rfl, hb6⟩
  go_wp2_with fail
  go_ret
  exact ⟨rfl, bt (bt (bt (bt (bt hb1 (below1t hb2)) (below1t hb3)) (below1t hb4)) (below1t hb5)) hb6⟩
end Go.Proofs.Ytdgbbfhhjhhahaa.CurW
