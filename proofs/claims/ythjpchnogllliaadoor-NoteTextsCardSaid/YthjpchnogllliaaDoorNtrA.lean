/- The reference of stage 8: the kind of a name, its targets, right values. -/
import Derived.Test.YthjpchnogllliaaDoorNotK
import Derived.Test.YthjpchnogllliaaDoorScaC
set_option linter.unusedSimpArgs false
set_option linter.unusedVariables false
namespace Go.Proofs.YthjpchnogllliaaDoor.NtrA
open Go.RowKit Nums ScaM ScaV Val NotM NotK

theorem ret_i {a b : Int} (h : a = b) : Ending.returned (.int .i64 a) = .returned (.int .i64 b) := by rw [h]
theorem ret_b {a b : Bool} (h : a = b) : Ending.returned (.bool a) = .returned (.bool b) := by rw [h]
set_option maxHeartbeats 2000000 in
set_option maxRecDepth 100000 in
theorem kind_any (s : ByteArray) (w : World) :
    Calls Tryd.prog 9 #[.string s] w fun e w' => e = .returned (.int .i64 (kindN s.data.toList)) ∧ w = w' := by
  obtain ⟨K, hK⟩ : ∃ K, K = kindN s.data.toList := ⟨_, rfl⟩
  rw [← hK]
  rw [← ByteArray.toList_eq] at hK
  have HK := Lib.hid hK
  clear hK
  go_enter Tryd.func9, Tryd.ntmps9
  go_wp2_with fail
  all_goals go_ret
  all_goals
    refine ⟨ret_i ?_, rfl⟩
    rw [HK.out]
    clear HK
    simp_all [kindN, knB, knT, knU, knI]
set_option maxHeartbeats 2000000 in
set_option maxRecDepth 100000 in
theorem fits_any (s : ByteArray) (tg : Int) (w : World) :
    Calls Tryd.prog 27 #[.string s, .int .i64 tg] w fun e w' => e = .returned (.bool (fitsT s.data.toList tg)) ∧ w = w' := by
  obtain ⟨K, hK⟩ : ∃ K, K = fitsT s.data.toList tg := ⟨_, rfl⟩
  rw [← hK]
  rw [← ByteArray.toList_eq] at hK
  have HK := Lib.hid hK
  clear hK
  go_enter Tryd.func27, Tryd.ntmps27
  go_wp2_with fail
  all_goals go_ret
  all_goals
    refine ⟨ret_b ?_, rfl⟩
    rw [HK.out]
    clear HK
    (simp_all [fitsT, tgA, tgF, tgO, tgM]) <;> first | omega | (rw [Bool.eq_iff_iff]; simp only [Bool.or_eq_true, beq_iff_eq]; omega)

set_option maxHeartbeats 2000000 in
set_option maxRecDepth 100000 in
theorem right_any (m : Mn) (hb : m.v.b ≤ 18446744073709551615) (w : World) :
    Calls Tryd.prog 28 #[nn m] w fun e w' => e = .returned (.bool (rightB m.nt)) ∧ Below w.heap.size w w' := by
  obtain ⟨B, hB⟩ : ∃ B, B = rightB m.nt := ⟨_, rfl⟩
  rw [← hB]
  obtain ⟨K, hK⟩ : ∃ K, kindN m.nm.data.toList = K := ⟨_, rfl⟩
  have hB2 : B = (K != 0 && (m.v.k == K && fitsB K (sc m.v))) := by
    rw [hB, ← hK]; rfl
  have HK := Lib.hid hK
  have H8 := Lib.hid (box8 w m 42)
  clear hB hK
  obtain ⟨F, hF⟩ : ∃ F, fitsB K (sc m.v) = F := ⟨_, rfl⟩
  rw [hF] at hB2
  have HF := Lib.hid hF
  clear hF
  unfold nn
  cases e0 : (K != 0) with
  | false =>
    rw [e0] at hB2
    have HB := Lib.hid hB2
    clear hB2
    go_enter Tryd.func28, Tryd.ntmps28
    go_wp2_with fail
    refine (kind_any m.nm _).mono ?_
    rintro _ wz ⟨rfl, rfl⟩
    rw [HK.out]
    go_wp2_with fail
    go_ret
    exact ⟨by rw [HB.out]; rfl, (Below.refl _ _).alloc (Nat.le_refl _) _⟩
  | true =>
    cases e1 : (m.v.k == K) with
    | false =>
      rw [e0, e1] at hB2
      have HB := Lib.hid hB2
      clear hB2
      go_enter Tryd.func28, Tryd.ntmps28
      go_wp2_with fail
      refine (kind_any m.nm _).mono ?_
      rintro _ wz ⟨rfl, rfl⟩
      rw [HK.out]
      go_wp2_with fail
      go_ret
      exact ⟨by rw [HB.out]; rfl, (Below.refl _ _).alloc (Nat.le_refl _) _⟩
    | true =>
      rw [e0, e1] at hB2
      have HB := Lib.hid hB2
      clear hB2
      go_enter Tryd.func28, Tryd.ntmps28
      go_wp2_with fail
      refine (kind_any m.nm _).mono ?_
      rintro _ wz ⟨rfl, rfl⟩
      rw [HK.out]
      go_wp2_with fail
      refine (ScaC.fits_any K m.v hb _).mono ?_
      rintro _ w1 ⟨rfl, hb1⟩
      rw [HF.out]
      go_wp2_with fail
      go_ret
      exact ⟨by rw [HB.out]; simp, ((Below.refl _ _).alloc (Nat.le_refl _) _).trans (hb1.mono (by simp))⟩
end Go.Proofs.YthjpchnogllliaaDoor.NtrA
