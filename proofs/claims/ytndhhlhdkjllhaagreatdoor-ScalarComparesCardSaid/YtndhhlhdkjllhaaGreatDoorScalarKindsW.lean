/- The walk of the law ScalarKinds. -/
import Derived.Test.YtndhhlhdkjllhaaGreatDoorScpE
import Derived.Test.YtndhhlhdkjllhaaGreatDoorScaS
import Derived.Test.YtndhhlhdkjllhaaGreatDoorVal
import Derived.Deep.RegionHeld3
set_option linter.unusedSimpArgs false
set_option linter.unusedVariables false
namespace Go.Proofs.YtndhhlhdkjllhaaGreatDoor.ScalarKindsW
open Go.RowKit Nums Byt UtfM UtfS ScaM ScaV ScaA ScaB ScaC ScaS ScpM ScpA ScpE Ld Box Val

theorem fits_zero (k : Int) : fitsB k (sc (zeroS k)) = isB k := by
  rw [sc_zeroS]
  unfold zeroV
  cases h : isB k with
  | false => simp [fitsB, h]
  | true =>
    simp only [fitsB, h, if_true, loneB, Bool.true_and]
    have hk : 1 ≤ k ∧ k ≤ 9 := by simpa [isB] using h
    obtain ⟨h1, h2⟩ := hk
    have : k = 1 ∨ k = 2 ∨ k = 3 ∨ k = 4 ∨ k = 5 ∨ k = 6 ∨ k = 7 ∨ k = 8 ∨ k = 9 := by omega
    rcases this with rfl | rfl | rfl | rfl | rfl | rfl | rfl | rfl | rfl <;> decide +kernel
theorem isZero_zero (k : Int) : isZeroB (sc (zeroS k)) = isB k := by
  rw [sc_zeroS]
  unfold zeroV
  cases h : isB k with
  | false => rfl
  | true => simp [isZeroB, h, loneB]
theorem same_self (x : Sc) : sameB x x = true := (sameB_iff x x).2 rfl
theorem zeroS_zv (k : Int) : ∃ m, zeroS k = zv m := by
  unfold zeroS
  split
  · exact ⟨k, rfl⟩
  · exact ⟨0, rfl⟩

set_option maxHeartbeats 2000000 in
set_option maxRecDepth 100000 in
theorem walk (kd : Int) (v : SV) (n : Nat) (wk : -9223372036854775808 ≤ kd ∧ kd ≤ 9223372036854775807) (w : World) (hv : Tree w (· < w.heap.size) n v) (hL : Ld w) :
    Calls Tryz.prog 3 #[.int .i64 kd, vv v] w fun e w' => e = .returned (.bool true) ∧ Below w.heap.size w w' := by
  have ok := hv.ok
  have F1 := Lib.hid fun kd w => fits_p kd v ok.b ok.ts ok.sum w
  have F2 := Lib.hid fun kd w => ScaC.fits_any kd v ok.b w
  have I1 := Lib.hid fun w => int_p v ok.b w
  have I2 := Lib.hid fun w => ScaB.int_any v ok.b w
  have Z1 := Lib.hid fun w => isZero_p v ok.sum w
  have Z2 := Lib.hid fun w => ScaB.isZero_any v w
  obtain ⟨m, hm⟩ := zeroS_zv kd
  have F3 := Lib.hid fun w => fits_p kd (zv m) (Nat.zero_le _) (Nat.zero_le _) (Nat.zero_le _) w
  have Z3 := Lib.hid fun w => isZero_p (zv m) (Nat.zero_le _) w
  have A1 := Lib.hid fun w => zero_p kd w
  have A2 := Lib.hid fun w => ScaB.zero_any kd w
  have Sm := Lib.hid fun w => same_any (zv m) (zv m) w
  rw [hm] at A1 A2
  have hf := fits_zero kd
  have hz := isZero_zero kd
  rw [hm] at hf hz
  rw [hf] at F3
  rw [hz] at Z3
  rw [same_self] at Sm
  clear hf hz hm ok hv wk
  obtain ⟨k, b, t, a1, l1, c1, a2, l2, c2, a3, l3, c3, a4, l4, c4⟩ := v
  simp only [vv, zv] at *
  go_enter Tryz.func3, Tryz.ntmps3
  go_wp2_with fail
  refine (A1.out _).mono ?_
  rintro _ w1 ⟨rfl, hb⟩
  have BV := (b7_new w (.int .i64 k) (.int .u64 b) (.string t) (.slice a1 l1 c1) (.slice a2 l2 c2) (.slice a3 l3 c3) (.slice a4 l4 c4) 28).below hb
  have HB := bt (below_box _ _) hb
  replace hL := hL.below HB
  have BZ := b7_new w1 (.int .i64 m) (.int .u64 0) (.string ⟨#[]⟩) (.slice none 0 0) (.slice none 0 0) (.slice none 0 0) (.slice none 0 0) 28
  replace BV := BV.alloc (.cells #[.int .i64 m, .int .u64 0, .string ⟨#[]⟩, .slice none 0 0, .slice none 0 0, .slice none 0 0, .slice none 0 0] 28)
  replace hL := hL.below (below_box w1 (.cells #[.int .i64 m, .int .u64 0, .string ⟨#[]⟩, .slice none 0 0, .slice none 0 0, .slice none 0 0, .slice none 0 0] 28))
  replace HB := bt HB (below_box w1 (.cells #[.int .i64 m, .int .u64 0, .string ⟨#[]⟩, .slice none 0 0, .slice none 0 0, .slice none 0 0, .slice none 0 0] 28))
  clear hb
  go_wp2_with fail
  replace BV := BV.drew
  replace BZ := BZ.drew
  replace HB := HB.drew
  replace hL := hL.below (Below.refl _ _).drew
  go_region_held3 (fun w' => (w'.cell? ⟨w.heap.size, 0, none⟩ = some (.int .i64 k) ∧ w'.cell? ⟨w.heap.size, 1, none⟩ = some (.int .u64 b) ∧ w'.cell? ⟨w.heap.size, 2, none⟩ = some (.string t) ∧ w'.cell? ⟨w.heap.size, 3, none⟩ = some (.slice a1 l1 c1) ∧ w'.cell? ⟨w.heap.size, 4, none⟩ = some (.slice a2 l2 c2) ∧ w'.cell? ⟨w.heap.size, 5, none⟩ = some (.slice a3 l3 c3) ∧ w'.cell? ⟨w.heap.size, 6, none⟩ = some (.slice a4 l4 c4)) ∧ (w'.cell? ⟨w1.heap.size, 0, none⟩ = some (.int .i64 m) ∧ w'.cell? ⟨w1.heap.size, 1, none⟩ = some (.int .u64 0) ∧ w'.cell? ⟨w1.heap.size, 2, none⟩ = some (.string ⟨#[]⟩) ∧ w'.cell? ⟨w1.heap.size, 3, none⟩ = some (.slice none 0 0) ∧ w'.cell? ⟨w1.heap.size, 4, none⟩ = some (.slice none 0 0) ∧ w'.cell? ⟨w1.heap.size, 5, none⟩ = some (.slice none 0 0) ∧ w'.cell? ⟨w1.heap.size, 6, none⟩ = some (.slice none 0 0))) (exact ⟨BV.cells, BZ.cells⟩)
    (first
      | (go_at_call 11; refine (is_p _ _).mono ?_; rintro _ _ ⟨rfl, rfl⟩)
      | (go_at_call 12; refine (ScaA.is_any _ _).mono ?_; rintro _ _ ⟨rfl, rfl⟩)
      | (go_at_call 14; refine (A2.out _).mono ?_; rintro _ w2 ⟨rfl, hb⟩; have BV := BV.below hb; have BZ := BZ.below hb; have HB := bt HB hb; have hL := hL.below hb; clear hb)
      | (go_at_call 13; refine (Sm.out _).mono ?_; rintro _ w2 ⟨rfl, hb⟩; have BV := BV.below hb; have BZ := BZ.below hb; have HB := bt HB hb; have hL := hL.below hb; clear hb)
      | (go_at_call 15; refine (Z1.out _).mono ?_; rintro _ w2 ⟨rfl, hb⟩; have BV := BV.below hb; have BZ := BZ.below hb; have HB := bt HB hb; have hL := hL.below hb; clear hb)
      | (go_at_call 16; refine (Z2.out _).mono ?_; rintro _ w2 ⟨rfl, hb⟩; have BV := BV.below hb; have BZ := BZ.below hb; have HB := bt HB hb; have hL := hL.below hb; clear hb))
  go_wp2_with fail
  replace BV := BV.drew
  replace BZ := BZ.drew
  replace HB := HB.drew
  replace hL := hL.below (Below.refl _ _).drew
  go_region_held3 (fun w' => (w'.cell? ⟨w.heap.size, 0, none⟩ = some (.int .i64 k) ∧ w'.cell? ⟨w.heap.size, 1, none⟩ = some (.int .u64 b) ∧ w'.cell? ⟨w.heap.size, 2, none⟩ = some (.string t) ∧ w'.cell? ⟨w.heap.size, 3, none⟩ = some (.slice a1 l1 c1) ∧ w'.cell? ⟨w.heap.size, 4, none⟩ = some (.slice a2 l2 c2) ∧ w'.cell? ⟨w.heap.size, 5, none⟩ = some (.slice a3 l3 c3) ∧ w'.cell? ⟨w.heap.size, 6, none⟩ = some (.slice a4 l4 c4)) ∧ (w'.cell? ⟨w1.heap.size, 0, none⟩ = some (.int .i64 m) ∧ w'.cell? ⟨w1.heap.size, 1, none⟩ = some (.int .u64 0) ∧ w'.cell? ⟨w1.heap.size, 2, none⟩ = some (.string ⟨#[]⟩) ∧ w'.cell? ⟨w1.heap.size, 3, none⟩ = some (.slice none 0 0) ∧ w'.cell? ⟨w1.heap.size, 4, none⟩ = some (.slice none 0 0) ∧ w'.cell? ⟨w1.heap.size, 5, none⟩ = some (.slice none 0 0) ∧ w'.cell? ⟨w1.heap.size, 6, none⟩ = some (.slice none 0 0))) (exact ⟨BV.cells, BZ.cells⟩)
    (first
      | (go_at_call 11; refine (is_p _ _).mono ?_; rintro _ _ ⟨rfl, rfl⟩)
      | (go_at_call 17; refine (F3.out _).mono ?_; rintro _ w2 ⟨rfl, hb⟩; have BV := BV.below hb; have BZ := BZ.below hb; have HB := bt HB hb; have hL := hL.below hb; clear hb)
      | (go_at_call 15; refine (Z3.out _).mono ?_; rintro _ w2 ⟨rfl, hb⟩; have BV := BV.below hb; have BZ := BZ.below hb; have HB := bt HB hb; have hL := hL.below hb; clear hb))
  go_wp2_with fail
  replace BV := BV.drew
  replace BZ := BZ.drew
  replace HB := HB.drew
  replace hL := hL.below (Below.refl _ _).drew
  go_region_held3 (fun w' => (w'.cell? ⟨w.heap.size, 0, none⟩ = some (.int .i64 k) ∧ w'.cell? ⟨w.heap.size, 1, none⟩ = some (.int .u64 b) ∧ w'.cell? ⟨w.heap.size, 2, none⟩ = some (.string t) ∧ w'.cell? ⟨w.heap.size, 3, none⟩ = some (.slice a1 l1 c1) ∧ w'.cell? ⟨w.heap.size, 4, none⟩ = some (.slice a2 l2 c2) ∧ w'.cell? ⟨w.heap.size, 5, none⟩ = some (.slice a3 l3 c3) ∧ w'.cell? ⟨w.heap.size, 6, none⟩ = some (.slice a4 l4 c4)) ∧ (w'.cell? ⟨w1.heap.size, 0, none⟩ = some (.int .i64 m) ∧ w'.cell? ⟨w1.heap.size, 1, none⟩ = some (.int .u64 0) ∧ w'.cell? ⟨w1.heap.size, 2, none⟩ = some (.string ⟨#[]⟩) ∧ w'.cell? ⟨w1.heap.size, 3, none⟩ = some (.slice none 0 0) ∧ w'.cell? ⟨w1.heap.size, 4, none⟩ = some (.slice none 0 0) ∧ w'.cell? ⟨w1.heap.size, 5, none⟩ = some (.slice none 0 0) ∧ w'.cell? ⟨w1.heap.size, 6, none⟩ = some (.slice none 0 0))) (exact ⟨BV.cells, BZ.cells⟩)
    (first
      | (go_at_call 18; refine (I1.out _).mono ?_; rintro _ w2 ⟨rfl, hb⟩; have BV := BV.below hb; have BZ := BZ.below hb; have HB := bt HB hb; have hL := hL.below hb; clear hb)
      | (go_at_call 19; refine (I2.out _).mono ?_; rintro _ w2 ⟨rfl, hb⟩; have BV := BV.below hb; have BZ := BZ.below hb; have HB := bt HB hb; have hL := hL.below hb; clear hb)
      | (go_at_call_of 17 (Value.int .i64 kd); refine (F1.out kd _).mono ?_; rintro _ w2 ⟨rfl, hb⟩; have BV := BV.below hb; have BZ := BZ.below hb; have HB := bt HB hb; have hL := hL.below hb; clear hb)
      | (go_at_call_of 20 (Value.int .i64 kd); refine (F2.out kd _).mono ?_; rintro _ w2 ⟨rfl, hb⟩; have BV := BV.below hb; have BZ := BZ.below hb; have HB := bt HB hb; have hL := hL.below hb; clear hb)
      | (go_at_call_of 17 (Value.int .i64 k); refine (F1.out k _).mono ?_; rintro _ w2 ⟨rfl, hb⟩; have BV := BV.below hb; have BZ := BZ.below hb; have HB := bt HB hb; have hL := hL.below hb; clear hb)
      | (go_at_call_of 20 (Value.int .i64 k); refine (F2.out k _).mono ?_; rintro _ w2 ⟨rfl, hb⟩; have BV := BV.below hb; have BZ := BZ.below hb; have HB := bt HB hb; have hL := hL.below hb; clear hb)
      | (go_at_call 21; refine (awake_any _ hL).mono ?_; rintro _ w2 ⟨rfl, hb⟩; have BV := BV.below hb; have BZ := BZ.below hb; have HB := bt HB hb; have hL := hL.below hb; clear hb))
  go_wp2_with fail
  go_ret
  exact ⟨rfl, HB⟩
end Go.Proofs.YtndhhlhdkjllhaaGreatDoor.ScalarKindsW
