/- The walk of the law ScalarNorms. -/
import Derived.Test.YtndhhlhdkjllhaaGreatDoorScalarKindsW
import Derived.Test.YtndhhlhdkjllhaaGreatDoorNorP
set_option linter.unusedSimpArgs false
set_option linter.unusedVariables false
namespace Go.Proofs.YtndhhlhdkjllhaaGreatDoor.ScalarNormsW
open Go.RowKit Nums Byt UtfM UtfS ScaM ScaV ScaA ScaB ScaC ScaS ScpM ScpA ScpE Ld Box Val CloM CloB CloC NorP ScalarKindsW

theorem norm_norm (x : Sc) : normV (normV x) = normV x := by
  unfold normV
  by_cases h : x.k = 6 ∧ clsN x.b = 0
  · rw [if_pos h]
    by_cases h2 : x.k = 6 ∧ clsN nanN = 0
    · rw [if_pos h2]
    · rw [if_neg h2]
  · rw [if_neg h, if_neg h]
theorem fits_norm (k : Int) (x : Sc) : fitsB k (normV x) = fitsB k x := by
  unfold normV
  split
  · rename_i h
    unfold fitsB
    by_cases e : k = 6
    · subst e; simp [txB, rgB, loneB]
    · have : (x.k == k) = false := by rw [h.1]; simp; omega
      simp [this]
  · rfl
theorem treeB {w w' : World} {n : Nat} {v : SV} (h : Tree w (· < w.heap.size) n v) (hb : Below w.heap.size w w') : Tree w' (· < w'.heap.size) n v := Old.here (w := w) h hb

set_option maxHeartbeats 4000000 in
set_option maxRecDepth 100000 in
theorem walk (v : SV) (n : Nat) (w : World) (hv : Tree w (· < w.heap.size) n v) (hL : Ld w) :
    Calls Tryz.prog 4 #[vv v] w fun e w' => e = .returned (.bool true) ∧ Below w.heap.size w w' := by
  have ok := hv.ok
  have FV := Lib.hid fun kd w => fits_p kd v ok.b ok.ts ok.sum w
  have K1 := Lib.hid fun w => class_p v.b ok.b w
  have R := Lib.hid fun w => ScaB.norm_any v w
  obtain ⟨r, hr⟩ : ∃ r, r = normS v := ⟨_, rfl⟩
  have hrs : sc r = normV (sc v) := by rw [hr]; exact sc_normS v
  rw [← hr] at R
  have HV := Lib.hid hv
  clear hr ok hv
  obtain ⟨k, b, t, a1, l1, c1, a2, l2, c2, a3, l3, c3, a4, l4, c4⟩ := v
  obtain ⟨rk, rb, rt, ra1, rl1, rc1, ra2, rl2, rc2, ra3, rl3, rc3, ra4, rl4, rc4⟩ := r
  simp only [vv] at *
  go_enter Tryz.func4, Tryz.ntmps4
  go_wp2_with fail
  refine (norm_p n ⟨k, b, t, a1, l1, c1, a2, l2, c2, a3, l3, c3, a4, l4, c4⟩ _ (treeB HV.out (below_box _ _))).mono ?_
  rintro _ w1 ⟨x, rfl, hx, htx, hb⟩
  have BV := (b7_new w (.int .i64 k) (.int .u64 b) (.string t) (.slice a1 l1 c1) (.slice a2 l2 c2) (.slice a3 l3 c3) (.slice a4 l4 c4) 28).below hb
  have HB := bt (below_box _ _) hb
  replace hL := hL.below HB
  have TX : Tree w1 (· < w1.heap.size) n x := Tree.mono (fun _ h => h.2) (fun _ _ => rfl) htx
  have okx := TX.ok
  have FX := Lib.hid fun kd w => fits_p kd x okx.b okx.ts okx.sum w
  have fx : ∀ kd, fitsB kd (sc x) = fitsB kd (sc ⟨k, b, t, a1, l1, c1, a2, l2, c2, a3, l3, c3, a4, l4, c4⟩) := fun kd => by rw [hx]; exact fits_norm kd _
  simp only [fx] at FX
  have sr : sameB (sc x) (sc ⟨rk, rb, rt, ra1, rl1, rc1, ra2, rl2, rc2, ra3, rl3, rc3, ra4, rl4, rc4⟩) = true := by rw [hx, hrs]; exact same_self _
  have SR := Lib.hid sr
  have HX := Lib.hid hx
  clear fx sr hx hrs htx okx hb HV
  obtain ⟨xk, xb, xt, xa1, xl1, xc1, xa2, xl2, xc2, xa3, xl3, xc3, xa4, xl4, xc4⟩ := x
  simp only [vv] at *
  obtain ⟨bx, hbx⟩ : ∃ o, o = Obj.cells #[.int .i64 xk, .int .u64 xb, .string xt, .slice xa1 xl1 xc1, .slice xa2 xl2 xc2, .slice xa3 xl3 xc3, .slice xa4 xl4 xc4] 28 := ⟨_, rfl⟩
  have BX := b7_new w1 (.int .i64 xk) (.int .u64 xb) (.string xt) (.slice xa1 xl1 xc1) (.slice xa2 xl2 xc2) (.slice xa3 xl3 xc3) (.slice xa4 xl4 xc4) 28
  replace BX := BX.drew
  replace BV := (BV.alloc (.cells #[.int .i64 xk, .int .u64 xb, .string xt, .slice xa1 xl1 xc1, .slice xa2 xl2 xc2, .slice xa3 xl3 xc3, .slice xa4 xl4 xc4] 28)).drew
  replace HB := (bt HB (below_box w1 (.cells #[.int .i64 xk, .int .u64 xb, .string xt, .slice xa1 xl1 xc1, .slice xa2 xl2 xc2, .slice xa3 xl3 xc3, .slice xa4 xl4 xc4] 28))).drew
  replace hL := hL.below (below_box w1 (.cells #[.int .i64 xk, .int .u64 xb, .string xt, .slice xa1 xl1 xc1, .slice xa2 xl2 xc2, .slice xa3 xl3 xc3, .slice xa4 xl4 xc4] 28)).drew
  replace TX := treeB TX (below_box w1 (.cells #[.int .i64 xk, .int .u64 xb, .string xt, .slice xa1 xl1 xc1, .slice xa2 xl2 xc2, .slice xa3 xl3 xc3, .slice xa4 xl4 xc4] 28)).drew
  clear hbx
  have ⟨_, p0, p1, p2, p3, p4, p5, p6, pf⟩ := BV
  go_wp2_with fail
  clear p0 p1 p2 p3 p4 p5 p6 pf
  go_region_held3 (fun w' => (w'.cell? ⟨w.heap.size, 0, none⟩ = some (.int .i64 k) ∧ w'.cell? ⟨w.heap.size, 1, none⟩ = some (.int .u64 b) ∧ w'.cell? ⟨w.heap.size, 2, none⟩ = some (.string t) ∧ w'.cell? ⟨w.heap.size, 3, none⟩ = some (.slice a1 l1 c1) ∧ w'.cell? ⟨w.heap.size, 4, none⟩ = some (.slice a2 l2 c2) ∧ w'.cell? ⟨w.heap.size, 5, none⟩ = some (.slice a3 l3 c3) ∧ w'.cell? ⟨w.heap.size, 6, none⟩ = some (.slice a4 l4 c4)) ∧ (w'.cell? ⟨w1.heap.size, 0, none⟩ = some (.int .i64 xk) ∧ w'.cell? ⟨w1.heap.size, 1, none⟩ = some (.int .u64 xb) ∧ w'.cell? ⟨w1.heap.size, 2, none⟩ = some (.string xt) ∧ w'.cell? ⟨w1.heap.size, 3, none⟩ = some (.slice xa1 xl1 xc1) ∧ w'.cell? ⟨w1.heap.size, 4, none⟩ = some (.slice xa2 xl2 xc2) ∧ w'.cell? ⟨w1.heap.size, 5, none⟩ = some (.slice xa3 xl3 xc3) ∧ w'.cell? ⟨w1.heap.size, 6, none⟩ = some (.slice xa4 xl4 xc4))) (with_reducible exact ⟨BV.cells, BX.cells⟩)
    (first
      | (go_at_call 23; refine (R.out _).mono ?_; rintro _ w2 ⟨rfl, hb⟩; have BV := BV.below hb; have BX := BX.below hb; have HB := bt HB hb; have hL := hL.below hb; have TX := treeB TX hb; clear hb)
      | (go_at_call_of 13 (Value.agg #[.int .i64 rk, .int .u64 rb, .string rt, .slice ra1 rl1 rc1, .slice ra2 rl2 rc2, .slice ra3 rl3 rc3, .slice ra4 rl4 rc4]); refine (same_any ⟨xk, xb, xt, xa1, xl1, xc1, xa2, xl2, xc2, xa3, xl3, xc3, xa4, xl4, xc4⟩ ⟨rk, rb, rt, ra1, rl1, rc1, ra2, rl2, rc2, ra3, rl3, rc3, ra4, rl4, rc4⟩ _).mono ?_; rintro _ w2 ⟨rfl, hb⟩; rw [SR.out]; have BV := BV.below hb; have BX := BX.below hb; have HB := bt HB hb; have hL := hL.below hb; have TX := treeB TX hb; clear hb)
      | (go_at_call 22; refine (norm_p n ⟨xk, xb, xt, xa1, xl1, xc1, xa2, xl2, xc2, xa3, xl3, xc3, xa4, xl4, xc4⟩ _ TX).mono ?_; rintro _ w2 ⟨y, rfl, hy, _, hb⟩; have SY : sameB (sc y) (sc ⟨xk, xb, xt, xa1, xl1, xc1, xa2, xl2, xc2, xa3, xl3, xc3, xa4, xl4, xc4⟩) = true := (by rw [hy, HX.out, norm_norm]; exact same_self _); have BV := BV.below hb; have BX := BX.below hb; have HB := bt HB hb; have hL := hL.below hb; have TX := treeB TX hb; clear hb; obtain ⟨yk, yb, yt, ya1, yl1, yc1, ya2, yl2, yc2, ya3, yl3, yc3, ya4, yl4, yc4⟩ := y; simp only [vv])
      | (go_at_call_of 13 (Value.agg #[.int .i64 yk, .int .u64 yb, .string yt, .slice ya1 yl1 yc1, .slice ya2 yl2 yc2, .slice ya3 yl3 yc3, .slice ya4 yl4 yc4]); refine (same_any ⟨yk, yb, yt, ya1, yl1, yc1, ya2, yl2, yc2, ya3, yl3, yc3, ya4, yl4, yc4⟩ ⟨xk, xb, xt, xa1, xl1, xc1, xa2, xl2, xc2, xa3, xl3, xc3, xa4, xl4, xc4⟩ _).mono ?_; rintro _ w2 ⟨rfl, hb⟩; rw [SY]; have BV := BV.below hb; have BX := BX.below hb; have HB := bt HB hb; have hL := hL.below hb; have TX := treeB TX hb; clear hb)
      | (go_at_call 24; refine (K1.out _).mono ?_; rintro _ _ ⟨rfl, rfl⟩)
      | (go_at_call 25; refine (class_any _ _).mono ?_; rintro _ _ ⟨rfl, rfl⟩)
      | (go_at_call_of 17 (Value.agg #[.int .i64 xk, .int .u64 xb, .string xt, .slice xa1 xl1 xc1, .slice xa2 xl2 xc2, .slice xa3 xl3 xc3, .slice xa4 xl4 xc4]); refine (FX.out k _).mono ?_; rintro _ w2 ⟨rfl, hb⟩; have BV := BV.below hb; have BX := BX.below hb; have HB := bt HB hb; have hL := hL.below hb; have TX := treeB TX hb; clear hb)
      | (go_at_call_of 17 (Value.agg #[.int .i64 k, .int .u64 b, .string t, .slice a1 l1 c1, .slice a2 l2 c2, .slice a3 l3 c3, .slice a4 l4 c4]); refine (FV.out k _).mono ?_; rintro _ w2 ⟨rfl, hb⟩; have BV := BV.below hb; have BX := BX.below hb; have HB := bt HB hb; have hL := hL.below hb; have TX := treeB TX hb; clear hb)
      | (go_at_call 21; refine (awake_any _ hL).mono ?_; rintro _ w2 ⟨rfl, hb⟩; have BV := BV.below hb; have BX := BX.below hb; have HB := bt HB hb; have hL := hL.below hb; have TX := treeB TX hb; clear hb))
  all_goals
    go_wp2_with fail
    go_ret
    exact ⟨rfl, HB⟩
end Go.Proofs.YtndhhlhdkjllhaaGreatDoor.ScalarNormsW
