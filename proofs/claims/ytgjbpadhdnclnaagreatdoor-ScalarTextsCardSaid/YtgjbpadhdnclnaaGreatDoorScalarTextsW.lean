/- The walk of ScalarTexts. -/
import Derived.Test.YtgjbpadhdnclnaaGreatDoorTxtP
import Derived.Test.YtgjbpadhdnclnaaGreatDoorScaF
import Derived.Test.YtgjbpadhdnclnaaGreatDoorVal
import Derived.Deep.RegionHeld3
set_option linter.unusedSimpArgs false
set_option linter.unusedVariables false
namespace Go.Proofs.YtgjbpadhdnclnaaGreatDoor.ScalarTextsW
open Go.RowKit Nums Byt UtfM UtfS ScaM ScaV ScaA ScaB ScaC ScpM ScpA ScpE Ld Box Val TxtP

set_option maxHeartbeats 4000000 in
set_option maxRecDepth 100000 in
theorem walk (v : SV) (n : Nat) (w : World) (hv : Tree w (· < w.heap.size) n v) (hL : Ld w) :
    Calls Tryz.prog 3 #[vv v] w fun e w' => e = .returned (.bool true) ∧ Below w.heap.size w w' := by
  have ok := hv.ok
  have HP := Lib.hid fun w hL => text_p v ok.b (Nat.le_trans ok.ts (by decide)) ok.sum w hL
  have HR := Lib.hid fun w => ScaF.text_any v ok.b w
  have HA := Lib.hid fun w hL => awake_any w hL
  obtain ⟨t, ht⟩ : ∃ t : ByteArray, t = ⟨(textV (sc v)).toArray⟩ := ⟨_, rfl⟩
  rw [← ht] at HP HR
  have hc : (t.toList == t.toList) = true := beq_self_eq_true _
  clear ok hv ht
  obtain ⟨k, b, s, a1, l1, c1, a2, l2, c2, a3, l3, c3, a4, l4, c4⟩ := v
  simp only [vv] at *
  go_enter Tryz.func3, Tryz.ntmps3
  go_wp2_with fail
  have BV := (b7_new w (.int .i64 k) (.int .u64 b) (.string s) (.slice a1 l1 c1) (.slice a2 l2 c2) (.slice a3 l3 c3) (.slice a4 l4 c4) 28).drew
  have hB := (below_box w (.cells #[.int .i64 k, .int .u64 b, .string s, .slice a1 l1 c1, .slice a2 l2 c2, .slice a3 l3 c3, .slice a4 l4 c4] 28)).drew
  replace hL := hL.below hB
  go_region_held3 (fun w' => w'.cell? ⟨w.heap.size, 0, none⟩ = some (.int .i64 k) ∧ w'.cell? ⟨w.heap.size, 1, none⟩ = some (.int .u64 b) ∧ w'.cell? ⟨w.heap.size, 2, none⟩ = some (.string s) ∧ w'.cell? ⟨w.heap.size, 3, none⟩ = some (.slice a1 l1 c1) ∧ w'.cell? ⟨w.heap.size, 4, none⟩ = some (.slice a2 l2 c2) ∧ w'.cell? ⟨w.heap.size, 5, none⟩ = some (.slice a3 l3 c3) ∧ w'.cell? ⟨w.heap.size, 6, none⟩ = some (.slice a4 l4 c4)) (with_reducible exact BV.cells)
    (first
      | (go_at_call 7; refine (HP.out _ hL).mono ?_; rintro _ w2 ⟨rfl, hb⟩; have BV := BV.below hb; have hB := bt hB hb; have hL := hL.below hb)
      | (go_at_call 8; refine (HR.out _).mono ?_; rintro _ w2 ⟨rfl, hb⟩; have BV := BV.below hb; have hB := bt hB hb; have hL := hL.below hb)
      | (go_at_call 9; refine (HA.out _ hL).mono ?_; rintro _ w2 ⟨rfl, hb⟩; have BV := BV.below hb; have hB := bt hB hb))
  all_goals
    go_wp2_with fail
    go_ret
    exact ⟨rfl, hB⟩
end Go.Proofs.YtgjbpadhdnclnaaGreatDoor.ScalarTextsW
