/- The walk of ScalarParses, up to the bound. -/
import Derived.Test.YtgjbpadhdnclnaaGreatDoorPrsQ
import Derived.Test.YtgjbpadhdnclnaaGreatDoorScpE
import Derived.Test.YtgjbpadhdnclnaaGreatDoorScaS
set_option linter.unusedSimpArgs false
set_option linter.unusedVariables false
namespace Go.Proofs.YtgjbpadhdnclnaaGreatDoor.ScalarParsesW
open Go.RowKit Nums Byt UtfM UtfS UtfQ ScaM ScaV ScaA ScaB ScaC ScaS ScaX ScaY ScpM ScpA ScpE Ld Box PrsQ

theorem same_selfP (x : Sc) : sameB x x = true := (sameB_iff x x).2 rfl
set_option maxHeartbeats 4000000 in
set_option maxRecDepth 100000 in
theorem walk (k : Int) (s : ByteArray) (wk : -9223372036854775808 ≤ k ∧ k ≤ 9223372036854775807) (hs : s.size ≤ 1048576) (w : World) (hL : Ld w) :
    Calls Tryz.prog 4 #[.int .i64 k, .string s] w fun e w' => e = .returned (.bool true) ∧ Below w.heap.size w w' := by
  have h1 := fun w hL => parse_p k s (by omega) w hL
  have h2 := fun w => ScaX.parse_any k s (by omega) w
  generalize parseS doubleS k s.data.toList = X at *
  obtain ⟨x, E⟩ := X
  simp only at h1 h2
  have h3 := fun w => same_any x x w
  rw [same_selfP] at h3
  obtain ⟨kk, b, t, a1, l1, c1, a2, l2, c2, a3, l3, c3, a4, l4, c4⟩ := x
  simp only [vv] at h1 h2 h3
  have H1 := Lib.hid h1
  have H2 := Lib.hid h2
  have H3 := Lib.hid h3
  have HA := Lib.hid fun w hL => awake_any w hL
  clear h1 h2 h3 wk
  go_enter Tryz.func4, Tryz.ntmps4
  go_wp2_with fail
  refine (H1.out _ hL).mono ?_
  rintro _ w1 ⟨rfl, hb1⟩
  have hL1 := hL.below hb1
  have B1 := b7_new w1 (.int .i64 kk) (.int .u64 b) (.string t) (.slice a1 l1 c1) (.slice a2 l2 c2) (.slice a3 l3 c3) (.slice a4 l4 c4) 28
  have hbb1 := bt hb1 (below_box w1 (.cells #[.int .i64 kk, .int .u64 b, .string t, .slice a1 l1 c1, .slice a2 l2 c2, .slice a3 l3 c3, .slice a4 l4 c4] 28))
  go_wp2_with fail
  refine (H2.out _).mono ?_
  rintro _ w2 ⟨rfl, hb2⟩
  have hbb2 := bt hbb1 hb2
  have hL2 := hL.below hbb2
  obtain ⟨lt1, p0, p1, p2, p3, p4, p5, p6, pf⟩ := B1.below hb2
  have hbb3 := bt hbb2 (below_box w2 (.cells #[.int .i64 kk, .int .u64 b, .string t, .slice a1 l1 c1, .slice a2 l2 c2, .slice a3 l3 c3, .slice a4 l4 c4] 28))
  clear B1 hbb1 hb2 hb1
  go_wp2_with fail
  refine (H3.out _).mono ?_
  rintro _ w3 ⟨rfl, hb3⟩
  have hbb4 := bt hbb3 hb3
  have hL3 := hL.below hbb4
  go_wp2_with fail
  refine (HA.out _ hL3).mono ?_
  rintro _ w4 ⟨rfl, hb4⟩
  go_wp2_with fail
  go_ret
  exact ⟨rfl, bt hbb4 hb4⟩
end Go.Proofs.YtgjbpadhdnclnaaGreatDoor.ScalarParsesW
