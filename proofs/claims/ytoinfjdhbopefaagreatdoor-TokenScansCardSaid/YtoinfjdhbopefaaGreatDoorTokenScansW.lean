/- The walk of the law TokenScans. -/
import Derived.Test.YtoinfjdhbopefaaGreatDoorTkL
set_option linter.unusedSimpArgs false
set_option linter.unusedVariables false
namespace Go.Proofs.YtoinfjdhbopefaaGreatDoor.TokenScansW
open Go.RowKit Nums IdnM TokM TokS TokT TokU TkrD TkrE TkrF OwnT TkZ TkX TkL

set_option maxHeartbeats 2000000 in
set_option maxRecDepth 100000 in
theorem walk (s : ByteArray) (z : s.size ≤ 140737488351232) (w : World) (hL : Ld w) :
    Calls Tryz.prog 3 #[.string s] w fun e w' => e = .returned (.bool true) ∧ Below w.heap.size w w' := by
  cases hsh : shortB s.size with
  | false =>
    have Hsh := Lib.hid hsh
    clear hsh
    go_enter Tryz.func3, Tryz.ntmps3
    go_wp2_with fail
    refine (short_any s _).mono ?_
    rintro _ wz ⟨rfl, rfl⟩
    rw [Hsh.out]
    go_wp2_with fail
    go_ret
    exact ⟨rfl, Below.refl _ _⟩
  | true =>
    have Hsh := Lib.hid hsh
    clear hsh
    go_enter Tryz.func3, Tryz.ntmps3
    go_wp2_with fail
    refine (short_any s _).mono ?_
    rintro _ wz ⟨rfl, rfl⟩
    rw [Hsh.out]
    go_wp2_with fail
    refine (pscan s z _ hL).mono ?_
    rintro _ w1 ⟨v1, l1, e1, rfl, hs1, hb1⟩
    have hL1 := hL.below hb1
    have Hs1 := Lib.hid hs1
    clear hs1
    go_wp2_with fail
    refine (TkrH.scan_any s _).mono ?_
    rintro _ w2 ⟨v2, l2, e2, rfl, hs2, hb2⟩
    obtain ⟨rfl, rfl, Q, hq1, hq2, hq⟩ := sr_two Hs1.out hs2
    have hL2 := hL1.below hb2
    have Hq1 := Lib.hid (hq1.below hb2)
    have Hq2 := Lib.hid hq2
    have ee : (e1 == e1) = true := by simp
    have el : (l1 == l1) = true := by simp
    clear hs2 hq1 hq2
    go_wp2_with fail
    refine (TkrF.same_any v1 v2 Q Q _ Hq1.out Hq2.out (by omega) (by omega)).mono ?_
    rintro _ w3 ⟨rfl, hb3⟩
    rw [same_refl]
    have hL3 := hL2.below hb3
    go_wp2_with fail
    refine (TkrF.lines_any v1 v2 Q Q _ (Hq1.out.below hb3) (Hq2.out.below hb3) (by omega) (by omega)).mono ?_
    rintro _ w4 ⟨rfl, hb4⟩
    rw [lines_refl]
    have hL4 := hL3.below hb4
    go_wp2_with fail
    refine (awake_any _ hL4).mono ?_
    rintro _ wa ⟨rfl, hba⟩
    go_wp2_with fail
    go_ret
    exact ⟨rfl, bt (bt (bt (bt hb1 hb2) hb3) hb4) hba⟩

end Go.Proofs.YtoinfjdhbopefaaGreatDoor.TokenScansW
