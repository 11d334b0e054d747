/- The walk of the law UtfValids. -/
import Derived.Test.YtnplgifeheibhaaUtfX
import Derived.Test.YtnplgifeheibhaaUtfB
set_option linter.unusedSimpArgs false
set_option linter.unusedVariables false
namespace Go.Proofs.Ytnplgifeheibhaa.UtfValidsW
open Go.RowKit Nums Byt UtfM UtfS UtfQ UtfX
set_option maxHeartbeats 2000000 in
set_option maxRecDepth 100000 in
theorem walk (s : ByteArray) (z : s.size ≤ 140737488351232) (w : World) :
    Calls Try.prog 3 #[.string s] w fun e w' => e = .returned (.bool true) ∧ Below w.heap.size w w' := by
  by_cases h : s.size ≤ 5000
  · have hsm : decide ((5000 : Int) < s.size) = false := by simp; omega
    go_enter Try.func3, Try.ntmps3
    go_wp2_with fail
    generalize hbad : bad s.data.toList = b
    have Hbad := Lib.hid hbad
    clear hbad
    refine (UtfA.valid_any s (by omega) _).mono ?_
    rintro _ w1 ⟨rfl, hb1⟩
    rw [Hbad.out]
    go_wp2_with fail
    refine (UtfB.rValid_any s (by omega) _).mono ?_
    rintro _ w2 ⟨rfl, rfl⟩
    rw [Hbad.out]
    go_wp2_with fail
    refine (UtfA.bad_any s (by omega) _).mono ?_
    rintro _ w3 ⟨rfl, hb3⟩
    rw [Hbad.out]
    go_wp2_with fail
    refine (UtfB.rBad_any s (by omega) _).mono ?_
    rintro _ w4 ⟨rfl, rfl⟩
    rw [Hbad.out]
    go_wp2_with fail
    refine (UtfA.count_any s (by omega) _).mono ?_
    rintro _ w5 ⟨rfl, hb5⟩
    go_wp2_with fail
    refine (UtfB.rCount_any s (by omega) _).mono ?_
    rintro _ w6 ⟨rfl, rfl⟩
    go_wp2_with fail
    refine (awake_any _).mono ?_
    rintro _ w7 ⟨rfl, hb7⟩
    go_wp2_with fail
    go_ret
    exact ⟨rfl, bt (bt (bt hb1 hb3) hb5) hb7⟩
  · have hbig : (5000 : Int) < s.size := by omega
    go_enter Try.func3, Try.ntmps3
    go_wp2_with fail
    refine (awake_any _).mono ?_
    rintro _ w1 ⟨rfl, hb1⟩
    go_wp2_with fail
    go_ret
    exact ⟨rfl, hb1⟩
end Go.Proofs.Ytnplgifeheibhaa.UtfValidsW
