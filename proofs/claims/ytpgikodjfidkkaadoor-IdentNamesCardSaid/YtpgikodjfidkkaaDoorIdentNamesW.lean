/- The walk of the law IdentNames. -/
import Derived.Test.YtpgikodjfidkkaaDoorIdnX
import Derived.Test.YtpgikodjfidkkaaDoorIdrA
import Derived.Test.YtpgikodjfidkkaaDoorIdrB
set_option linter.unusedSimpArgs false
set_option linter.unusedVariables false
namespace Go.Proofs.YtpgikodjfidkkaaDoor.IdentNamesW
open Go.RowKit Nums IdnM IdnC Uld IdpA IdpB IdpC IdpR OwnS KnS IdnX
set_option maxHeartbeats 2000000 in
set_option maxRecDepth 100000 in
theorem walk (s : ByteArray) (z : s.size ≤ 140737488351232) (w : World) (hL : Ld w) :
    Calls Tryd.prog 3 #[.string s] w fun e w' => e = .returned (.bool true) ∧ Below w.heap.size w w' := by
  by_cases h : s.size ≤ 5000
  · have hd : decide ((5000 : Int) < s.size) = false := decide_eq_false (by omega)
    generalize hp1 : nmp s.data.toList = p1
    generalize hp2 : full s.data.toList = p2
    generalize hp3 : word s.toList = p3
    have H1 := Lib.hid hp1
    have H2 := Lib.hid hp2
    have H3 := Lib.hid hp3
    have e1 : (p1 == p1) = true := by simp
    have e2 : (p2 == p2) = true := by simp
    have e3 : (p3 == p3) = true := by simp
    clear hp1 hp2 hp3
    go_enter Tryd.func3, Tryd.ntmps3
    go_wp2_with fail
    refine (isPart_any s _).mono ?_
    rintro _ wz ⟨rfl, rfl⟩
    rw [H1.out]
    go_wp2_with fail
    refine (IdrA.isPart_def s _).mono ?_
    rintro _ wz ⟨rfl, rfl⟩
    rw [H1.out]
    go_wp2_with fail
    refine (isFull_any s _ hL).mono ?_
    rintro _ w1 ⟨rfl, hb1⟩
    rw [H2.out]
    have hL1 := hL.below hb1
    go_wp2_with fail
    refine (IdrA.isFull_def s _).mono ?_
    rintro _ wz ⟨rfl, rfl⟩
    rw [H2.out]
    go_wp2_with fail
    refine (isWord_any s _).mono ?_
    rintro _ wz ⟨rfl, rfl⟩
    rw [H3.out]
    go_wp2_with fail
    refine (IdrB.isWord_any s _).mono ?_
    rintro _ wz ⟨rfl, rfl⟩
    rw [H3.out]
    go_wp2_with fail
    refine (awake_any _ hL1).mono ?_
    rintro _ wa1 ⟨rfl, hba1⟩
    go_wp2_with fail
    go_ret
    exact ⟨rfl, bt hb1 hba1⟩
  · have hd : decide ((5000 : Int) < s.size) = true := decide_eq_true (by omega)
    go_enter Tryd.func3, Tryd.ntmps3
    go_wp2_with fail
    refine (awake_any _ hL).mono ?_
    rintro _ wa1 ⟨rfl, hba1⟩
    go_wp2_with fail
    go_ret
    exact ⟨rfl, hba1⟩
end Go.Proofs.YtpgikodjfidkkaaDoor.IdentNamesW
