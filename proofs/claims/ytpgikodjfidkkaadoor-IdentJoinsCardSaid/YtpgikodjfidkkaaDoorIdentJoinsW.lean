/- The walk of the law IdentJoins. -/
import Derived.Test.YtpgikodjfidkkaaDoorIdnX
import Derived.Test.YtpgikodjfidkkaaDoorIdrR
set_option linter.unusedSimpArgs false
set_option linter.unusedVariables false
namespace Go.Proofs.YtpgikodjfidkkaaDoor.IdentJoinsW
open Go.RowKit Nums IdnM IdnC Uld IdpA IdpB IdpC IdpR OwnS KnS IdnX
set_option maxHeartbeats 2000000 in
set_option maxRecDepth 100000 in
theorem walk (scope name : ByteArray) (z : scope.size ≤ 140737488351232) (z1 : name.size ≤ 140737488351232) (w : World) (hL : Ld w) :
    Calls Tryd.prog 4 #[.string scope, .string name] w fun e w' => e = .returned (.bool true) ∧ Below w.heap.size w w' := by
  by_cases h : scope.size ≤ 1000
  · have hd : decide ((1000 : Int) < scope.size) = false := decide_eq_false (by omega)
    by_cases h1 : name.size ≤ 1000
    · have hd1 : decide ((1000 : Int) < name.size) = false := decide_eq_false (by omega)
      go_enter Tryd.func4, Tryd.ntmps4
      go_wp2_with fail
      refine (split_def scope (by omega) _).mono ?_
      rintro _ w1 ⟨rfl, hb1⟩
      have hL1 := hL.below hb1
      go_wp2_with fail
      refine (IdrB.split_def scope (by omega) _).mono ?_
      rintro _ w2 ⟨rfl, hb2⟩
      have hL2 := hL1.below hb2
      go_wp2_with fail
      refine (join_any scope name (by omega) (by omega) _).mono ?_
      rintro _ wz ⟨rfl, rfl⟩
      go_wp2_with fail
      refine (IdrB.join_any scope name (by omega) (by omega) _).mono ?_
      rintro _ wz ⟨rfl, rfl⟩
      go_wp2_with fail
      refine (up_any scope (by omega) _).mono ?_
      rintro _ w3 ⟨v3, rfl, hown3, hb3⟩
      have hL3 := hL2.below hb3
      have Hk3 := Lib.hid (Kn.of_own hown3 (ups_ne scope))
      clear hown3
      go_wp2_with fail
      refine (IdrB.up_any scope (by omega) _).mono ?_
      rintro _ w4 ⟨v4, rfl, hown4, hb4⟩
      have hL4 := hL3.below hb4
      have Hk4 := Lib.hid (Kn.of_own hown4 (ups_ne scope))
      have Hk34 := Lib.hid (Hk3.out.below hb4)
      clear hown4
      go_wp2_with fail
      refine (IdrR.sameTexts_any v3 v4 (upsB scope) _ Hk34.out Hk4.out (by have := upsB_len scope; omega)).mono ?_
      rintro _ w5 ⟨rfl, hb5⟩
      have hL5 := hL4.below hb5
      go_wp2_with fail
      refine (awake_any _ hL5).mono ?_
      rintro _ wa1 ⟨rfl, hba1⟩
      go_wp2_with fail
      go_ret
      exact ⟨rfl, bt (bt (bt (bt (bt hb1 hb2) hb3) hb4) hb5) hba1⟩
    · have hd1 : decide ((1000 : Int) < name.size) = true := decide_eq_true (by omega)
      go_enter Tryd.func4, Tryd.ntmps4
      go_wp2_with fail
      refine (awake_any _ hL).mono ?_
      rintro _ wa1 ⟨rfl, hba1⟩
      go_wp2_with fail
      go_ret
      exact ⟨rfl, hba1⟩
  · have hd : decide ((1000 : Int) < scope.size) = true := decide_eq_true (by omega)
    go_enter Tryd.func4, Tryd.ntmps4
    go_wp2_with fail
    refine (awake_any _ hL).mono ?_
    rintro _ wa1 ⟨rfl, hba1⟩
    go_wp2_with fail
    go_ret
    exact ⟨rfl, hba1⟩
end Go.Proofs.YtpgikodjfidkkaaDoor.IdentJoinsW
