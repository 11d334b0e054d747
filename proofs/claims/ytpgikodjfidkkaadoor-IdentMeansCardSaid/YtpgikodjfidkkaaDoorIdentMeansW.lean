/- The walk of the law IdentMeans. -/
import Derived.Test.YtpgikodjfidkkaaDoorIdnX
import Derived.Test.YtpgikodjfidkkaaDoorIdrR
set_option linter.unusedSimpArgs false
set_option linter.unusedVariables false
namespace Go.Proofs.YtpgikodjfidkkaaDoor.IdentMeansW
open Go.RowKit Nums IdnM IdnC Uld IdpA IdpB IdpC IdpR OwnS KnS IdnX
set_option maxHeartbeats 2000000 in
set_option maxRecDepth 100000 in
theorem walk (scope name : ByteArray) (v : Value) (ks : List ByteArray) (z : scope.size ≤ 140737488351232) (z1 : name.size ≤ 140737488351232) (w : World) (hk : Kn w v ks) (hks : ∀ x ∈ ks, x.size ≤ 9223372036854775807) (hL : Ld w) :
    Calls Tryd.prog 5 #[.string scope, .string name, v] w fun e w' => e = .returned (.bool true) ∧ Below w.heap.size w w' := by
  obtain ⟨a, cap, rfl, hcap, hcells⟩ := hk
  have Hkn := Lib.hid (show Kn w (.slice a ks.length cap) ks from ⟨a, cap, rfl, hcap, hcells⟩)
  have Hks := Lib.hid hks
  clear hcells hks
  by_cases h : scope.size ≤ 300
  · have hd : decide ((300 : Int) < scope.size) = false := decide_eq_false (by omega)
    by_cases h1 : name.size ≤ 300
    · have hd1 : decide ((300 : Int) < name.size) = false := decide_eq_false (by omega)
      by_cases h2 : ks.length ≤ 60
      · have hd2 : decide ((60 : Int) < ks.length) = false := decide_eq_false (by omega)
        generalize hM : means scope name ks = M
        have HM := Lib.hid hM
        clear hM
        go_enter Tryd.func5, Tryd.ntmps5
        go_wp2_with fail
        refine (resolve_any scope name _ ks _ Hkn.out Hks.out (by omega)).mono ?_
        rintro _ wz ⟨rfl, rfl⟩
        rw [HM.out]
        go_wp2_with fail
        refine (IdrR.resolve_def scope name _ ks _ Hkn.out (by omega) (by omega) (by omega)).mono ?_
        rintro _ w1 ⟨rfl, hb1⟩
        rw [HM.out]
        have hL1 := hL.below hb1
        go_wp2_with fail
        refine (awake_any _ hL1).mono ?_
        rintro _ wa1 ⟨rfl, hba1⟩
        go_wp2_with fail
        go_ret
        exact ⟨rfl, bt hb1 hba1⟩
      · have hd2 : decide ((60 : Int) < ks.length) = true := decide_eq_true (by omega)
        go_enter Tryd.func5, Tryd.ntmps5
        go_wp2_with fail
        refine (awake_any _ hL).mono ?_
        rintro _ wa1 ⟨rfl, hba1⟩
        go_wp2_with fail
        go_ret
        exact ⟨rfl, hba1⟩
    · have hd1 : decide ((300 : Int) < name.size) = true := decide_eq_true (by omega)
      go_enter Tryd.func5, Tryd.ntmps5
      go_wp2_with fail
      refine (awake_any _ hL).mono ?_
      rintro _ wa1 ⟨rfl, hba1⟩
      go_wp2_with fail
      go_ret
      exact ⟨rfl, hba1⟩
  · have hd : decide ((300 : Int) < scope.size) = true := decide_eq_true (by omega)
    go_enter Tryd.func5, Tryd.ntmps5
    go_wp2_with fail
    refine (awake_any _ hL).mono ?_
    rintro _ wa1 ⟨rfl, hba1⟩
    go_wp2_with fail
    go_ret
    exact ⟨rfl, hba1⟩

end Go.Proofs.YtpgikodjfidkkaaDoor.IdentMeansW
