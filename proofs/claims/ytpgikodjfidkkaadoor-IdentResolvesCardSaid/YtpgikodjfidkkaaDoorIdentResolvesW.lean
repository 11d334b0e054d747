/- The walk of the law IdentResolves. -/
import Derived.Test.YtpgikodjfidkkaaDoorIdnX
import Derived.Test.YtpgikodjfidkkaaDoorIdrR
set_option linter.unusedSimpArgs false
set_option linter.unusedVariables false
namespace Go.Proofs.YtpgikodjfidkkaaDoor.IdentResolvesW
open Go.RowKit Nums IdnM IdnC Uld IdpA IdpB IdpC IdpR OwnS KnS IdnX
set_option maxHeartbeats 2000000 in
set_option maxRecDepth 100000 in
theorem walk (scope name : ByteArray) (v : Value) (ks : List ByteArray) (z : scope.size ≤ 140737488351232) (z1 : name.size ≤ 140737488351232) (w : World) (hk : Kn w v ks) (hks : ∀ x ∈ ks, x.size ≤ 9223372036854775807) (hL : Ld w) :
    Calls Tryd.prog 7 #[.string scope, .string name, v] w fun e w' => e = .returned (.bool true) ∧ Below w.heap.size w w' := by
  obtain ⟨a, cap, rfl, hcap, hcells⟩ := hk
  have Hkn := Lib.hid (show Kn w (.slice a ks.length cap) ks from ⟨a, cap, rfl, hcap, hcells⟩)
  have Hks := Lib.hid hks
  clear hcells hks
  by_cases h : scope.size ≤ 300
  · have hd : decide ((300 : Int) < scope.size) = false := decide_eq_false (by omega)
    by_cases h1 : name.size ≤ 300
    · have hd1 : decide ((300 : Int) < name.size) = false := decide_eq_false (by omega)
      by_cases h2 : ks.length ≤ 60
      · have hd2 : decide ((60 : Int) < ks.length) = false := decide_eq_false (by omega)
        cases hdt : dotted name with
        | true =>
          have hpos : 0 < name.size := by
            rcases Nat.eq_zero_or_pos name.size with h | h
            · rw [IdrR.dotted_zero h] at hdt; cases hdt
            · exact h
          have hb0 : ((name[0].toNat : Int) == 46) = true := by rw [← IdrR.dotted_at hpos]; exact hdt
          have hp0 : decide ((0 : Int) < name.size) = true := decide_eq_true (by omega)
          have h1n : (1 : Int) ≤ name.size := by omega
          cases hh : has ks (name.extract 1 name.size) with
          | true =>
            have hM : means scope name ks = some (name.extract 1 name.size) := by rw [means, if_pos hdt, if_pos hh]
            have HM := Lib.hid hM
            have Hh := Lib.hid hh
            clear hM hh hdt
            go_enter Tryd.func7, Tryd.ntmps7
            go_wp2_with fail
            refine (resolve_any scope name _ ks _ Hkn.out Hks.out (by omega)).mono ?_
            rintro _ wz ⟨rfl, rfl⟩
            rw [HM.out]
            go_wp2_with fail
            refine (IdrR.has_any _ ks _ _ Hkn.out (by omega)).mono ?_
            rintro _ wz ⟨rfl, rfl⟩
            rw [Hh.out]
            go_wp2_with fail
            refine (awake_any _ hL).mono ?_
            rintro _ wa1 ⟨rfl, hba1⟩
            go_wp2_with fail
            go_ret
            exact ⟨rfl, hba1⟩
          | false =>
            have hM : means scope name ks = none := by rw [means, if_pos hdt, if_neg (by rw [hh]; simp)]
            have HM := Lib.hid hM
            have Hh := Lib.hid hh
            clear hM hh hdt
            go_enter Tryd.func7, Tryd.ntmps7
            go_wp2_with fail
            refine (resolve_any scope name _ ks _ Hkn.out Hks.out (by omega)).mono ?_
            rintro _ wz ⟨rfl, rfl⟩
            rw [HM.out]
            go_wp2_with fail
            refine (IdrR.has_any _ ks _ _ Hkn.out (by omega)).mono ?_
            rintro _ wz ⟨rfl, rfl⟩
            rw [Hh.out]
            go_wp2_with fail
            refine (awake_any _ hL).mono ?_
            rintro _ wa1 ⟨rfl, hba1⟩
            go_wp2_with fail
            go_ret
            exact ⟨rfl, hba1⟩
        | false =>
          have hM2 : means scope name ks = IdnM.look scope name ks := by rw [means, if_neg (by rw [hdt]; simp)]
          have Hsz := Lib.hid (upsB_mem_size scope)
          have hne := ups_ne scope
          have hul := upsB_len scope
          have Hhit := Lib.hid (fun k u => IdrR.look_hit (scope := scope) (name := name) (u := u) (ks := ks) (k := k))
          have Hmiss := Lib.hid (IdrR.look_miss (scope := scope) (name := name) (ks := ks))
          obtain ⟨U, hU⟩ : ∃ U, U = upsB scope := ⟨_, rfl⟩
          rw [← hU] at hul hne
          have Hne := Lib.hid hne
          have HU := Lib.hid hU
          obtain ⟨M, hM⟩ : ∃ M, M = means scope name ks := ⟨_, rfl⟩
          have HM := Lib.hid (hM.trans hM2)
          have HMe := Lib.hid hM
          clear hne hU hM2 hM
          rcases Nat.eq_zero_or_pos name.size with hz | hpos
          · have hp0 : decide ((0 : Int) < name.size) = false := decide_eq_false (by omega)
            clear hdt
            go_enter Tryd.func7, Tryd.ntmps7
            go_wp2_with fail
            refine (resolve_any scope name _ ks _ Hkn.out Hks.out (by omega)).mono ?_
            rintro _ wz ⟨rfl, rfl⟩
            rw [← HMe.out]
            go_wp2_with fail
            refine (up_any scope (by omega) _).mono ?_
            rintro _ w1 ⟨v1, rfl, hown, hb⟩
            rw [← HU.out] at hown
            obtain ⟨g, cap1, rfl, _, hglt, hcap1, hcell⟩ := hown.at Hne.out
            have Hcell := Lib.hid hcell
            have hkn1 := Lib.hid (Hkn.out.below hb)
            have hL1 := hL.below hb
            clear hown hcell
            go_wp2_with fail
            go_loop [10] (fun iv => ∃ k : Nat, k ≤ U.length ∧ iv = .int .i64 k ∧ Hid (∀ (j : Nat) u, U[j]? = some u → j < k → has ks (joinB u name) = false)) (fun iv => U.length - (intOf iv).toNat)
            case atStart => exact ⟨0, by omega, rfl, Lib.hid (fun j u _ hj => by omega)⟩
            case round =>
              obtain ⟨k, hkl, rfl, Hk⟩ := hrel
              by_cases hlt : k < U.length
              · obtain ⟨u, hu⟩ : ∃ u, U[k]? = some u := ⟨_, List.getElem?_eq_getElem hlt⟩
                have hc := Hcell.out k u hu
                have hus : u.size ≤ 4294967296 := by
                  have := Hsz.out u (by rw [← HU.out]; exact List.mem_of_getElem? hu)
                  omega
                cases hh : has ks (joinB u name) with
                | true =>
                  have hM3 : M = some (joinB u name) := by
                    rw [HM.out]
                    exact Hhit.out k u (by rw [← HU.out]; exact hu) hh (fun j x hx hj => Hk.out j x (by rw [HU.out]; exact hx) hj)
                  have Hh := Lib.hid hh
                  clear HM hh hu
                  subst hM3
                  go_wp2_with fail
                  refine (join_any u name hus (by omega) _).mono ?_
                  rintro _ wz ⟨rfl, rfl⟩
                  go_wp2_with fail
                  refine (IdrR.has_any _ ks _ _ hkn1.out (by omega)).mono ?_
                  rintro _ wz ⟨rfl, rfl⟩
                  rw [Hh.out]
                  go_wp2_with fail
                  refine (join_any u name hus (by omega) _).mono ?_
                  rintro _ wz ⟨rfl, rfl⟩
                  go_wp2_with fail
                  refine (awake_any _ hL1).mono ?_
                  rintro _ wa1 ⟨rfl, hba1⟩
                  go_wp2_with fail
                  go_ret
                  exact ⟨rfl, bt hb hba1⟩
                | false =>
                  have Hn : Hid (∀ (j : Nat) y, U[j]? = some y → j < k + 1 → has ks (joinB y name) = false) := Lib.hid (fun j y hy hj => by
                    rcases Nat.lt_or_ge j k with h5 | h5
                    · exact Hk.out j y hy h5
                    · obtain rfl : j = k := by omega
                      rw [hu] at hy
                      cases hy
                      exact hh)
                  have Hh := Lib.hid hh
                  clear hh hu
                  go_wp2_with fail
                  refine (join_any u name hus (by omega) _).mono ?_
                  rintro _ wz ⟨rfl, rfl⟩
                  go_wp2_with fail
                  refine (IdrR.has_any _ ks _ _ hkn1.out (by omega)).mono ?_
                  rintro _ wz ⟨rfl, rfl⟩
                  rw [Hh.out]
                  go_wp2_with fail
                  exact ⟨⟨k + 1, by omega, by go_num, Hn⟩, by simp [intOf]; omega⟩
              · obtain rfl : k = U.length := by omega
                have hM3 : M = none := by
                  rw [HM.out]
                  refine Hmiss.out (fun j x hx => ?_)
                  rw [← HU.out] at hx
                  exact Hk.out j x hx (List.getElem?_eq_some_iff.1 hx).1
                clear HM
                subst hM3
                go_wp2_with fail
                refine (awake_any _ hL1).mono ?_
                rintro _ wa1 ⟨rfl, hba1⟩
                go_wp2_with fail
                go_ret
                exact ⟨rfl, bt hb hba1⟩
          · have hp0 : decide ((0 : Int) < name.size) = true := decide_eq_true (by omega)
            have hb0 : ((name[0].toNat : Int) == 46) = false := by rw [← IdrR.dotted_at hpos]; exact hdt
            clear hdt
            go_enter Tryd.func7, Tryd.ntmps7
            go_wp2_with fail
            refine (resolve_any scope name _ ks _ Hkn.out Hks.out (by omega)).mono ?_
            rintro _ wz ⟨rfl, rfl⟩
            rw [← HMe.out]
            go_wp2_with fail
            refine (up_any scope (by omega) _).mono ?_
            rintro _ w1 ⟨v1, rfl, hown, hb⟩
            rw [← HU.out] at hown
            obtain ⟨g, cap1, rfl, _, hglt, hcap1, hcell⟩ := hown.at Hne.out
            have Hcell := Lib.hid hcell
            have hkn1 := Lib.hid (Hkn.out.below hb)
            have hL1 := hL.below hb
            clear hown hcell
            go_wp2_with fail
            go_loop [10] (fun iv => ∃ k : Nat, k ≤ U.length ∧ iv = .int .i64 k ∧ Hid (∀ (j : Nat) u, U[j]? = some u → j < k → has ks (joinB u name) = false)) (fun iv => U.length - (intOf iv).toNat)
            case atStart => exact ⟨0, by omega, rfl, Lib.hid (fun j u _ hj => by omega)⟩
            case round =>
              obtain ⟨k, hkl, rfl, Hk⟩ := hrel
              by_cases hlt : k < U.length
              · obtain ⟨u, hu⟩ : ∃ u, U[k]? = some u := ⟨_, List.getElem?_eq_getElem hlt⟩
                have hc := Hcell.out k u hu
                have hus : u.size ≤ 4294967296 := by
                  have := Hsz.out u (by rw [← HU.out]; exact List.mem_of_getElem? hu)
                  omega
                cases hh : has ks (joinB u name) with
                | true =>
                  have hM3 : M = some (joinB u name) := by
                    rw [HM.out]
                    exact Hhit.out k u (by rw [← HU.out]; exact hu) hh (fun j x hx hj => Hk.out j x (by rw [HU.out]; exact hx) hj)
                  have Hh := Lib.hid hh
                  clear HM hh hu
                  subst hM3
                  go_wp2_with fail
                  refine (join_any u name hus (by omega) _).mono ?_
                  rintro _ wz ⟨rfl, rfl⟩
                  go_wp2_with fail
                  refine (IdrR.has_any _ ks _ _ hkn1.out (by omega)).mono ?_
                  rintro _ wz ⟨rfl, rfl⟩
                  rw [Hh.out]
                  go_wp2_with fail
                  refine (join_any u name hus (by omega) _).mono ?_
                  rintro _ wz ⟨rfl, rfl⟩
                  go_wp2_with fail
                  refine (awake_any _ hL1).mono ?_
                  rintro _ wa1 ⟨rfl, hba1⟩
                  go_wp2_with fail
                  go_ret
                  exact ⟨rfl, bt hb hba1⟩
                | false =>
                  have Hn : Hid (∀ (j : Nat) y, U[j]? = some y → j < k + 1 → has ks (joinB y name) = false) := Lib.hid (fun j y hy hj => by
                    rcases Nat.lt_or_ge j k with h5 | h5
                    · exact Hk.out j y hy h5
                    · obtain rfl : j = k := by omega
                      rw [hu] at hy
                      cases hy
                      exact hh)
                  have Hh := Lib.hid hh
                  clear hh hu
                  go_wp2_with fail
                  refine (join_any u name hus (by omega) _).mono ?_
                  rintro _ wz ⟨rfl, rfl⟩
                  go_wp2_with fail
                  refine (IdrR.has_any _ ks _ _ hkn1.out (by omega)).mono ?_
                  rintro _ wz ⟨rfl, rfl⟩
                  rw [Hh.out]
                  go_wp2_with fail
                  exact ⟨⟨k + 1, by omega, by go_num, Hn⟩, by simp [intOf]; omega⟩
              · obtain rfl : k = U.length := by omega
                have hM3 : M = none := by
                  rw [HM.out]
                  refine Hmiss.out (fun j x hx => ?_)
                  rw [← HU.out] at hx
                  exact Hk.out j x hx (List.getElem?_eq_some_iff.1 hx).1
                clear HM
                subst hM3
                go_wp2_with fail
                refine (awake_any _ hL1).mono ?_
                rintro _ wa1 ⟨rfl, hba1⟩
                go_wp2_with fail
                go_ret
                exact ⟨rfl, bt hb hba1⟩
      · have hd2 : decide ((60 : Int) < ks.length) = true := decide_eq_true (by omega)
        go_enter Tryd.func7, Tryd.ntmps7
        go_wp2_with fail
        refine (awake_any _ hL).mono ?_
        rintro _ wa1 ⟨rfl, hba1⟩
        go_wp2_with fail
        go_ret
        exact ⟨rfl, hba1⟩
    · have hd1 : decide ((300 : Int) < name.size) = true := decide_eq_true (by omega)
      go_enter Tryd.func7, Tryd.ntmps7
      go_wp2_with fail
      refine (awake_any _ hL).mono ?_
      rintro _ wa1 ⟨rfl, hba1⟩
      go_wp2_with fail
      go_ret
      exact ⟨rfl, hba1⟩
  · have hd : decide ((300 : Int) < scope.size) = true := decide_eq_true (by omega)
    go_enter Tryd.func7, Tryd.ntmps7
    go_wp2_with fail
    refine (awake_any _ hL).mono ?_
    rintro _ wa1 ⟨rfl, hba1⟩
    go_wp2_with fail
    go_ret
    exact ⟨rfl, hba1⟩

end Go.Proofs.YtpgikodjfidkkaaDoor.IdentResolvesW
