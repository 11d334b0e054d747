/- The walk of the law IdentCamels. -/
import Derived.Test.YtpgikodjfidkkaaDoorIdnX
set_option linter.unusedSimpArgs false
set_option linter.unusedVariables false
namespace Go.Proofs.YtpgikodjfidkkaaDoor.IdentCamelsW
open Go.RowKit Nums IdnM IdnC Uld IdpA IdpB IdpC IdpR OwnS KnS IdnX
set_option maxHeartbeats 2000000 in
set_option maxRecDepth 100000 in
theorem walk (s : ByteArray) (z : s.size ≤ 140737488351232) (w : World) (hL : Ld w) :
    Calls Tryd.prog 9 #[.string s] w fun e w' => e = .returned (.bool true) ∧ Below w.heap.size w w' := by
  by_cases h : s.size ≤ 5000
  · have hd : decide ((5000 : Int) < s.size) = false := decide_eq_false (by omega)
    cases hn : nmp s.data.toList with
    | false =>
      have Hn := Lib.hid hn
      clear hn
      go_enter Tryd.func9, Tryd.ntmps9
      go_wp2_with fail
      refine (isPart_any s _).mono ?_
      rintro _ wz ⟨rfl, rfl⟩
      rw [Hn.out]
      go_wp2_with fail
      refine (awake_any _ hL).mono ?_
      rintro _ wa1 ⟨rfl, hba1⟩
      go_wp2_with fail
      go_ret
      exact ⟨rfl, hba1⟩
    | true =>
      obtain ⟨hp1, ⟨c0, r0, hc0, hcp0⟩, hno⟩ := cam_part hn
      have hcm : camel s.data.toList = cam true s.data.toList := by rw [camel, if_pos hn]
      obtain ⟨c, hc⟩ : ∃ c : ByteArray, c = ⟨(camel s.data.toList).toArray⟩ := ⟨_, rfl⟩
      have hcd : c.data.toList = cam true s.data.toList := by rw [hc, ← hcm]
      have hcl : c.data.toList.length = c.size := rfl
      have hcs : c.size ≤ 40 := by rw [← hcl, hcd]; exact nmp_len hp1
      have hpos : 0 < c.size := by rw [← hcl, hcd, hc0]; simp
      have hcb : c[0] = c0 := by
        have h1 : c.data.toList[0]? = some c[0] := List.getElem?_eq_getElem (show 0 < c.data.toList.length from hpos)
        rw [hcd, hc0] at h1
        exact (Option.some.inj h1).symm
      simp only [cp, Bool.and_eq_true, decide_eq_true_eq] at hcp0
      rw [← hcb] at hcp0
      have e1 : decide ((c[0].toNat : Int) < 65) = false := decide_eq_false (by omega)
      have e2 : decide ((90 : Int) < c[0].toNat) = false := decide_eq_false (by omega)
      have hcn : nmp (cam true s.data.toList) = true := hp1
      have hall : ∀ (j : Nat) (h : j < c.size), ((c[j].toNat : Int) == 95) = false := by
        intro j hj
        rw [beq_eq_false_iff_ne]
        intro e
        have h1 : c.data.toList[j]? = some c[j] := List.getElem?_eq_getElem (show j < c.data.toList.length from hj)
        rw [hcd] at h1
        exact hno c[j] (List.mem_of_getElem? h1) (UInt8.toNat_inj.1 (show c[j].toNat = 95 by omega))
      have Hc := Lib.hid hc
      have Hcd := Lib.hid hcd
      have Hcn := Lib.hid hcn
      have Hall := Lib.hid hall
      have Hn0 := Lib.hid hn
      clear hc hcd hcn hall hn hp1 hc0 hcp0 hno hcm hcb hcl
      go_enter Tryd.func9, Tryd.ntmps9
      go_wp2_with fail
      refine (isPart_any s _).mono ?_
      rintro _ wz ⟨rfl, rfl⟩
      rw [Hn0.out]
      go_wp2_with fail
      refine (camel_any s _ hL).mono ?_
      rintro _ w1 ⟨rfl, hb1⟩
      rw [← Hc.out]
      have hL1 := hL.below hb1
      go_wp2_with fail
      refine (isPart_any c _).mono ?_
      rintro _ wz ⟨rfl, rfl⟩
      rw [Hcd.out, Hcn.out]
      go_wp2_with fail
      go_loop [4] (fun iv => ∃ k : Nat, k ≤ c.size ∧ iv = .int .i64 k) (fun iv => c.size - (intOf iv).toNat)
      case atStart => exact ⟨0, by omega, rfl⟩
      case round =>
        obtain ⟨k, hk, rfl⟩ := hrel
        by_cases hlt : k < c.size
        · have hne := Hall.out k hlt
          go_wp2_with fail
          exact ⟨⟨k + 1, by omega, by go_num⟩, by simp [intOf]; omega⟩
        · obtain rfl : k = c.size := by omega
          go_wp2_with fail
          go_loop [5] (fun iv => ∃ k : Nat, k ≤ s.size ∧ iv = .int .i64 k ∧ Hid (∀ (j : Nat) b, s.data.toList[j]? = some b → j < k → cp b = false ∧ (b = 95 → ∃ c, s.data.toList[j + 1]? = some c ∧ sm c = true))) (fun iv => s.size - (intOf iv).toNat)
          case atStart => exact ⟨0, by omega, rfl, Lib.hid (fun j b _ hj => by omega)⟩
          case round =>
            obtain ⟨k, hk, rfl, Hk⟩ := hrel
            by_cases hlt : k < s.size
            · have hgk : s.data.toList[k]? = some s[k] := List.getElem?_eq_getElem (show k < s.data.toList.length from hlt)
              cases hcp : cp s[k] with
              | true =>
                simp only [cp, Bool.and_eq_true, decide_eq_true_eq] at hcp
                have d1 : decide ((65 : Int) ≤ s[k].toNat) = true := decide_eq_true (by omega)
                have d2 : decide ((s[k].toNat : Int) ≤ 90) = true := decide_eq_true (by omega)
                clear hcp hgk
                go_wp2_with fail
                refine (awake_any _ hL1).mono ?_
                rintro _ wa ⟨rfl, hba⟩
                go_wp2_with fail
                go_ret
                exact ⟨rfl, bt hb1 hba⟩
              | false =>
                have hnx : (s[k] = 95 → ∃ c, s.data.toList[k + 1]? = some c ∧ sm c = true) → ∀ (j : Nat) b, s.data.toList[j]? = some b → j < k + 1 → cp b = false ∧ (b = 95 → ∃ c, s.data.toList[j + 1]? = some c ∧ sm c = true) := by
                  intro h95 j b hb hj
                  rcases Nat.lt_or_ge j k with h5 | h5
                  · exact Hk.out j b hb h5
                  · obtain rfl : j = k := by omega
                    rw [hgk] at hb
                    cases hb
                    exact ⟨hcp, h95⟩
                have hcp2 : ¬ (65 ≤ s[k].toNat ∧ s[k].toNat ≤ 90) := by
                  intro hh
                  simp only [cp] at hcp
                  simp at hcp
                  omega
                by_cases hb : s[k] = 95
                · have d1 : decide ((65 : Int) ≤ s[k].toNat) = true := by rw [hb]; rfl
                  have d2 : decide ((s[k].toNat : Int) ≤ 90) = false := by rw [hb]; rfl
                  have d3 : ((s[k].toNat : Int) == 95) = true := by rw [hb]; rfl
                  by_cases hlast : k + 1 = s.size
                  · have d4 : ((k : Int) + 1 == s.size) = true := by rw [beq_iff_eq]; omega
                    clear hnx hcp hcp2 hgk hb hlast
                    go_wp2_with fail
                    refine (awake_any _ hL1).mono ?_
                    rintro _ wa ⟨rfl, hba⟩
                    go_wp2_with fail
                    go_ret
                    exact ⟨rfl, bt hb1 hba⟩
                  · have d4 : ((k : Int) + 1 == s.size) = false := by rw [beq_eq_false_iff_ne]; omega
                    have hlt1 : k + 1 < s.size := by omega
                    have hlt2 : (k : Int) + 1 < s.size := by omega
                    have hgk1 : s.data.toList[k + 1]? = some s[k + 1] := List.getElem?_eq_getElem (show k + 1 < s.data.toList.length from hlt1)
                    by_cases h97 : s[k + 1].toNat < 97
                    · have d5 : decide ((s[k + 1].toNat : Int) < 97) = true := decide_eq_true (by omega)
                      clear hnx hcp hcp2 hgk hgk1 hb hlast h97
                      go_wp2_with fail
                      refine (awake_any _ hL1).mono ?_
                      rintro _ wa ⟨rfl, hba⟩
                      go_wp2_with fail
                      go_ret
                      exact ⟨rfl, bt hb1 hba⟩
                    · have d5 : decide ((s[k + 1].toNat : Int) < 97) = false := decide_eq_false (by omega)
                      by_cases h122 : 122 < s[k + 1].toNat
                      · have d6 : decide ((122 : Int) < s[k + 1].toNat) = true := decide_eq_true (by omega)
                        clear hnx hcp hcp2 hgk hgk1 hb hlast h97 h122
                        go_wp2_with fail
                        refine (awake_any _ hL1).mono ?_
                        rintro _ wa ⟨rfl, hba⟩
                        go_wp2_with fail
                        go_ret
                        exact ⟨rfl, bt hb1 hba⟩
                      · have d6 : decide ((122 : Int) < s[k + 1].toNat) = false := decide_eq_false (by omega)
                        have Hn := Lib.hid (hnx (fun _ => ⟨_, hgk1, by simp [sm]; omega⟩))
                        clear hnx hcp hcp2 hgk hgk1 hb hlast h97 h122
                        go_wp2_with fail
                        exact ⟨⟨k + 1, by omega, by go_num, Hn⟩, by simp [intOf]; omega⟩
                · have Hn := Lib.hid (hnx (fun e => absurd e hb))
                  have d3 : ((s[k].toNat : Int) == 95) = false := by
                    rw [beq_eq_false_iff_ne]
                    intro e
                    exact hb (UInt8.toNat_inj.1 (show s[k].toNat = 95 by omega))
                  by_cases h65 : 65 ≤ s[k].toNat
                  · have d1 : decide ((65 : Int) ≤ s[k].toNat) = true := decide_eq_true (by omega)
                    have d2 : decide ((s[k].toNat : Int) ≤ 90) = false := decide_eq_false (by omega)
                    clear hnx hcp hcp2 hgk hb h65
                    go_wp2_with fail
                    exact ⟨⟨k + 1, by omega, by go_num, Hn⟩, by simp [intOf]; omega⟩
                  · have d1 : decide ((65 : Int) ≤ s[k].toNat) = false := decide_eq_false (by omega)
                    clear hnx hcp hcp2 hgk hb h65
                    go_wp2_with fail
                    exact ⟨⟨k + 1, by omega, by go_num, Hn⟩, by simp [intOf]; omega⟩
            · obtain rfl : k = s.size := by omega
              have hgood : IdnC.Good s.data.toList := fun i b hb => Hk.out i b hb (List.getElem?_eq_some_iff.1 hb).1
              have hsn : (⟨(snake c.data.toList).toArray⟩ : ByteArray) = s := by
                apply data_inj
                show snake c.data.toList = _
                rw [snake, Hcd.out, Hcn.out, if_pos rfl]
                exact snake_camel Hn0.out hgood
              have Hsn := Lib.hid hsn
              clear hgood hsn
              go_wp2_with fail
              refine (snake_any c _).mono ?_
              rintro _ w2 ⟨rfl, hb2⟩
              rw [Hsn.out]
              have hL2 := hL1.below hb2
              go_wp2_with fail
              refine (awake_any _ hL2).mono ?_
              rintro _ wa ⟨rfl, hba⟩
              go_wp2_with fail
              go_ret
              exact ⟨rfl, bt (bt hb1 hb2) hba⟩
  · have hd : decide ((5000 : Int) < s.size) = true := decide_eq_true (by omega)
    go_enter Tryd.func9, Tryd.ntmps9
    go_wp2_with fail
    refine (awake_any _ hL).mono ?_
    rintro _ wa1 ⟨rfl, hba1⟩
    go_wp2_with fail
    go_ret
    exact ⟨rfl, hba1⟩
end Go.Proofs.YtpgikodjfidkkaaDoor.IdentCamelsW
