/- The walk of the law IdentSplits. -/
import Derived.Test.YtpgikodjfidkkaaDoorIdnX
set_option linter.unusedSimpArgs false
set_option linter.unusedVariables false
namespace Go.Proofs.YtpgikodjfidkkaaDoor.IdentSplitsW
open Go.RowKit Nums IdnM IdnC Uld IdpA IdpB IdpC IdpR OwnS KnS IdnX
set_option maxHeartbeats 2000000 in
set_option maxRecDepth 100000 in
theorem walk (s : ByteArray) (z : s.size ≤ 140737488351232) (w : World) (hL : Ld w) :
    Calls Tryd.prog 8 #[.string s] w fun e w' => e = .returned (.bool true) ∧ Below w.heap.size w w' := by
  by_cases h : s.size ≤ 5000
  · have hd : decide ((5000 : Int) < s.size) = false := decide_eq_false (by omega)
    cases hf : full s.data.toList with
    | false =>
      have Hf := Lib.hid hf
      clear hf
      go_enter Tryd.func8, Tryd.ntmps8
      go_wp2_with fail
      refine (isFull_any s _ hL).mono ?_
      rintro _ w1 ⟨rfl, hb1⟩
      rw [Hf.out]
      have hL1 := hL.below hb1
      go_wp2_with fail
      refine (awake_any _ hL1).mono ?_
      rintro _ wa1 ⟨rfl, hba1⟩
      go_wp2_with fail
      go_ret
      exact ⟨rfl, bt hb1 hba1⟩
    | true =>
      have hs120 : s.size ≤ 120 := full_len hf
      have hs0 : s.size ≠ 0 := fun e => full_ne hf (List.length_eq_zero_iff.1 (show s.data.toList.length = 0 from e))
      have hu0 : (upsB s)[0]? = some s := by rw [upsB_cons hs0]; rfl
      have HU0 := Lib.hid hu0
      have Hf := Lib.hid hf
      clear hf hu0
      go_enter Tryd.func8, Tryd.ntmps8
      go_wp2_with fail
      refine (isFull_any s _ hL).mono ?_
      rintro _ w0 ⟨rfl, hb0⟩
      rw [Hf.out]
      have hL0 := hL.below hb0
      go_wp2_with fail
      go_loopw [3, 4, 5] (fun nv rv kv wr => ∃ (m : Nat) (x : ByteArray), nv = .int .i64 m ∧ rv = .string x ∧ kv = .int .i64 m ∧ m + x.size ≤ 120 ∧ Hid (x.size = 0 ∨ full x.data.toList = true) ∧ Hid (∃ pre, upsB s = pre ++ upsB x ∧ pre.length = m) ∧ Hid (Below w.heap.size w wr)) (fun _ rv _ _ => strSz rv)
      case atStart => exact ⟨0, s, rfl, rfl, rfl, by omega, Lib.hid (.inr Hf.out), Lib.hid ⟨[], rfl, rfl⟩, Lib.hid hb0⟩
      case round =>
        obtain ⟨m, x, rfl, rfl, rfl, hmx, Hfx, Hpre, HB⟩ := hrel
        have d200 : decide ((m : Int) < 200) = true := decide_eq_true (by omega)
        have hLr := hL.below HB.out
        by_cases hz : x.size = 0
        · have he : x.toList.isEmpty = true := empty_yes hz
          obtain ⟨pre, hpre, hplen⟩ := Hpre.out
          rw [upsB_nil hz] at hpre
          have hm0 : 0 < m := by
            rcases Nat.eq_zero_or_pos m with h0 | h0
            · rw [h0] at hplen
              rw [List.length_eq_zero_iff.1 hplen] at hpre
              have h3 := HU0.out
              rw [hpre] at h3
              simp at h3
              rw [h3] at hz
              exact absurd hz hs0
            · exact h0
          have hU : (upsB s).length = m + 1 := by rw [hpre, List.length_append, hplen]; rfl
          have hUm : (upsB s)[m]? = some x := by rw [hpre, List.getElem?_append_right (by omega), hplen]; simp
          have dm : decide (0 < m) = true := decide_eq_true hm0
          have dm2 : decide ((0 : Int) < m) = true := decide_eq_true (by omega)
          have Hum := Lib.hid hUm
          clear hpre hplen Hpre hUm
          go_wp2_with fail
          refine (up_any s (by omega) _).mono ?_
          rintro _ w5 ⟨v5, rfl, hown, hb5⟩
          obtain ⟨g, cap, rfl, _, hglt, hcap, hcell⟩ := hown.at (ups_ne s)
          have hc0 := hcell 0 s HU0.out
          have hcm := hcell m x Hum.out
          have hL5 := hLr.below hb5
          rw [hU] at hcap ⊢
          clear hown hcell
          have hmi : (m : Int) + 1 ≤ 9223372036854775807 := by omega
          go_wp2_with fail
          refine (awake_any _ hL5).mono ?_
          rintro _ wa ⟨rfl, hba⟩
          go_wp2_with fail
          go_ret
          exact ⟨rfl, bt (bt HB.out hb5) hba⟩
        · have he : x.toList.isEmpty = false := empty_no hz
          have hfx : full x.data.toList = true := Hfx.out.resolve_left hz
          obtain ⟨f1, f2, f3⟩ := fullB_step hfx
          have hlt := scB_lt hz
          have hsz3 := congrArg ByteArray.size f3
          rw [joinB_size] at hsz3
          have hlas : (laB x).size ≤ 120 := by
            split at hsz3 <;> omega
          have hnext : ∃ pre', upsB s = pre' ++ upsB (scB x) ∧ pre'.length = m + 1 := by
            obtain ⟨pre, hpre, hplen⟩ := Hpre.out
            refine ⟨pre ++ [x], ?_, by rw [List.length_append, hplen]; rfl⟩
            rw [hpre, upsB_cons hz]; simp
          have Hnext := Lib.hid hnext
          have F1 := Lib.hid f1
          have F2 := Lib.hid f2
          have F3 := Lib.hid f3
          clear hnext f1 f2 f3 Hpre hfx Hfx hsz3
          go_wp2_with fail
          refine (split_def x (by omega) _).mono ?_
          rintro _ w1 ⟨rfl, hb1⟩
          generalize scB x = a at *
          generalize laB x = b at *
          have hL1 := hLr.below hb1
          have hxx : (x.toList == x.toList) = true := by simp
          have hxx2 : (x.toList != x.toList) = false := by simp
          go_wp2_with fail
          refine (isPart_any b _).mono ?_
          rintro _ wz ⟨rfl, rfl⟩
          rw [F1.out]
          go_wp2_with fail
          refine (join_any a b (by omega) (by omega) _).mono ?_
          rintro _ wz ⟨rfl, rfl⟩
          rw [F3.out]
          by_cases ha : a.size = 0
          · have hea : a.toList.isEmpty = true := empty_yes ha
            go_wp2_with fail
            exact ⟨⟨m + 1, a, by go_num, rfl, by go_num, by omega, F2, Hnext, Lib.hid (bt HB.out hb1)⟩, by simp [strSz]; omega⟩
          · have hea : a.toList.isEmpty = false := empty_no ha
            have hfa : full a.data.toList = true := F2.out.resolve_left ha
            have Hfa := Lib.hid hfa
            clear hfa
            go_wp2_with fail
            refine (isFull_any a _ hL1).mono ?_
            rintro _ w2 ⟨rfl, hb2⟩
            rw [Hfa.out]
            go_wp2_with fail
            exact ⟨⟨m + 1, a, by go_num, rfl, by go_num, by omega, F2, Hnext, Lib.hid (bt (bt HB.out hb1) hb2)⟩, by simp [strSz]; omega⟩
  · have hd : decide ((5000 : Int) < s.size) = true := decide_eq_true (by omega)
    go_enter Tryd.func8, Tryd.ntmps8
    go_wp2_with fail
    refine (awake_any _ hL).mono ?_
    rintro _ wa1 ⟨rfl, hba1⟩
    go_wp2_with fail
    go_ret
    exact ⟨rfl, hba1⟩
end Go.Proofs.YtpgikodjfidkkaaDoor.IdentSplitsW
