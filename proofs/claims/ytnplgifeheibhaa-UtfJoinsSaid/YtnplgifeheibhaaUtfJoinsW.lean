/- The walk of the law UtfJoins. -/
import Derived.Test.YtnplgifeheibhaaUtfX
import Derived.Test.YtnplgifeheibhaaUtfA
set_option linter.unusedSimpArgs false
set_option linter.unusedVariables false
namespace Go.Proofs.Ytnplgifeheibhaa.UtfJoinsW
open Go.RowKit Nums Byt UtfM UtfS UtfQ UtfX
open UtfA
set_option maxHeartbeats 2000000 in
set_option maxRecDepth 100000 in
theorem walk (a b : ByteArray) (z : a.size ≤ 140737488351232) (z1 : b.size ≤ 140737488351232) (w : World) :
    Calls Try.prog 10 #[.string a, .string b] w fun e w' => e = .returned (.bool true) ∧ Below w.heap.size w w' := by
  have hsum : a.size + b.size ≤ 9223372036854775807 := by omega
  have hab : (a ++ b).size ≤ 4611686018427387904 := by rw [ByteArray.size_append]; omega
  have hal : a.data.toList.length = a.size := rfl
  have hbl : b.data.toList.length = b.size := rfl
  rcases bad_range a.data.toList with hA | ⟨hA1, hA2⟩
  · have hj1 := join_count (b := b.data.toList) hA
    have hj2 := join_bad (b := b.data.toList) hA
    rw [← append_toList] at hj1 hj2
    have hca := count_le a.data.toList
    have hcb := count_le b.data.toList
    rw [hal] at hca hj2
    rw [hbl] at hcb
    have HA := Lib.hid hA
    have Hj1 := Lib.hid hj1
    rcases bad_range b.data.toList with hB | ⟨hB1, hB2⟩
    · have hC : bad (a ++ b).data.toList = -1 := by rw [hj2, hB]; rfl
      have HB := Lib.hid hB
      have HC := Lib.hid hC
      clear hA hj1 hj2 hal hbl hB hC
      go_enter Try.func10, Try.ntmps10
      go_wp2_with fail
      refine (bad_any a (by omega) _).mono ?_
      rintro _ w1 ⟨rfl, hb1⟩
      rw [HA.out]
      go_wp2_with fail
      refine (valid_any a (by omega) _).mono ?_
      rintro _ w2 ⟨rfl, hb2⟩
      rw [HA.out]
      go_wp2_with fail
      refine (valid_any a (by omega) _).mono ?_
      rintro _ w3 ⟨rfl, hb3⟩
      rw [HA.out]
      go_wp2_with fail
      refine (bad_any b (by omega) _).mono ?_
      rintro _ w4 ⟨rfl, hb4⟩
      rw [HB.out]
      go_wp2_with fail
      refine (count_any (a ++ b) hab _).mono ?_
      rintro _ w5 ⟨rfl, hb5⟩
      rw [Hj1.out]
      go_wp2_with fail
      refine (count_any a (by omega) _).mono ?_
      rintro _ w6 ⟨rfl, hb6⟩
      go_wp2_with fail
      refine (count_any b (by omega) _).mono ?_
      rintro _ w7 ⟨rfl, hb7⟩
      go_wp2_with fail
      refine (bad_any (a ++ b) hab _).mono ?_
      rintro _ w8 ⟨rfl, hb8⟩
      rw [HC.out]
      go_wp2_with fail
      refine (valid_any (a ++ b) hab _).mono ?_
      rintro _ w9 ⟨rfl, hb9⟩
      rw [HC.out]
      go_wp2_with fail
      refine (valid_any b (by omega) _).mono ?_
      rintro _ w10 ⟨rfl, hb10⟩
      rw [HB.out]
      go_wp2_with fail
      refine (awake_any _).mono ?_
      rintro _ w11 ⟨rfl, hb11⟩
      go_wp2_with fail
      go_ret
      exact ⟨rfl, bt (bt (bt (bt (bt (bt (bt (bt (bt (bt hb1 hb2) hb3) hb4) hb5) hb6) hb7) hb8) hb9) hb10) hb11⟩
    · rw [hbl] at hB2
      obtain ⟨m, hm⟩ := Int.eq_ofNat_of_zero_le hB1
      rw [hm] at hB2 hj2
      rw [if_neg (by omega)] at hj2
      have HB := Lib.hid hm
      have HC := Lib.hid hj2
      have hm1 : m < b.size := by omega
      clear hA hj1 hj2 hal hbl hB1 hB2 hm
      go_enter Try.func10, Try.ntmps10
      go_wp2_with fail
      refine (bad_any a (by omega) _).mono ?_
      rintro _ w1 ⟨rfl, hb1⟩
      rw [HA.out]
      go_wp2_with fail
      refine (valid_any a (by omega) _).mono ?_
      rintro _ w2 ⟨rfl, hb2⟩
      rw [HA.out]
      go_wp2_with fail
      refine (valid_any a (by omega) _).mono ?_
      rintro _ w3 ⟨rfl, hb3⟩
      rw [HA.out]
      go_wp2_with fail
      refine (bad_any b (by omega) _).mono ?_
      rintro _ w4 ⟨rfl, hb4⟩
      rw [HB.out]
      go_wp2_with fail
      refine (count_any (a ++ b) hab _).mono ?_
      rintro _ w5 ⟨rfl, hb5⟩
      rw [Hj1.out]
      go_wp2_with fail
      refine (count_any a (by omega) _).mono ?_
      rintro _ w6 ⟨rfl, hb6⟩
      go_wp2_with fail
      refine (count_any b (by omega) _).mono ?_
      rintro _ w7 ⟨rfl, hb7⟩
      go_wp2_with fail
      refine (bad_any (a ++ b) hab _).mono ?_
      rintro _ w8 ⟨rfl, hb8⟩
      rw [HC.out]
      go_wp2_with fail
      refine (valid_any (a ++ b) hab _).mono ?_
      rintro _ w9 ⟨rfl, hb9⟩
      rw [HC.out]
      go_wp2_with fail
      refine (valid_any b (by omega) _).mono ?_
      rintro _ w10 ⟨rfl, hb10⟩
      rw [HB.out]
      go_wp2_with fail
      refine (awake_any _).mono ?_
      rintro _ w11 ⟨rfl, hb11⟩
      go_wp2_with fail
      go_ret
      exact ⟨rfl, bt (bt (bt (bt (bt (bt (bt (bt (bt (bt hb1 hb2) hb3) hb4) hb5) hb6) hb7) hb8) hb9) hb10) hb11⟩
  · have hbe := bad_before (a := a.data.toList) (by omega)
    rw [hal] at hA2
    obtain ⟨m, hm⟩ := Int.eq_ofNat_of_zero_le hA1
    rw [hm, Int.toNat_natCast] at hbe
    rw [hm] at hA2
    have HA := Lib.hid hm
    have hm1 : m < a.size := by omega
    have hmi : (m : Int) ≤ a.size := by omega
    have hcut : bad (a.extract 0 m).data.toList = -1 := by
      have : (a.extract 0 m).data.toList = a.data.toList.take m := by simp
      rw [this]; exact hbe
    have HC := Lib.hid hcut
    have hms : (a.extract 0 m).size ≤ 4611686018427387904 := by rw [ByteArray.size_extract]; omega
    clear hal hbl hA1 hA2 hm hbe hcut
    go_enter Try.func10, Try.ntmps10
    go_wp2_with fail
    refine (bad_any a (by omega) _).mono ?_
    rintro _ w1 ⟨rfl, hb1⟩
    rw [HA.out]
    go_wp2_with fail
    refine (valid_any a (by omega) _).mono ?_
    rintro _ w2 ⟨rfl, hb2⟩
    rw [HA.out]
    go_wp2_with fail
    refine (valid_any a (by omega) _).mono ?_
    rintro _ w3 ⟨rfl, hb3⟩
    rw [HA.out]
    go_wp2_with fail
    refine (bad_any a (by omega) _).mono ?_
    rintro _ w4 ⟨rfl, hb4⟩
    rw [HA.out]
    go_wp2_with fail
    refine (bad_any a (by omega) _).mono ?_
    rintro _ w5 ⟨rfl, hb5⟩
    rw [HA.out]
    go_wp2_with fail
    refine (bad_any a (by omega) _).mono ?_
    rintro _ w6 ⟨rfl, hb6⟩
    rw [HA.out]
    go_wp2_with fail
    refine (valid_any _ hms _).mono ?_
    rintro _ w7 ⟨rfl, hb7⟩
    rw [HC.out]
    go_wp2_with fail
    refine (awake_any _).mono ?_
    rintro _ w8 ⟨rfl, hb8⟩
    go_wp2_with fail
    go_ret
    exact ⟨rfl, bt (bt (bt (bt (bt (bt (bt hb1 hb2) hb3) hb4) hb5) hb6) hb7) hb8⟩

end Go.Proofs.Ytnplgifeheibhaa.UtfJoinsW
