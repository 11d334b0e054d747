import Derived.Test.YthjpchnogllliaaGreatDoorUtfL
/- Contracts of Bad, Valid and Count of the reference of package utf. -/
set_option linter.unusedSimpArgs false
set_option linter.unusedVariables false
namespace Go.Proofs.YthjpchnogllliaaGreatDoor.UtfB
open Go.RowKit Nums Byt UtfM UtfS UtfR

set_option maxHeartbeats 1000000 in
set_option maxRecDepth 100000 in
theorem rBad_any (s : ByteArray) (hs : s.size ≤ 4611686018427387904) (w : World) :
    Calls Tryz.prog 93 #[.string s] w fun e w' => e = .returned (.int .i64 (bad s.data.toList)) ∧ w = w' := by
  have hsz : s.data.toList.length = s.size := rfl
  have Hsz := Lib.hid hsz
  clear hsz
  go_enter Tryz.func93, Tryz.ntmps93
  go_wp2_with fail
  go_loop [3] (fun t => ∃ k : Nat, k ≤ s.size ∧ t = .int .i64 k ∧ Hid (badP k (parts (s.data.toList.drop k)) = bad s.data.toList)) (fun t => s.size - (intOf t).toNat)
  case atStart => exact ⟨0, by omega, rfl, Lib.hid rfl⟩
  case round =>
    obtain ⟨k, hk, rfl, Hb⟩ := hrel
    by_cases hlt : k < s.size
    · have Hlt := Lib.hid (show k < s.data.toList.length from hlt)
      have hle := sz_le (s.data.toList.drop k)
      rw [List.length_drop, Hsz.out] at hle
      generalize hz : sz (s.data.toList.drop k) = n at hle
      have Hz := Lib.hid hz
      clear hz
      by_cases h0 : n = 0
      · have h1 : ((n : Int) == 0) = true := by simp [h0]
        have H0 := Lib.hid h0
        clear h0
        go_wp2_with fail
        refine (size_any s k hlt hs _).mono ?_
        rintro _ w1 ⟨rfl, rfl⟩
        rw [Hz.out]
        go_wp2_with fail
        go_ret
        exact ⟨ret_int (by rw [← Hb.out, badP_wrong Hlt.out (Hz.out.trans H0.out)]), rfl⟩
      · have h1 : ((n : Int) == 0) = false := by rw [beq_eq_false_iff_ne]; omega
        go_wp2_with fail
        refine (size_any s k hlt hs _).mono ?_
        rintro _ w1 ⟨rfl, rfl⟩
        rw [Hz.out]
        go_wp2_with fail
        refine ⟨⟨k + n, by omega, by go_num, Lib.hid ?_⟩, by simp [intOf]; omega⟩
        have := badP_next Hlt.out (by rw [Hz.out]; exact h0)
        rw [Hz.out] at this
        rw [← this, Hb.out]
    · obtain rfl : k = s.size := by omega
      go_wp2_with fail
      go_ret
      exact ⟨ret_int (by rw [← Hb.out, badP_end (by rw [Hsz.out]; omega)]), rfl⟩

set_option maxHeartbeats 400000 in
set_option maxRecDepth 100000 in
theorem rValid_any (s : ByteArray) (hs : s.size ≤ 4611686018427387904) (w : World) :
    Calls Tryz.prog 69 #[.string s] w fun e w' => e = .returned (.bool (decide (bad s.data.toList < 0))) ∧ w = w' := by
  go_enter Tryz.func69, Tryz.ntmps69
  go_wp2_with fail
  refine (rBad_any s hs _).mono ?_
  rintro _ w1 ⟨rfl, rfl⟩
  go_wp2_with fail
  go_ret
  exact ⟨rfl, rfl⟩

end Go.Proofs.YthjpchnogllliaaGreatDoor.UtfB
