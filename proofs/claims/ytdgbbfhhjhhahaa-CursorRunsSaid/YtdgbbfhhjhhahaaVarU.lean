/- The contract of the program's Take. -/
import Derived.Test.YtdgbbfhhjhhahaaVarT
import Derived.Test.YtdgbbfhhjhhahaaVarB
namespace Go.Proofs.Ytdgbbfhhjhhahaa.VarU
open Go.RowKit VarM VarT VarB

set_option maxRecDepth 100000 in
set_option maxHeartbeats 400000 in
theorem take_any (s : ByteArray) (w : World) (hs : s.size ≤ maxLen) :
    Calls Try.prog 40 #[.string s] w fun e w' => e = .returned (.tuple #[.int .u64 (take s.data.toList).1, .int .i64 (take s.data.toList).2.1, .int .i64 (take s.data.toList).2.2]) ∧ w = w' := by
  unfold maxLen at hs
  go_enter Try.func40, Try.ntmps40
  go_wp2
  go_step3
  go_wp2
  go_step3
  go_wp2
  go_loop [5, 6, 7, 8, 11] (fun u n _ _ i => ∃ k acc : Nat, k ≤ 9 ∧ k ≤ s.size ∧ i = .int .i64 k ∧ acc < 128 ^ k ∧ u = .int .u64 acc ∧ n = .int .i64 0 ∧ take s.data.toList = takeA (10 - k) k acc (s.data.toList.drop k)) (fun _ _ _ _ i => 10 - (intOf i).toNat)
  case atStart => exact ⟨0, 0, by omega, by omega, rfl, by omega, rfl, rfl, rfl⟩
  case round =>
    obtain ⟨k, acc, hk, hks, rfl, hacc, rfl, rfl, hrel⟩ := hrel
    have Hrel := Lib.hid hrel
    clear hrel
    have Hacc := Lib.hid hacc
    clear hacc
    by_cases hlt : k < s.size
    · have hc1 : (s[k].toNat : Int) < 256 := by have := s[k].toNat_lt; omega
      by_cases hA : k = 9 ∧ 1 < (s[k].toNat : Int)
      · obtain ⟨rfl, hA⟩ := hA
        go_wp2
        try rw [Exit.noGoto_ret]
        go_ret3
        exact ⟨ret_take (bstep_range Hrel.out rfl hlt hA) rfl rfl rfl, rfl⟩
      · have Hdone := Lib.hid (acc_le (c := s[k].toNat) Hacc.out hk (by rintro ⟨e1, e2⟩; exact hA ⟨e1, by omega⟩))
        have H9 := Lib.hid hA
        clear hA
        by_cases hB : (s[k].toNat : Int) < 128
        · have Hd := Lib.hid (bstep_done Hrel.out hk hlt H9.out hB)
          by_cases e9 : k = 9
          · have hor := or_eq9 (e9 ▸ Hacc.out) (show acc + s[k].toNat * 128 ^ 9 ≤ 18446744073709551615 from by have := Hdone.out; rw [Nat.mod_eq_of_lt (by omega)] at this; exact e9 ▸ this)
            subst e9
            have h1 : (s[9].toNat : Int) ≤ 1 := by
              by_cases e : 1 < (s[9].toNat : Int)
              · exact absurd ⟨rfl, e⟩ H9.out
              · omega
            rw [IntWalk.u64_in _ ⟨by omega, by omega⟩] at hor
            have Hor := Lib.hid hor
            clear hor
            go_wp2
            try rw [Exit.noGoto_ret]
            go_ret3
            refine ⟨ret_take Hd.out ?_ rfl rfl, rfl⟩
            rw [Nat.mod_eq_of_lt (show s[9].toNat < 128 from by omega)]
            exact Hor.out
          · have h8 : (k : Int) < 9 := by omega
            have hnz : ((k : Int) + 1 == 0) = false := by simp; omega
            have Hor := Lib.hid (or_eq (c := s[k].toNat) Hacc.out (by have := Hdone.out; rw [Nat.mod_eq_of_lt (by omega)] at this; exact this))
            go_wp2
            try rw [Exit.noGoto_ret]
            go_ret3
            refine ⟨ret_take Hd.out ?_ rfl rfl, rfl⟩
            rw [Nat.mod_eq_of_lt (show s[k].toNat < 128 from by omega)]
            exact Hor.out
        · have Hd := Lib.hid (bstep_more Hrel.out hk hlt H9.out hB)
          have Ha := Lib.hid (acc_lt (c := s[k].toNat) Hacc.out)
          have hk8 : k ≤ 8 := by
            by_cases e : k = 9
            · exact absurd ⟨e, by omega⟩ H9.out
            · omega
          have Hor := Lib.hid (or_eq (c := s[k].toNat % 128) Hacc.out Hdone.out)
          go_wp2
          go_round
          case rel =>
            refine ⟨k + 1, _, by omega, by omega, by go_num, Ha.out, ?_, rfl, Hd.out⟩
            rw [← Hor.out]
            simp
          case measure => simp [intOf]; omega
    · go_wp2
      try rw [Exit.noGoto_ret]
      go_ret3
      exact ⟨ret_take (bstep_short Hrel.out hk (by omega)) rfl rfl rfl, rfl⟩
end Go.Proofs.Ytdgbbfhhjhhahaa.VarU
