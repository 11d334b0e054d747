/- The contract of the program's TakeFixed. -/
import Derived.Test.YtdgbbfhhjhhahaaFixM
import Derived.Test.YtdgbbfhhjhhahaaVarB
import Derived.Test.YtdgbbfhhjhhahaaByt
namespace Go.Proofs.Ytdgbbfhhjhhahaa.FixT
open Go.RowKit VarM FixM VarB

set_option maxRecDepth 100000 in
set_option maxHeartbeats 400000 in
theorem tfix_any (s : ByteArray) (w : World) (hs : s.size ≤ maxLen) :
    Calls Try.prog 41 #[.string s] w fun e w' => e = .returned (.tuple #[.int .u64 (fixed s.data.toList).1, .int .i64 (fixed s.data.toList).2]) ∧ w = w' := by
  unfold maxLen at hs
  by_cases h8 : s.size < 8
  · have Hf : Hid (fixed s.data.toList = (0, 4)) := Lib.hid (by unfold fixed; rw [if_pos (show s.data.toList.length < 8 from h8)])
    go_enter Try.func41, Try.ntmps41
    go_wp2
    go_ret2
    exact ⟨by rw [Hf.out]; rfl, rfl⟩
  · have Hf : Hid (fixed s.data.toList = (num (s.data.toList.take 8), 0)) := Lib.hid (by unfold fixed; rw [if_neg (show ¬ s.data.toList.length < 8 from h8)])
    have h8' : (8 : Int) ≤ s.size := by omega
    go_enter Try.func41, Try.ntmps41
    go_wp2
    go_loop [4, 5, 9] (fun u _ i => ∃ k : Nat, k ≤ 8 ∧ i = .int .i64 k ∧ u = .int .u64 (num (s.data.toList.take k))) (fun _ _ i => 8 - (intOf i).toNat)
    case atStart => exact ⟨0, by omega, rfl, by simp [num]⟩
    case round =>
      obtain ⟨k, hk, rfl, rfl⟩ := hrel
      by_cases hlt : k < 8
      · have Hs := Lib.hid (num_snoc s k (by omega))
        have Hb := Lib.hid (num_take_lt s (k + 1))
        have Ho := Lib.hid (or_eq256 (num_take_lt s k) (by
          rw [← Hs.out]
          have h1 := Hb.out
          have h2 : 256 ^ (k + 1) ≤ 256 ^ 8 := Nat.pow_le_pow_right (by omega) (by omega)
          omega))
        have hks : (k : Int) < s.size := by omega
        have hc1 : (s[k].toNat : Int) < 256 := by have := s[k].toNat_lt; omega
        go_wp2
        go_round
        case rel => exact ⟨k + 1, by omega, by go_num, by rw [Hs.out, Ho.out]⟩
        case measure => simp [intOf]; omega
      · obtain rfl : k = 8 := by omega
        go_wp2
        go_ret2
        exact ⟨by rw [Hf.out]; rfl, rfl⟩

end Go.Proofs.Ytdgbbfhhjhhahaa.FixT
