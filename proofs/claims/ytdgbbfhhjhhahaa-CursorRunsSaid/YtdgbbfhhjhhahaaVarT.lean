/- Contracts of Take, of the program and of the reference. -/
import Derived.Test.YtdgbbfhhjhhahaaRows
import Derived.Test.YtdgbbfhhjhhahaaVarM
import Derived.WalkKit
import Derived.ProofKit
import Derived.OpenShut
import Derived.WalkSpells
import Derived.WalkLawsBesides
import Derived.Lib.Hide
namespace Go.Proofs.Ytdgbbfhhjhhahaa.VarT
open Go.RowKit VarM

theorem tl_get (s : ByteArray) (k : Nat) (h : k < s.size) (h' : k < s.data.toList.length) : s.data.toList[k]'h' = s[k]'h := rfl
theorem cast_le {a c W : Nat} (h : a + c % 128 * W ≤ 18446744073709551615) : (a : Int) + (c : Int) % 128 * (W : Int) ≤ 18446744073709551615 := by
  have e : ((a + c % 128 * W : Nat) : Int) = (a : Int) + (c : Int) % 128 * (W : Int) := by simp
  rw [← e]
  exact Int.ofNat_le.2 h
theorem ret3 {u u' n n' e e' : Int} (h1 : u = u') (h2 : n = n') (h3 : e = e') : Ending.returned (.tuple #[.int .u64 u, .int .i64 n, .int .i64 e]) = .returned (.tuple #[.int .u64 u', .int .i64 n', .int .i64 e']) := by rw [h1, h2, h3]
theorem ret_take {l : List UInt8} {u n e : Nat} {u' n' e' : Int} (h : take l = (u, n, e)) (h1 : u' = u) (h2 : n' = n) (h3 : e' = e) :
    Ending.returned (.tuple #[.int .u64 u', .int .i64 n', .int .i64 e']) = .returned (.tuple #[.int .u64 (take l).1, .int .i64 (take l).2.1, .int .i64 (take l).2.2]) := by
  rw [h, h1, h2, h3]

set_option maxRecDepth 100000 in
set_option maxHeartbeats 400000 in
theorem rtake_any (s : ByteArray) (w : World) (hs : s.size ≤ maxLen) :
    Calls Try.prog 43 #[.string s] w fun e w' => e = .returned (.tuple #[.int .u64 (take s.data.toList).1, .int .i64 (take s.data.toList).2.1, .int .i64 (take s.data.toList).2.2]) ∧ w = w' := by
  unfold maxLen at hs
  go_enter Try.func43, Try.ntmps43
  go_wp2
  go_loop [5, 6, 7, 8] (fun u wt i _ => ∃ k acc : Nat, k ≤ 9 ∧ k ≤ s.size ∧ i = .int .i64 k ∧ acc < 128 ^ k ∧ u = .int .u64 acc ∧ wt = .int .u64 ((128 ^ k : Nat) : Int) ∧ take s.data.toList = takeA (10 - k) k acc (s.data.toList.drop k)) (fun _ _ i _ => 10 - (intOf i).toNat)
  case atStart => exact ⟨0, 0, by omega, by omega, rfl, by omega, rfl, rfl, rfl⟩
  case round =>
    obtain ⟨k, acc, hk, hks, rfl, hacc, rfl, rfl, hrel⟩ := hrel
    have Hrel := Lib.hid hrel
    clear hrel
    have Hacc := Lib.hid hacc
    obtain ⟨W, hW⟩ : ∃ W : Nat, W = 128 ^ k := ⟨_, rfl⟩
    have HW := Lib.hid hW
    rw [← hW] at hacc ⊢
    clear hW
    by_cases hlt : k < s.size
    · have hc1 : (s[k].toNat : Int) < 256 := by have := s[k].toNat_lt; omega
      have hp0 : 0 ≤ (s[k].toNat : Int) % 128 * (W : Int) := by apply Int.mul_nonneg <;> omega
      by_cases hA : k = 9 ∧ 1 < (s[k].toNat : Int)
      · obtain ⟨rfl, hA⟩ := hA
        go_wp2
        go_ret3
        exact ⟨ret_take (bstep_range Hrel.out rfl hlt hA) rfl rfl rfl, rfl⟩
      · have Hdone := Lib.hid (acc_le (c := s[k].toNat) Hacc.out hk (by rintro ⟨e1, e2⟩; exact hA ⟨e1, by omega⟩))
        have hp1 : (acc : Int) + (s[k].toNat : Int) % 128 * (W : Int) ≤ 18446744073709551615 := by
          have := Hdone.out
          rw [← HW.out] at this
          exact cast_le this
        have H9 := Lib.hid hA
        clear hA
        by_cases hB : (s[k].toNat : Int) < 128
        · have Hd := Lib.hid (bstep_done Hrel.out hk hlt H9.out hB)
          rw [← HW.out] at Hd
          go_wp2
          all_goals
            go_ret3
            first
              | (exfalso; exact H9.out ⟨by omega, by assumption⟩)
              | exact ⟨ret_take Hd.out (by simp) (by omega) rfl, rfl⟩
        · have Hd := Lib.hid (bstep_more Hrel.out hk hlt H9.out hB)
          have Ha := Lib.hid (acc_lt (c := s[k].toNat) Hacc.out)
          rw [← HW.out] at Hd Ha
          have hk8 : k ≤ 8 := by
            by_cases e : k = 9
            · exact absurd ⟨e, by omega⟩ H9.out
            · omega
          have hW8 := pow_le8 HW.out hk8
          go_wp2
          go_round
          case rel =>
            refine ⟨k + 1, _, by omega, by omega, by go_num, Ha.out, ?_, ?_, Hd.out⟩
            · simp
            · rw [Nat.pow_succ, ← HW.out]; simp
          case measure => simp [intOf]; omega
    · go_wp2
      go_ret3
      exact ⟨ret_take (bstep_short Hrel.out hk (by omega)) rfl rfl rfl, rfl⟩
end Go.Proofs.Ytdgbbfhhjhhahaa.VarT
