/- The contracts of Len, of the program and of the reference. -/
import Derived.Test.YtnhkbbbafoglfaaVarM
import Derived.Test.YtnhkbbbafoglfaaVarP
import Derived.Test.YtnhkbbbafoglfaaShelf
import Derived.Lib.ItoaNum
namespace Go.Proofs.Ytnhkbbbafoglfaa.VarL
open Go.RowKit VarM Byt VarP

theorem ret_int {k : IntKind} {a b : Int} (h : a = b) : Ending.returned (.int k a) = .returned (.int k b) := by rw [h]

theorem or1 (u : Nat) : (u ||| 1) % 2 = 1 ∧ u ≤ (u ||| 1) ∧ (u ||| 1) ≤ u + 1 := by
  have h1 : (u ||| 1) % 2 = 1 := by rw [Nat.or_mod_two_eq_one]; right; rfl
  have h2 : (u ||| 1) / 2 = u / 2 := by
    have := Nat.or_div_two (a := u) (b := 1)
    simpa using this
  omega
theorem bitLen_bounds {x : Nat} (h : x < 18446744073709551616) (h0 : x ≠ 0) : 1 ≤ Lib.bitLen x ∧ 2 ^ (Lib.bitLen x - 1) ≤ x ∧ x < 2 ^ Lib.bitLen x := Lib.bitLenAux_bounds 64 x h h0

theorem len_eq (u : Nat) (h : u < 18446744073709551616) : (Lib.bitLen (u ||| 1) + 6) / 7 = (put u).length := by
  obtain ⟨h1, h2, h3⟩ := or1 u
  have hx : (u ||| 1) < 18446744073709551616 := Nat.or_lt_two_pow (n := 64) h (by omega)
  generalize hb : (u ||| 1) = x at *
  obtain ⟨b1, b2, b3⟩ := bitLen_bounds hx (by omega)
  generalize Lib.bitLen x = b at *
  obtain ⟨k, hk⟩ : ∃ k, (b + 6) / 7 = k + 1 := ⟨(b + 6) / 7 - 1, by omega⟩
  rw [hk]
  have hup : x < 128 ^ (k + 1) := by
    have e : 128 ^ (k + 1) = 2 ^ (7 * (k + 1)) := by rw [Nat.pow_mul]
    have : 2 ^ b ≤ 2 ^ (7 * (k + 1)) := Nat.pow_le_pow_right (by omega) (by omega)
    omega
  have hlo : 128 ^ k ≤ u ∨ k = 0 := by
    rcases Nat.eq_zero_or_pos k with h0 | h0
    · exact .inr h0
    · left
      obtain ⟨j, rfl⟩ : ∃ j, k = j + 1 := ⟨k - 1, by omega⟩
      have e : 128 ^ (j + 1) = 2 ^ (7 * (j + 1)) := by rw [Nat.pow_mul]
      have h4 : 2 ^ (7 * (j + 1)) ≤ 2 ^ (b - 1) := Nat.pow_le_pow_right (by omega) (by omega)
      have h5 : 128 ^ (j + 1) % 2 = 0 := by rw [Nat.pow_succ]; omega
      omega
  have hle := put_le k u (by omega)
  rcases hlo with h0 | h0
  · have := put_ge k u h0
    omega
  · subst h0
    have := put_ge 0
    have hne := put_ne u
    have : 1 ≤ (put u).length := by
      cases hh : put u with
      | nil => exact absurd hh hne
      | cons a l => simp
    omega

set_option maxRecDepth 100000 in
set_option maxHeartbeats 400000 in
theorem len_any (u : Nat) (w : World) (hu : u ≤ 18446744073709551615) :
    Calls Try.prog 12 #[.int .u64 u] w fun e w' => e = .returned (.int .i64 (put u).length) ∧ w = w' := by
  have hx : (u ||| 1) < 18446744073709551616 := Nat.or_lt_two_pow (n := 64) (by omega) (by omega)
  have hor : bits .or .u64 (u : Int) 1 = ((u ||| 1 : Nat) : Int) := u64_or_nat u 1 (by omega) (by omega)
  have Hlen := Lib.hid (len_eq u (by omega))
  have hb64 := Lib.bitLen_le (u ||| 1) 64 (by omega) hx
  obtain ⟨b, hb⟩ : ∃ b, b = Lib.bitLen (u ||| 1) := ⟨_, rfl⟩
  have Hb := Lib.hid hb
  rw [← hb] at hb64
  clear hb
  obtain ⟨x, hxx⟩ : ∃ x, x = (u ||| 1) := ⟨_, rfl⟩
  have Hx := Lib.hid hxx
  rw [← hxx] at hx hor
  clear hxx
  go_enter Try.func12, Try.ntmps12
  go_wp2_with fail
  refine (Try.bits_Len64 _ _ (by omega) (by omega)).mono ?_
  rintro e w' ⟨rfl, rfl⟩
  have hbx : Lib.bitLen ((x : Int).toNat) = b := by rw [Int.toNat_natCast, Hb.out, Hx.out]
  rw [hbx]
  clear hbx
  go_wp2
  go_ret
  exact ⟨ret_int (by rw [← Hlen.out, ← Hb.out]; omega), rfl⟩

set_option maxRecDepth 100000 in
set_option maxHeartbeats 400000 in
theorem rlen_any (u : Nat) (w : World) (hu : u ≤ 18446744073709551615) :
    Calls Try.prog 13 #[.int .u64 u] w fun e w' => e = .returned (.int .i64 (put u).length) ∧ Below w.heap.size w w' := by
  go_enter Try.func13, Try.ntmps13
  go_wp2_with fail
  refine (rput_any u _ hu).mono ?_
  rintro e w' ⟨rfl, hb⟩
  go_wp2
  go_ret
  exact ⟨ret_int (by simp [ByteArray.size]), hb⟩
end Go.Proofs.Ytnhkbbbafoglfaa.VarL
