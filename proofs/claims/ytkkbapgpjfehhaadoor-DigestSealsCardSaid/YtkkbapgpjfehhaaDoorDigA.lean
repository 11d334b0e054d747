/- Half, Crc and Fnv, of the program and of the reference. -/
import Derived.Test.YtkkbapgpjfehhaaDoorDld
import Derived.Test.YtkkbapgpjfehhaaDoorNums
import Derived.Laws.BitsAllLaws
import Derived.Lib.Hide
set_option linter.unusedSimpArgs false
set_option linter.unusedVariables false
namespace Go.Proofs.YtkkbapgpjfehhaaDoor.DigA
open Go.RowKit DigM Dld Nums FixM

theorem ret_i {k : IntKind} {a b : Int} (h : a = b) : Ending.returned (.int k a) = .returned (.int k b) := by rw [h]
theorem ret_u {a b : Nat} (h : a = b) : Ending.returned (.int .u64 (a : Int)) = .returned (.int .u64 (b : Int)) := by rw [h]

set_option maxRecDepth 100000 in
theorem half_any (x : Nat) (hx : x ≤ 4294967295) (w : World) (hL : Ld w) : Calls Tryd.prog 24 #[.int .u32 x] w fun e w' => e = .returned (.int .u32 (c4 x)) ∧ w = w' := by
  have hc := hL.half (x % 16) (Nat.mod_lt _ (by decide))
  have k1 : bits BinOp.and .u32 (x : Int) 15 = ((x % 16 : Nat) : Int) := by
    have := u32_and_nat x 15 (by omega) (by decide)
    rw [nat_mask4] at this
    exact this
  have k2 : bits BinOp.xor .u32 ((x : Int) / 16) ((halves.getD (x % 16) 0 : Nat) : Int) = ((c4 x : Nat) : Int) := by
    have e : ((x : Int) / 16) = ((x / 16 : Nat) : Int) := by omega
    have hb : halves.getD (x % 16) 0 < 4294967296 := by
      rw [halves_tab _ (Nat.mod_lt _ (by decide))]; exact c4_lt (by omega)
    rw [e, u32_xor_nat _ _ (by omega) hb, c4_half]
  generalize halves.getD (x % 16) 0 = v at *
  have K2 := Lib.hid k2
  clear hL k2
  go_enter Tryd.func24, Tryd.ntmps24
  go_wp2_with (simp only [k1])
  go_ret
  exact ⟨ret_i K2.out, rfl⟩

theorem fnv_step (s : ByteArray) (k : Nat) (h : k < s.size) : fnv fnv0 (s.data.toList.take (k + 1)) = fnvS (fnv fnv0 (s.data.toList.take k)) s[k] := by
  rw [take_snoc s k h, fnv_snoc]
theorem fnv_of (s : ByteArray) (k : Nat) : fnv fnv0 (s.data.toList.take k) < 18446744073709551616 := fnv_lt _ _ (by decide)
theorem fnv_op (r : Nat) (c : UInt8) (hr : r < 18446744073709551616) : IntKind.u64.wrap (bits BinOp.xor .u64 (r : Int) (c.toNat : Int) * 1099511628211) = ((fnvS r c : Nat) : Int) := by
  have hc := c.toNat_lt
  rw [u64_xor_nat r c.toNat hr (by omega), IntKind.wrap_u64]
  unfold fnvS
  omega
theorem crc_step (s : ByteArray) (k : Nat) (h : k < s.size) : crc 4294967295 (s.data.toList.take (k + 1)) = crcS (crc 4294967295 (s.data.toList.take k)) s[k] := by
  rw [take_snoc s k h, crc_snoc]
theorem crc_of (s : ByteArray) (k : Nat) : crc 4294967295 (s.data.toList.take k) < 4294967296 := crc_lt _ _ (by decide)
/-- Two halves and a XOR, as the walk meets them. -/
theorem crc_ways (s : ByteArray) (k m : Nat) (hk : k < s.size) (hm : m = crc 4294967295 (s.data.toList.take k)) :
    ∃ x y z : Nat, bits BinOp.xor .u32 (m : Int) (s[k].toNat : Int) = (x : Int) ∧ x ≤ 4294967295 ∧ c4 x = y ∧ y ≤ 4294967295 ∧ c4 y = z ∧ z = crc 4294967295 (s.data.toList.take (k + 1)) := by
  have hm32 : m < 4294967296 := by rw [hm]; exact crc_of s k
  have hx := xor_lt32 hm32 s[k]
  have hy := c4_lt hx
  exact ⟨_, _, _, u32_xor_nat m s[k].toNat hm32 (Nat.lt_trans s[k].toNat_lt (by decide)), by omega, rfl, by omega, rfl, by rw [crc_step s k hk, ← hm]; rfl⟩
theorem not_u32 {m : Nat} (h : m < 4294967296) : IntKind.u64.wrap (bits BinOp.xor .u32 IntKind.u32.max (m : Int)) = ((4294967295 - m : Nat) : Int) := by
  have e : bits BinOp.xor .u32 IntKind.u32.max (m : Int) = ((4294967295 ^^^ m : Nat) : Int) := u32_xor_nat 4294967295 m (by decide) h
  have f : 4294967295 ^^^ m = 4294967295 - m := by
    have := xor_compl m h
    apply xor_right (c := m)
    rw [Nat.xor_assoc, Nat.xor_self, Nat.xor_zero, Nat.xor_comm, this]
  rw [e, f, IntKind.wrap_u64]
  omega
theorem take_all (s : ByteArray) : s.data.toList.take s.size = s.data.toList := List.take_of_length_le (Nat.le_refl _)

set_option maxRecDepth 100000 in
set_option maxHeartbeats 400000 in
theorem fnv_any (s : ByteArray) (hs : s.size ≤ 9223372036854775807) (w : World) : Calls Tryd.prog 10 #[.string s] w fun e w' => e = .returned (.int .u64 (fnv fnv0 s.data.toList)) ∧ w = w' := by
  go_enter Tryd.func10, Tryd.ntmps10
  go_wp2
  go_loop [3, 7] (fun r i => ∃ k m : Nat, k ≤ s.size ∧ i = .int .i64 k ∧ r = .int .u64 m ∧ Hid (m = fnv fnv0 (s.data.toList.take k))) (fun _ i => s.size - (intOf i).toNat)
  case atStart => exact ⟨0, fnv0, by omega, rfl, rfl, Lib.hid rfl⟩
  case round =>
    obtain ⟨k, m, hk, rfl, rfl, hm⟩ := hrel
    have hm64 : m < 18446744073709551616 := by rw [hm.out]; exact fnv_of s k
    by_cases hlt : k < s.size
    · have hn : Hid (fnvS m s[k] = fnv fnv0 (s.data.toList.take (k + 1))) := Lib.hid (by rw [fnv_step s k hlt, ← hm.out])
      have hop := fnv_op m s[k] hm64
      have hks : (k : Int) < s.size := by omega
      have hc1 : (s[k].toNat : Int) < 256 := by have := s[k].toNat_lt; omega
      generalize fnvS m s[k] = m' at *
      clear hm hm64
      go_wp2_with (simp only [hop])
      go_round
      case rel => exact ⟨k + 1, m', by omega, by go_num, rfl, hn⟩
      case measure => simp [intOf]; omega
    · obtain rfl : k = s.size := by omega
      go_wp2
      go_ret
      exact ⟨ret_u (by rw [hm.out, take_all]), rfl⟩

set_option maxRecDepth 100000 in
set_option maxHeartbeats 400000 in
theorem rfnv_any (s : ByteArray) (hs : s.size ≤ 9223372036854775807) (w : World) : Calls Tryd.prog 11 #[.string s] w fun e w' => e = .returned (.int .u64 (fnv fnv0 s.data.toList)) ∧ w = w' := by
  go_enter Tryd.func11, Tryd.ntmps11
  go_wp2
  go_loop [3, 4] (fun r i => ∃ k m : Nat, k ≤ s.size ∧ i = .int .i64 k ∧ r = .int .u64 m ∧ Hid (m = fnv fnv0 (s.data.toList.take k))) (fun _ i => s.size - (intOf i).toNat)
  case atStart => exact ⟨0, fnv0, by omega, rfl, rfl, Lib.hid rfl⟩
  case round =>
    obtain ⟨k, m, hk, rfl, rfl, hm⟩ := hrel
    have hm64 : m < 18446744073709551616 := by rw [hm.out]; exact fnv_of s k
    by_cases hlt : k < s.size
    · have hn : Hid (fnvS m s[k] = fnv fnv0 (s.data.toList.take (k + 1))) := Lib.hid (by rw [fnv_step s k hlt, ← hm.out])
      have hop := fnv_op m s[k] hm64
      have hks : (k : Int) < s.size := by omega
      have hc1 : (s[k].toNat : Int) < 256 := by have := s[k].toNat_lt; omega
      generalize fnvS m s[k] = m' at *
      clear hm hm64
      go_wp2_with (simp only [hop])
      go_round
      case rel => exact ⟨k + 1, m', by omega, by go_num, rfl, hn⟩
      case measure => simp [intOf]; omega
    · obtain rfl : k = s.size := by omega
      go_wp2
      go_ret
      exact ⟨ret_u (by rw [hm.out, take_all]), rfl⟩

set_option maxRecDepth 100000 in
set_option maxHeartbeats 400000 in
theorem crc_any (s : ByteArray) (hs : s.size ≤ 9223372036854775807) (w : World) (hL : Ld w) : Calls Tryd.prog 12 #[.string s] w fun e w' => e = .returned (.int .u64 (sum s.data.toList)) ∧ w = w' := by
  have HH := Lib.hid fun x hx => half_any x hx w hL
  clear hL
  go_enter Tryd.func12, Tryd.ntmps12
  go_wp2
  go_loop [3, 7] (fun r i => ∃ k m : Nat, k ≤ s.size ∧ i = .int .i64 k ∧ r = .int .u32 m ∧ Hid (m = crc 4294967295 (s.data.toList.take k))) (fun _ i => s.size - (intOf i).toNat)
  case atStart => exact ⟨0, 4294967295, by omega, rfl, rfl, Lib.hid rfl⟩
  case round =>
    obtain ⟨k, m, hk, rfl, rfl, hm⟩ := hrel
    by_cases hlt : k < s.size
    · obtain ⟨x, y, z, hop, hx, hxy, hy, hyz, hz⟩ := crc_ways s k m hlt hm.out
      have hn := Lib.hid hz
      have hks : (k : Int) < s.size := by omega
      have hc1 : (s[k].toNat : Int) < 256 := by have := s[k].toNat_lt; omega
      clear hm hz
      go_wp2_with (first | (refine (HH.out _ (by omega)).mono ?_; rintro _ w1 ⟨rfl, rfl⟩; simp only [hxy, hyz]))
      go_round
      case rel => exact ⟨k + 1, z, by omega, by go_num, rfl, hn⟩
      case measure => simp [intOf]; omega
    · obtain rfl : k = s.size := by omega
      go_wp2
      go_ret
      exact ⟨ret_i (by rw [not_u32 (by rw [hm.out]; exact crc_of s s.size), hm.out, take_all]; rfl), rfl⟩

/-- The reference's bit by bit: n bits of c. -/
def rb : Nat → Nat → Nat → Nat
  | 0, r, _ => r
  | n + 1, r, c => rb n (if r % 2 = c % 2 then r / 2 else r / 2 ^^^ 3988292384) (c / 2)
def csn : Nat → Nat → Nat
  | 0, x => x
  | n + 1, x => csn n (cs x)
theorem xor_lc (a b c : Nat) : (a ^^^ b) ^^^ c = (a ^^^ c) ^^^ b := by rw [Nat.xor_assoc, Nat.xor_comm b c, ← Nat.xor_assoc]
theorem rb_cs : ∀ (n r c : Nat), c < 2 ^ n → rb n r c = csn n (r ^^^ c)
  | 0, r, c, h => by
    obtain rfl : c = 0 := by simpa using h
    rw [Nat.xor_zero]; rfl
  | n + 1, r, c, h => by
    rw [rb, rb_cs n _ _ (by rw [Nat.pow_succ] at h; omega), csn]
    congr 1
    unfold cs
    rw [half_xor, par_xor]
    have h1 : r % 2 = 0 ∨ r % 2 = 1 := by omega
    have h2 : c % 2 = 0 ∨ c % 2 = 1 := by omega
    rcases h1 with h1 | h1 <;> rcases h2 with h2 | h2 <;> rw [h1, h2] <;> simp [xor_lc (r / 2) 3988292384]
theorem rb8 (r : Nat) (c : UInt8) : rb 8 r c.toNat = crcS r c := by
  rw [rb_cs 8 r _ c.toNat_lt]; rfl
theorem rb_lt : ∀ {r c : Nat}, r < 4294967296 → (if r % 2 = c % 2 then r / 2 else r / 2 ^^^ 3988292384) < 4294967296 := by
  intro r c h
  split
  · omega
  · exact Nat.xor_lt_two_pow (n := 32) (by omega) (by decide)

set_option maxRecDepth 100000 in
set_option maxHeartbeats 1000000 in
theorem rcrc_any (s : ByteArray) (hs : s.size ≤ 9223372036854775807) (w : World) : Calls Tryd.prog 13 #[.string s] w fun e w' => e = .returned (.int .u64 (sum s.data.toList)) ∧ w = w' := by
  go_enter Tryd.func13, Tryd.ntmps13
  go_wp2
  go_loop [3, 4] (fun r i => ∃ k m : Nat, k ≤ s.size ∧ i = .int .i64 k ∧ r = .int .u64 m ∧ m ≤ 4294967295 ∧ Hid (m = crc 4294967295 (s.data.toList.take k))) (fun _ i => s.size - (intOf i).toNat)
  case atStart => exact ⟨0, 4294967295, by omega, rfl, rfl, by decide, Lib.hid rfl⟩
  case round =>
    obtain ⟨k, m, hk, rfl, rfl, hm1, hm⟩ := hrel
    by_cases hlt : k < s.size
    · have hb : Hid (rb 8 m s[k].toNat = crc 4294967295 (s.data.toList.take (k + 1))) := Lib.hid (by rw [rb8, crc_step s k hlt, ← hm.out])
      have hks : (k : Int) < s.size := by omega
      have hc1 : (s[k].toNat : Int) < 256 := by have := s[k].toNat_lt; omega
      clear hm
      obtain ⟨T, hTT⟩ : ∃ T, crc 4294967295 (s.data.toList.take (k + 1)) = T := ⟨_, rfl⟩
      rw [hTT] at hb
      have HTT := Lib.hid hTT
      clear hTT
      go_wp2_with fail
      go_loop [3, 5, 6] (fun r c j => ∃ n a b : Nat, n ≤ 8 ∧ j = .int .i64 n ∧ r = .int .u64 a ∧ c = .int .u64 b ∧ a ≤ 4294967295 ∧ b ≤ 255 ∧ Hid (rb (8 - n) a b = T)) (fun _ _ j => 8 - (intOf j).toNat)
      case atStart => exact ⟨0, m, s[k].toNat, by omega, rfl, rfl, rfl, hm1, by have := s[k].toNat_lt; omega, hb⟩
      case round =>
        obtain ⟨n, a, b, hn, rfl, rfl, rfl, ha, hb1, hT⟩ := hrel
        by_cases hn8 : n < 8
        · have hN : Hid (rb (8 - (n + 1)) (if a % 2 = b % 2 then a / 2 else a / 2 ^^^ 3988292384) (b / 2) = T) := Lib.hid (by
            have e : 8 - n = (8 - (n + 1)) + 1 := by omega
            rw [← hT.out, e]; rfl)
          have hL : (if a % 2 = b % 2 then a / 2 else a / 2 ^^^ 3988292384) < 4294967296 := rb_lt (by omega)
          by_cases he : a % 2 = b % 2
          · rw [if_pos he] at hN hL
            clear hT
            have hd : decide (a % 2 = b % 2) = true := decide_eq_true he
            go_wp2_with fail
            go_round
            case rel => exact ⟨n + 1, a / 2, b / 2, by omega, by go_num, by go_num, by go_num, by omega, by omega, hN⟩
            case measure => simp [intOf]; omega
          · rw [if_neg he] at hN hL
            have hx := u64_xor_nat (a / 2) 3988292384 (by omega) (by decide)
            have hx2 : bits BinOp.xor .u64 ((a : Int) / 2) 3988292384 = ((a / 2 ^^^ 3988292384 : Nat) : Int) := by rw [← hx]; congr 1
            generalize a / 2 ^^^ 3988292384 = q at *
            clear hT hx
            go_wp2_with fail
            go_round
            case rel => exact ⟨n + 1, q, b / 2, by omega, by go_num, by first | rfl | rw [hx2], by go_num, by omega, by omega, hN⟩
            case measure => simp [intOf]; omega
        · obtain rfl : n = 8 := by omega
          go_wp2_with fail
          go_round
          case rel => exact ⟨k + 1, a, by omega, by go_num, rfl, ha, Lib.hid (by rw [HTT.out]; exact hT.out)⟩
          case measure => simp [intOf]; omega
    · obtain rfl : k = s.size := by omega
      go_wp2
      go_ret
      exact ⟨ret_i (by rw [hm.out, take_all]; have := crc_of s s.size; rw [take_all] at this; unfold sum; omega), rfl⟩
end Go.Proofs.YtkkbapgpjfehhaaDoor.DigA
