/- Contracts of decimal and rank of the reference of package scalar. -/
import Derived.Test.YtgjbpadhdnclnaaGreatDoorScaB
import Derived.Test.YtgjbpadhdnclnaaGreatDoorUtfK
set_option linter.unusedSimpArgs false
set_option linter.unusedVariables false
namespace Go.Proofs.YtgjbpadhdnclnaaGreatDoor.ScaD
open Go.RowKit Nums Byt UtfM UtfS ScaM ScaV ScaA ScaB

theorem conv_int (W : World) (x : Int) (c : UInt8) (h : x = (c.toNat : Int)) : (convert 64 9 (.slice (some ⟨W.heap.size, 0, none⟩) 1 1)).run Tryz.prog (W.alloc (.cells #[.int .u8 x] 5)) = .ok (.string ⟨#[c]⟩) (W.alloc (.cells #[.int .u8 x] 5)) := by
  subst h
  exact UtfK.conv_new W c
theorem dig_nat (k : Nat) : (48 : Int) + (k : Int) % 10 = ((UInt8.ofNat (48 + k % 10)).toNat : Int) := by
  rw [UInt8.toNat_ofNat']; omega
theorem dec_len20 {u : Nat} (hu : u ≤ 18446744073709551615) : (dec u).length ≤ 20 := dec_len 19 u (by omega)
/-- The digits before the last one. -/
def decI (k : Nat) : List UInt8 := if k < 10 then [] else dec (k / 10)
theorem dec_split (k : Nat) : dec k = decI k ++ [UInt8.ofNat (48 + k % 10)] := by
  unfold decI
  by_cases h : k < 10
  · rw [if_pos h, dec_small h, Nat.mod_eq_of_lt h]; rfl
  · rw [if_neg h, dec_large h]

set_option maxHeartbeats 1000000 in
set_option maxRecDepth 100000 in
theorem decimal_any (u : Nat) (hu : u ≤ 18446744073709551615) (w : World) :
    Calls Tryz.prog 24 #[.int .u64 u] w fun e w' => e = .returned (.string ⟨(dec u).toArray⟩) ∧ Below w.heap.size w w' := by
  have hlen := dec_len20 hu
  have Hlen := Lib.hid hlen
  obtain ⟨c0, hc0⟩ : ∃ c, c = UInt8.ofNat (48 + u % 10) := ⟨_, rfl⟩
  have hx0 : (48 : Int) + (u : Int) % 10 = (c0.toNat : Int) := by rw [hc0]; exact dig_nat u
  have hs0 : dec u = decI u ++ [c0] := by rw [hc0]; exact dec_split u
  have Hs0 := Lib.hid hs0
  have hcv0 := fun W => conv_int W _ c0 hx0
  clear hc0 hs0 hlen
  have Hx0 := Lib.hid hx0
  clear hx0
  go_enter Tryz.func24, Tryz.ntmps24
  go_wp2_with fail
  go_loopw [0, 3] (fun x v wr => ∃ (k : Nat) (T : ByteArray), k ≤ 18446744073709551615 ∧ x = .int .u64 k ∧ v = .string T ∧ Below w.heap.size w wr ∧ Hid (dec u = decI k ++ T.data.toList)) (fun x _ _ => (intOf x).toNat)
  case atStart => exact ⟨u, ⟨#[c0]⟩, hu, rfl, rfl, below_box _ _, Hs0⟩
  case round =>
    obtain ⟨k, T, hk, rfl, rfl, hbel, Hd⟩ := hrel
    have hT : T.size + 1 ≤ 9223372036854775807 := by
      have h1 := congrArg List.length Hd.out
      have h2 := Hlen.out
      rw [List.length_append] at h1
      have h3 : T.data.toList.length = T.size := rfl
      omega
    clear hcv0
    by_cases hlt : 10 ≤ k
    · have d1 : decide ((10 : Int) ≤ k) = true := by simp; omega
      obtain ⟨c, hc⟩ : ∃ c, c = UInt8.ofNat (48 + k / 10 % 10) := ⟨_, rfl⟩
      have hx : (48 : Int) + (k : Int) / 10 % 10 = (c.toNat : Int) := by
        rw [hc]
        have := dig_nat (k / 10)
        rw [← this]
        simp
      have hn : dec u = decI (k / 10) ++ (c :: T.data.toList) := by
        rw [Hd.out, hc]
        have h1 : decI k = dec (k / 10) := by unfold decI; rw [if_neg (by omega)]
        rw [h1, dec_split (k / 10), List.append_assoc]
        rfl
      have Hn := Lib.hid hn
      have hcv := fun W => conv_int W _ c hx
      have Hx := Lib.hid hx
      have hT2 : (⟨#[c]⟩ : ByteArray).size + T.size ≤ 9223372036854775807 := by show 1 + T.size ≤ _; omega
      clear hc hn hx
      go_wp2_with fail
      refine ⟨⟨k / 10, _, by omega, by go_num, rfl, hbel.alloc hbel.size _, Lib.hid ?_⟩, by simp [intOf]; omega⟩
      rw [Hn.out, append_toList]
      rfl
    · have d1 : decide ((10 : Int) ≤ k) = false := by simp; omega
      go_wp2_with fail
      go_ret
      refine ⟨BytT.ret_str ?_, hbel⟩
      have h1 := Hd.out
      unfold decI at h1
      rw [if_pos (by omega), List.nil_append] at h1
      rw [← mk_toList T, h1]

theorem u64_mod (x : Int) : IntKind.u64.wrap x = x % 18446744073709551616 := by
  rw [IntKind.wrap_u64]
theorem wrap_up (b : Nat) : IntKind.u64.wrap ((b : Int) + 9223372036854775808) = (((b + sgnN) % 18446744073709551616 : Nat) : Int) := by
  rw [u64_mod]; unfold sgnN; omega
theorem wrap_down {b : Nat} (hb : b ≤ 18446744073709551615) : IntKind.u64.wrap (18446744073709551615 - (b : Int)) = ((18446744073709551615 - b : Nat) : Int) := by
  rw [u64_mod]; omega
theorem ret_u64 {a b : Int} (h : a = b) : Ending.returned (.int .u64 a) = .returned (.int .u64 b) := by rw [h]
end Go.Proofs.YtgjbpadhdnclnaaGreatDoor.ScaD
