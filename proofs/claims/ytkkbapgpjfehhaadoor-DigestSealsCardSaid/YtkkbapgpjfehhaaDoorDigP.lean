/- The library's ParseUint at base 16 and 64 bits. -/
import Derived.Test.YtkkbapgpjfehhaaDoorDld
import Derived.Test.YtkkbapgpjfehhaaDoorDigH
import Derived.Test.YtkkbapgpjfehhaaDoorNums
import Derived.Test.YtkkbapgpjfehhaaDoorShelf
import Derived.Lib.ConvBytes
import Derived.Lib.AtoiAllMem
import Derived.Laws.BitsAllLaws
import Derived.Laws.Strings3
import Derived.Lib.Hide
import Derived.BigGuard
set_option linter.unusedSimpArgs false
set_option linter.unusedVariables false
namespace Go.Proofs.YtkkbapgpjfehhaaDoor.DigP
open Go.RowKit Dld Nums DigH

def puT : Pu → Value
  | .ok n => .tuple #[.int .u64 n, .nilIface]
  | .syn => .tuple #[.int .u64 0, .iface 64 (.int .i64 2)]
  | .rng => .tuple #[.int .u64 18446744073709551615, .iface 64 (.int .i64 1)]

/-- How the walk sorts a byte that is no digit of ten. -/
theorem lower_ways (c : UInt8) (h : ¬ (48 ≤ c.toNat ∧ c.toNat ≤ 57)) : ∃ lo : Nat, lo < 256 ∧ bits BinOp.or .u8 (c.toNat : Int) 32 = (lo : Int) ∧
    ((97 ≤ lo ∧ lo ≤ 102 ∧ c.toNat ≠ 95 ∧ hexv c = some (lo - 87)) ∨ (103 ≤ lo ∧ lo ≤ 122 ∧ c.toNat ≠ 95 ∧ hexv c = none) ∨ ((lo < 97 ∨ 122 < lo) ∧ hexv c = none)) := by
  have hb : ∀ k : Fin 256, ¬ (48 ≤ k.val ∧ k.val ≤ 57) → (k.val ||| 32) < 256 ∧
      ((97 ≤ (k.val ||| 32) ∧ (k.val ||| 32) ≤ 102 ∧ k.val ≠ 95 ∧ hexv (UInt8.ofNat k.val) = some ((k.val ||| 32) - 87)) ∨ (103 ≤ (k.val ||| 32) ∧ (k.val ||| 32) ≤ 122 ∧ k.val ≠ 95 ∧ hexv (UInt8.ofNat k.val) = none) ∨ (((k.val ||| 32) < 97 ∨ 122 < (k.val ||| 32)) ∧ hexv (UInt8.ofNat k.val) = none)) := by decide +kernel
  have h1 := hb ⟨c.toNat, c.toNat_lt⟩ h
  have e : UInt8.ofNat c.toNat = c := by simp
  simp only [e] at h1
  exact ⟨c.toNat ||| 32, h1.1, u8_or_nat c.toNat 32 c.toNat_lt (by decide), h1.2⟩
theorem digit_way (c : UInt8) (h : 48 ≤ c.toNat ∧ c.toNat ≤ 57) : hexv c = some (c.toNat - 48) := by unfold hexv; rw [if_pos h]

set_option maxHeartbeats 8000000 in
set_option maxRecDepth 100000 in
theorem puI_any (t : ByteArray) (hne : t.size ≠ 0) (hmax : t.size ≤ 9223372036854775806) (w : World) :
    Calls Tryd.prog 30 #[.string t, .int .i64 16, .int .i64 64] w fun e w' => e = .returned (puT (pu 0 t.data.toList)) ∧ w' = Lib.bytesWorld w 5 t := by
  have HLW := Lib.hid fun (c : Int) w => Tryd.internal_strconv_lower c w
  have hemp : t.toList.isEmpty = false := empty_no hne
  have hcv := Lib.run_convert_string_bytes (P := Tryd.prog) w 9 24 5 t (u := .string) Tryd.underlying9 Tryd.underlying24 Tryd.underlying5
  have hB : ∀ j, j < t.size → (Lib.bytesWorld w 5 t).cell? ⟨w.heap.size, j, none⟩ = some (.int .u8 (t.data.toList.getD j 0).toNat) := fun j hj => Lib.bytesWorld_cell w 5 t j hj
  obtain ⟨W1, hW1⟩ : ∃ W1, W1 = Lib.bytesWorld w 5 t := ⟨_, rfl⟩
  rw [← hW1] at hcv hB ⊢
  clear hW1
  obtain ⟨bs, hL⟩ : ∃ bs, bs = t.data.toList := ⟨_, rfl⟩
  have hLn : bs.length = t.size := by rw [hL]; rfl
  rw [← hL] at hB ⊢
  clear hL
  have hmv : IntKind.u64.wrap (IntKind.u64.wrap 18446744073709551616 - 1) = 18446744073709551615 := by
    rw [IntKind.wrap_u64, IntKind.wrap_u64]
    decide
  go_enter Tryd.func30, Tryd.ntmps30
  go_wp2
  go_loop [12, 13, 101] (fun vu vn vi => ∃ (k acc : Nat) (a : Int), vu = .bool false ∧ vn = .int .u64 a ∧ vi = .int .i64 k ∧ k ≤ t.size ∧ Hid (a = (acc : Int) ∧ acc < 18446744073709551616 ∧ pu 0 bs = pu acc (bs.drop k)))
    (fun _ _ vi => t.size - (intOf vi).toNat)
  case atStart => exact ⟨0, 0, 0, rfl, rfl, rfl, by omega, rfl, by omega, rfl⟩
  case round =>
    obtain ⟨k, acc, a, rfl, rfl, rfl, hk, hh⟩ := hrel
    obtain ⟨ha, hacc, hdec⟩ := hh.out
    clear hh
    have a0 : 0 ≤ a := by omega
    have a1 : a < 18446744073709551616 := by omega
    by_cases hkn : k < t.size
    · have hc := hB k hkn
      have hdrop : bs.drop k = bs[k]'(by omega) :: bs.drop (k + 1) := List.drop_eq_getElem_cons (by omega)
      have hget : bs.getD k 0 = bs[k]'(by omega) := by simp [List.getD, List.getElem?_eq_getElem (show k < bs.length by omega)]
      rw [hdrop] at hdec
      rw [hget] at hc
      generalize bs[k]'(by omega) = c at hc hdec
      have hc256 : c.toNat < 256 := c.toNat_lt
      clear hB hdrop hget
      by_cases hdig : 48 ≤ c.toNat ∧ c.toNat ≤ 57
      · have hv := digit_way c hdig
        obtain ⟨hd0, hd1⟩ := hdig
        obtain ⟨d, hde⟩ : ∃ d, c.toNat - 48 = d := ⟨_, rfl⟩
        rw [hde] at hv
        have hdi : (c.toNat : Int) - 48 = (d : Int) := by omega
        by_cases hcut : 1152921504606846976 ≤ acc
        · have hF : pu acc (c :: bs.drop (k + 1)) = .rng := by rw [pu, hv]; simp only [hcut, if_true]
          have hres := Lib.hid (hdec.trans hF)
          have icut : 1152921504606846976 ≤ a := by omega
          clear hcut hacc hF ha hv hdec
          go_wp2_with fail
          all_goals go_ret2
          all_goals exact ⟨by rw [hres.out]; rfl, rfl⟩
        · have hF : pu acc (c :: bs.drop (k + 1)) = pu (acc * 16 + d) (bs.drop (k + 1)) := by rw [pu, hv]; simp only [hcut, if_false]
          have hd := hexv_lt hv
          have HN : Hid (a * 16 + (d : Int) = ((acc * 16 + d : Nat) : Int) ∧ acc * 16 + d < 18446744073709551616 ∧ pu 0 bs = pu (acc * 16 + d) (bs.drop (k + 1))) := Lib.hid ⟨by omega, by omega, hdec.trans hF⟩
          have icut : a < 1152921504606846976 := by omega
          have iov : a * 16 + (d : Int) < 18446744073709551616 := by omega
          have hm : IntKind.u64.wrap (a * 16) = a * 16 := by rw [IntKind.wrap_u64]; omega
          have hm2 : IntKind.u64.wrap (a * 16 + (d : Int)) = a * 16 + (d : Int) := by rw [IntKind.wrap_u64]; omega
          clear hcut hacc hF hdec ha hv
          go_wp2_with fail
          all_goals refine ⟨⟨k + 1, acc * 16 + d, a * 16 + (d : Int), rfl, (by first | rfl | (congr 1; omega)), (by first | rfl | (congr 1; omega)), by omega, HN⟩, by simp [intOf]; omega⟩
      · obtain ⟨lo, hlo2, hlo, ways⟩ := lower_ways c hdig
        rcases ways with ⟨l1, l2, l3, hv⟩ | ⟨l1, l2, l3, hv⟩ | ⟨l1, hv⟩
        · obtain ⟨d, hde⟩ : ∃ d, lo - 87 = d := ⟨_, rfl⟩
          rw [hde] at hv
          have hdi : (lo : Int) - 97 + 10 = (d : Int) := by omega
          by_cases hcut : 1152921504606846976 ≤ acc
          · have hF : pu acc (c :: bs.drop (k + 1)) = .rng := by rw [pu, hv]; simp only [hcut, if_true]
            have hres := Lib.hid (hdec.trans hF)
            have icut : 1152921504606846976 ≤ a := by omega
            clear hcut hacc hF ha hv hdec
            go_wp2_with (first | (go_at_call 39; refine (HLW.out _ _).mono ?_; rintro e w' ⟨rfl, rfl⟩; try simp only [hlo]))
            all_goals go_ret2
            all_goals exact ⟨by rw [hres.out]; rfl, rfl⟩
          · have hF : pu acc (c :: bs.drop (k + 1)) = pu (acc * 16 + d) (bs.drop (k + 1)) := by rw [pu, hv]; simp only [hcut, if_false]
            have hd := hexv_lt hv
            have HN : Hid (a * 16 + (d : Int) = ((acc * 16 + d : Nat) : Int) ∧ acc * 16 + d < 18446744073709551616 ∧ pu 0 bs = pu (acc * 16 + d) (bs.drop (k + 1))) := Lib.hid ⟨by omega, by omega, hdec.trans hF⟩
            have icut : a < 1152921504606846976 := by omega
            have iov : a * 16 + (d : Int) < 18446744073709551616 := by omega
            have hm : IntKind.u64.wrap (a * 16) = a * 16 := by rw [IntKind.wrap_u64]; omega
            have hm2 : IntKind.u64.wrap (a * 16 + (d : Int)) = a * 16 + (d : Int) := by rw [IntKind.wrap_u64]; omega
            clear hcut hacc hF hdec ha hv
            go_wp2_with (first | (go_at_call 39; refine (HLW.out _ _).mono ?_; rintro e w' ⟨rfl, rfl⟩; try simp only [hlo]))
            all_goals refine ⟨⟨k + 1, acc * 16 + d, a * 16 + (d : Int), rfl, (by first | rfl | (congr 1; omega)), (by first | rfl | (congr 1; omega)), by omega, HN⟩, by simp [intOf]; omega⟩
        · have hF : pu acc (c :: bs.drop (k + 1)) = .syn := by rw [pu, hv]
          have hres := Lib.hid (hdec.trans hF)
          clear hacc hF ha hv hdec
          go_wp2_with (first | (go_at_call 39; refine (HLW.out _ _).mono ?_; rintro e w' ⟨rfl, rfl⟩; try simp only [hlo]))
          all_goals go_ret2
          all_goals exact ⟨by rw [hres.out]; rfl, rfl⟩
        · have hF : pu acc (c :: bs.drop (k + 1)) = .syn := by rw [pu, hv]
          have hres := Lib.hid (hdec.trans hF)
          clear hacc hF ha hv hdec
          go_wp2_with (first | (go_at_call 39; refine (HLW.out _ _).mono ?_; rintro e w' ⟨rfl, rfl⟩; try simp only [hlo]))
          all_goals go_ret2
          all_goals exact ⟨by rw [hres.out]; rfl, rfl⟩
    · have hkk : k = t.size := by omega
      subst hkk
      have hF : pu acc (bs.drop t.size) = .ok acc := by rw [List.drop_eq_nil_of_le (by omega)]; rfl
      rw [hF] at hdec
      subst ha
      clear hacc hF a0 a1
      have hres := Lib.hid hdec
      clear hdec
      go_wp2
      go_ret2
      exact ⟨by rw [hres.out]; rfl, rfl⟩
end Go.Proofs.YtkkbapgpjfehhaaDoor.DigP
