/- The reference's Text and Parse. -/
import Derived.Test.YtkkbapgpjfehhaaDoorDigH
import Derived.Test.YtkkbapgpjfehhaaDoorNums
import Derived.Test.YtkkbapgpjfehhaaDoorRows
import Derived.WalkKit
import Derived.ProofKit
import Derived.WalkSmall
import Derived.BigGuard
import Derived.Laws.BitsAllLaws
import Derived.Lib.Hide
set_option linter.unusedSimpArgs false
set_option linter.unusedVariables false
namespace Go.Proofs.YtkkbapgpjfehhaaDoor.DigR
open Go.RowKit Nums DigH

theorem cut16f : ∀ k : Fin 16, (⟨#[48, 49, 50, 51, 52, 53, 54, 55, 56, 57, 97, 98, 99, 100, 101, 102]⟩ : ByteArray).extract k.val (k.val + 1) = ⟨#[hxd k.val]⟩ := by decide
theorem cut16 {r : Nat} (h : r < 16) : (⟨#[48, 49, 50, 51, 52, 53, 54, 55, 56, 57, 97, 98, 99, 100, 101, 102]⟩ : ByteArray).extract r (r + 1) = ⟨#[hxd r]⟩ := cut16f ⟨r, h⟩
theorem front (c : UInt8) (s : ByteArray) : (⟨#[c]⟩ : ByteArray) ++ s = ⟨(c :: s.data.toList).toArray⟩ := by
  apply ByteArray.ext; simp
theorem ret_s {a b : ByteArray} (h : a = b) : Ending.returned (.string a) = .returned (.string b) := by rw [h]
theorem ret_up {a b : Int} {x y : Int} (h : a = b) (k : x = y) : Ending.returned (.tuple #[.int .u64 a, .int .i64 x]) = .returned (.tuple #[.int .u64 b, .int .i64 y]) := by rw [h, k]

set_option maxRecDepth 100000 in
set_option maxHeartbeats 1000000 in
theorem rtext_any (u : Nat) (hu : u ≤ 18446744073709551615) (w : World) : Calls Tryd.prog 23 #[.int .u64 u] w fun e w' => e = .returned (.string ⟨(hex16 u).toArray⟩) ∧ w = w' := by
  go_enter Tryd.func23, Tryd.ntmps23
  go_wp2
  go_loop [0, 4, 5] (fun x s i => ∃ (k q : Nat) (D : ByteArray), i = .int .i64 k ∧ k ≤ 16 ∧ x = .int .u64 q ∧ q ≤ 18446744073709551615 ∧ s = .string D ∧ D.size = k ∧ Hid (hexN 16 u = hexN (16 - k) q ++ D.data.toList)) (fun _ _ i => 16 - (intOf i).toNat)
  case atStart => exact ⟨0, u, ⟨#[]⟩, rfl, by omega, rfl, hu, rfl, rfl, Lib.hid (by simp)⟩
  case round =>
    obtain ⟨k, q, D, rfl, hk, rfl, hq, rfl, hD, hh⟩ := hrel
    by_cases hlt : k < 16
    · obtain ⟨r, hr⟩ : ∃ r, q % 16 = r := ⟨_, rfl⟩
      have hr16 : r < 16 := by omega
      have hri : (q : Int) % 16 = (r : Int) := by omega
      have hcut := cut16 hr16
      have hri2 : IntKind.u64.wrap ((r : Int) + 1) = ((r + 1 : Nat) : Int) := by rw [IntKind.wrap_u64]; omega
      have hn : Hid (hexN 16 u = hexN (16 - (k + 1)) (q / 16) ++ ((⟨#[hxd r]⟩ : ByteArray) ++ D).data.toList) := Lib.hid (by
        rw [hh.out, front, show 16 - k = (16 - (k + 1)) + 1 by omega, hexN, hr, List.append_assoc]; rfl)
      have hz : ((⟨#[hxd r]⟩ : ByteArray) ++ D).size = k + 1 := by rw [front, size_mk, List.length_cons]; exact congrArg (· + 1) hD
      clear hh hr
      generalize hgx : (⟨#[hxd r]⟩ : ByteArray) = X at *
      have hX : X.size = 1 := by rw [← hgx]; rfl
      clear hgx
      go_wp2_with fail
      go_round
      case rel => exact ⟨k + 1, q / 16, X ++ D, by go_num, by omega, by go_num, by omega, rfl, hz, hn⟩
      case measure => simp [intOf]; omega
    · obtain rfl : k = 16 := by omega
      have hf : Hid (hex16 u = D.data.toList) := Lib.hid (by show hexN 16 u = _; rw [hh.out]; simp [hexN])
      clear hh
      go_wp2
      go_ret
      exact ⟨ret_s (by rw [hf.out]), rfl⟩

set_option maxRecDepth 100000 in
set_option maxHeartbeats 1000000 in
theorem rparse_any (s : ByteArray) (hs : s.size ≤ 9223372036854775807) (w : World) : Calls Tryd.prog 22 #[.string s] w fun e w' => e = .returned (.tuple #[.int .u64 (parP s.data.toList).1, .int .i64 (parP s.data.toList).2]) ∧ w = w' := by
  have hl : s.data.toList.length = s.size := rfl
  by_cases h16 : s.size = 16
  · have hp : Hid (∀ v, par 0 s.data.toList = some v → parP s.data.toList = (v, 0)) := Lib.hid fun v hv => parP_some (by omega) hv
    have hq : Hid (par 0 s.data.toList = none → parP s.data.toList = (0, 2)) := Lib.hid fun hv => parP_none hv
    obtain ⟨r, hr⟩ : ∃ r, parP s.data.toList = r := ⟨_, rfl⟩
    rw [hr] at hp hq ⊢
    clear hr
    have HB : Hid (∀ k (h : k < s.size), s.data.toList.drop k = s[k] :: s.data.toList.drop (k + 1)) := Lib.hid fun k h => List.drop_eq_getElem_cons (by omega)
    obtain ⟨bs, hbs⟩ : ∃ bs, bs = s.data.toList := ⟨_, rfl⟩
    have hbl : Hid (bs.length = 16) := Lib.hid (by rw [hbs, hl]; exact h16)
    rw [← hbs] at hp hq HB
    clear hbs hl
    go_enter Tryd.func22, Tryd.ntmps22
    go_wp2
    go_loop [4, 5] (fun x i => ∃ (k acc : Nat) (a : Int), i = .int .i64 k ∧ k ≤ 16 ∧ x = .int .u64 a ∧ Hid (a = (acc : Int) ∧ acc < 16 ^ k ∧ par 0 bs = par acc (bs.drop k))) (fun _ i => 16 - (intOf i).toNat)
    case atStart => exact ⟨0, 0, 0, rfl, by omega, rfl, Lib.hid ⟨rfl, by omega, rfl⟩⟩
    case round =>
      obtain ⟨k, acc, a, rfl, hk, rfl, hh⟩ := hrel
      obtain ⟨ha, hacc, hdec⟩ := hh.out
      clear hh
      by_cases hlt : k < 16
      · have hks : k < s.size := by omega
        have hpow : 16 ^ (k + 1) ≤ 16 ^ 16 := Nat.pow_le_pow_right (by decide) (by omega)
        have hps : 16 ^ (k + 1) = 16 ^ k * 16 := Nat.pow_succ 16 k
        have a0 : 0 ≤ a := by omega
        have a1 : a < 1152921504606846976 := by omega
        rw [HB.out k hks, par] at hdec
        have hgc : s[k].toNat < 256 := s[k].toNat_lt
        obtain ⟨c, hc⟩ : ∃ c, s[k] = c := ⟨_, rfl⟩
        rw [hc] at hdec hgc
        clear HB hbl
        by_cases hd : 48 ≤ c.toNat ∧ c.toNat ≤ 57
        · have hv : digv c = some (c.toNat - 48) := by unfold digv; rw [if_pos hd]
          rw [hv] at hdec
          obtain ⟨d, hde⟩ : ∃ d, c.toNat - 48 = d := ⟨_, rfl⟩
          rw [hde] at hdec
          have hdi : (c.toNat : Int) - 48 = (d : Int) := by omega
          have HN : Hid (a * 16 + (d : Int) = ((acc * 16 + d : Nat) : Int) ∧ acc * 16 + d < 16 ^ (k + 1) ∧ par 0 bs = par (acc * 16 + d) (bs.drop (k + 1))) := Lib.hid ⟨by omega, by omega, hdec⟩
          have hm : IntKind.u64.wrap (a * 16) = a * 16 := by rw [IntKind.wrap_u64]; omega
          have hm2 : IntKind.u64.wrap (a * 16 + (d : Int)) = a * 16 + (d : Int) := by rw [IntKind.wrap_u64]; omega
          obtain ⟨hd0, hd1⟩ := hd
          clear hdec ha hacc hv hp hq hpow hps
          go_wp2_with fail
          go_round
          case rel => exact ⟨k + 1, acc * 16 + d, a * 16 + (d : Int), by go_num, by omega, by first | rfl | (congr 1; omega), HN⟩
          case measure => simp [intOf]; omega
        · by_cases he : 97 ≤ c.toNat ∧ c.toNat ≤ 102
          · have hv : digv c = some (c.toNat - 87) := by unfold digv; rw [if_neg hd, if_pos he]
            rw [hv] at hdec
            obtain ⟨d, hde⟩ : ∃ d, c.toNat - 87 = d := ⟨_, rfl⟩
            rw [hde] at hdec
            obtain ⟨d', hdi⟩ : ∃ d' : Nat, (c.toNat : Int) - 97 = (d' : Int) := ⟨c.toNat - 97, by omega⟩
            have hdd : d' < 6 := by omega
            have HN : Hid (a * 16 + (d' : Int) + 10 = ((acc * 16 + d : Nat) : Int) ∧ acc * 16 + d < 16 ^ (k + 1) ∧ par 0 bs = par (acc * 16 + d) (bs.drop (k + 1))) := Lib.hid ⟨by omega, by omega, hdec⟩
            have hm : IntKind.u64.wrap (a * 16) = a * 16 := by rw [IntKind.wrap_u64]; omega
            have hm2 : IntKind.u64.wrap (a * 16 + (d' : Int)) = a * 16 + (d' : Int) := by rw [IntKind.wrap_u64]; omega
            have hm3 : IntKind.u64.wrap (a * 16 + (d' : Int) + 10) = a * 16 + (d' : Int) + 10 := by rw [IntKind.wrap_u64]; omega
            obtain ⟨he0, he1⟩ := he
            clear hdec ha hacc hv hp hq hpow hps hd
            go_wp2_with fail
            go_round
            case rel => exact ⟨k + 1, acc * 16 + d, a * 16 + (d' : Int) + 10, by go_num, by omega, by first | rfl | (congr 1; omega), HN⟩
            case measure => simp [intOf]; omega
          · have hv : digv c = none := by unfold digv; rw [if_neg hd, if_neg he]
            rw [hv] at hdec
            have hf : Hid (r = (0, 2)) := Lib.hid (hq.out hdec)
            clear hdec ha hacc hv hp hq hpow hps
            go_wp2_with fail
            all_goals first | omega | skip
            all_goals go_ret2
            all_goals exact ⟨ret_up (by rw [hf.out]; rfl) (by rw [hf.out]), rfl⟩
      · obtain rfl : k = 16 := by omega
        have hf : Hid (r = (acc, 0)) := Lib.hid (hp.out acc (by rw [hdec, List.drop_eq_nil_of_le (by rw [hbl.out]; omega)]; rfl))
        clear hdec hacc hp hq HB
        have HA := Lib.hid ha
        clear ha
        go_wp2
        go_ret2
        exact ⟨ret_up (by rw [hf.out, HA.out]) (by rw [hf.out]), rfl⟩
  · have hr := Lib.hid (parP_len (l := s.data.toList) (by omega))
    go_enter Tryd.func22, Tryd.ntmps22
    go_wp2
    go_ret2
    exact ⟨ret_up (by rw [hr.out]; rfl) (by rw [hr.out]), rfl⟩
end Go.Proofs.YtkkbapgpjfehhaaDoor.DigR
