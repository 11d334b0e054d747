/- The walk of DigestSums. -/
import Derived.Test.YtkkbapgpjfehhaaDoorDigX
import Derived.Test.YtkkbapgpjfehhaaDoorByc
import Derived.Deep.RegionHeld3
set_option linter.unusedSimpArgs false
set_option linter.unusedVariables false
namespace Go.Proofs.YtkkbapgpjfehhaaDoor.DigestSumsW
open Go.RowKit Dld Nums VarM FixM Byt BytT Byc DigM DigH DigA DigB DigC DigE DigX

set_option maxRecDepth 100000 in
set_option maxHeartbeats 4000000 in
theorem walk (s : ByteArray) (a b : Nat) (hs : s.size ≤ 140737488351232) (ha : a ≤ 18446744073709551615) (hb : b ≤ 18446744073709551615) (w : World) (hL : Ld w) : Calls Tryd.prog 3 #[.string s, .int .u64 a, .int .u64 b] w fun e w' => e = .returned (.bool true) ∧ Below w.heap.size w w' := by
  have HA := Lib.hid fun w hL => awake_any w hL
  by_cases h3 : 3000 < s.size
  · go_enter Tryd.func3, Tryd.ntmps3
    go_wp2_with (go_at_call 9; refine (HA.out _ (by assumption)).mono ?_; rintro _ wa ⟨rfl, hba⟩)
    go_ret
    exact ⟨rfl, hba⟩
  have H1 := Lib.hid fun w => fnv_any s (by omega) w
  have H2 := Lib.hid fun w => rfnv_any s (by omega) w
  have H3 := Lib.hid fun w hL => crc_any s (by omega) w hL
  have H4 := Lib.hid fun w => rcrc_any s (by omega) w
  have H5 := Lib.hid fun w => mix_any a b w
  have H6 := Lib.hid fun w => rmix_any a b ha hb w
  obtain ⟨t, ht⟩ : ∃ t : ByteArray, t = ⟨(fix 8 a ++ fix 8 b).toArray⟩ := ⟨_, rfl⟩
  have h7 := fun w => fnv_any t (by rw [ht, size_mk, List.length_append, fix_length, fix_length]; decide) w
  rw [show fnv fnv0 t.data.toList = mixN a b by rw [ht]; rfl] at h7
  have H7 := Lib.hid h7
  have HT := Lib.hid ht
  clear h7 ht
  generalize mixN a b = mm at *
  generalize fnv fnv0 s.data.toList = m1 at *
  generalize sum s.data.toList = m2 at *
  go_enter Tryd.func3, Tryd.ntmps3
  go_wp2_with fail
  go_loopw [7, 8] (fun v i wr => ∃ (k : Nat) (l : List UInt8), i = .int .i64 k ∧ k ≤ 8 ∧ OwnB wr w.heap.size 5 v l ∧ Below w.heap.size w wr ∧ Hid (l = fix k a)) (fun _ i _ => 8 - (intOf i).toNat)
  case atStart => exact ⟨0, [], rfl, by omega, OwnB.nil _ _ _, Below.refl _ _, Lib.hid rfl⟩
  case round =>
    obtain ⟨k, l, rfl, hk, hown, hbel, hl⟩ := hrel
    have hsz := hbel.size
    by_cases hlt : k < 8
    · have Hx := Lib.hid (fix_shift k a)
      have hn : Hid (l ++ [UInt8.ofNat (a / 256 ^ k % 256)] = fix (k + 1) a) := Lib.hid (by rw [fix_snoc, hl.out])
      have hll : l.length ≤ 8 := by rw [hl.out, fix_length]; omega
      clear hl
      go_wp2_with (at_builtin; refine wpList_append_byte rfl _ _ bytesT rfl w.heap.size _ l rfl (hown.alloc _) wr.heap.size _ ((a : Int) / 2 ^ (8 * k) % 256) (UInt8.ofNat (a / 256 ^ k % 256)) rfl ?_ ?d1 ?d2 ?d3 ?d4; intro v' w1 hown1 hg1)
      case d1 => exact cell_new _ _ _
      case d2 => exact Hx.out
      case d3 => omega
      case d4 => exact size_alloc hsz
      refine ⟨⟨k + 1, _, by go_num, by omega, hown1, (hown.alloc _).below (hbel.alloc hsz _) hg1 (size_alloc hsz), hn⟩, ?_⟩
      simp [intOf]; omega
    · have hl8 : Hid (l = fix 8 a ++ fix 0 b) := Lib.hid (by rw [hl.out, show k = 8 by omega]; simp [fix])
      go_wp2_with fail
      go_loopw [7, 9] (fun v i wr => ∃ (k : Nat) (l : List UInt8), i = .int .i64 k ∧ k ≤ 8 ∧ OwnB wr w.heap.size 5 v l ∧ Below w.heap.size w wr ∧ Hid (l = fix 8 a ++ fix k b)) (fun _ i _ => 8 - (intOf i).toNat)
      case atStart => exact ⟨0, l, rfl, by omega, hown, hbel, hl8⟩
      case round =>
        clear hl hl8 hown hbel hsz
        obtain ⟨k, l, rfl, hk, hown, hbel, hl⟩ := hrel
        have hsz := hbel.size
        by_cases hlt : k < 8
        · have Hx := Lib.hid (fix_shift k b)
          have hn : Hid (l ++ [UInt8.ofNat (b / 256 ^ k % 256)] = fix 8 a ++ fix (k + 1) b) := Lib.hid (by rw [fix_snoc k b, hl.out, List.append_assoc])
          have hll : l.length ≤ 16 := by rw [hl.out, List.length_append, fix_length, fix_length]; omega
          clear hl
          go_wp2_with (at_builtin; refine wpList_append_byte rfl _ _ bytesT rfl w.heap.size _ l rfl (hown.alloc _) wr.heap.size _ ((b : Int) / 2 ^ (8 * k) % 256) (UInt8.ofNat (b / 256 ^ k % 256)) rfl ?_ ?e1 ?e2 ?e3 ?e4; intro v' w1 hown1 hg1)
          case e1 => exact cell_new _ _ _
          case e2 => exact Hx.out
          case e3 => omega
          case e4 => exact size_alloc hsz
          refine ⟨⟨k + 1, _, by go_num, by omega, hown1, (hown.alloc _).below (hbel.alloc hsz _) hg1 (size_alloc hsz), hn⟩, ?_⟩
          simp [intOf]; omega
        · obtain rfl : k = 8 := by omega
          have hcv := fun (w2 : World) (h : Below wr.heap.size wr w2) => (OwnC.below (OwnC.ofB hown) h).conv bytesT Tryd.underlying9
          rw [hl.out, ← HT.out] at hcv
          have HCV := Lib.hid hcv
          have hB : Below w.heap.size w wr.drew := hbel.drew
          have hW : Below wr.heap.size wr wr.drew := (Below.refl _ _).drew
          have hL := (hL.below hbel).drew
          clear hcv hown hbel hl HT
          go_wp2_with fail
          go_region_held3 (fun w' => (convert 24 9 u7).run Tryd.prog w' = .ok (.string t) w') (exact HCV.out _ hW) (first
            | (go_at_call_of 10 (Value.string s); refine (H1.out _).mono ?_; rintro _ wx ⟨rfl, rfl⟩)
            | (go_at_call_of 10 (Value.string t); refine (H7.out _).mono ?_; rintro _ wx ⟨rfl, rfl⟩)
            | (go_at_call 11; refine (H2.out _).mono ?_; rintro _ wx ⟨rfl, rfl⟩)
            | (go_at_call 12; refine (H3.out _ hL).mono ?_; rintro _ wx ⟨rfl, rfl⟩)
            | (go_at_call 13; refine (H4.out _).mono ?_; rintro _ wx ⟨rfl, rfl⟩)
            | (go_at_call 14; refine (H5.out _).mono ?_; rintro _ wx ⟨rfl, hbx⟩; have hB := below_trans hB hbx; have hW := below_trans hW hbx; have hL := hL.below hbx)
            | (go_at_call 15; refine (H6.out _).mono ?_; rintro _ wx ⟨rfl, hbx⟩; have hB := below_trans hB hbx; have hW := below_trans hW hbx; have hL := hL.below hbx)
            | (go_at_call 9; refine (HA.out _ hL).mono ?_; rintro _ wx ⟨rfl, hbx⟩; have hB := below_trans hB hbx; have hW := below_trans hW hbx))
          all_goals
            go_wp2_with fail
            go_ret
            exact ⟨rfl, hB⟩
end Go.Proofs.YtkkbapgpjfehhaaDoor.DigestSumsW
