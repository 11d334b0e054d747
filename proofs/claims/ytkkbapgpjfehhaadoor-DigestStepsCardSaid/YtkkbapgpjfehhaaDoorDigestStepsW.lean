/- The walk of DigestSteps. -/
import Derived.Test.YtkkbapgpjfehhaaDoorDigX
import Derived.Test.YtkkbapgpjfehhaaDoorByc
set_option linter.unusedSimpArgs false
set_option linter.unusedVariables false
namespace Go.Proofs.YtkkbapgpjfehhaaDoor.DigestStepsW
open Go.RowKit Dld Nums VarM FixM Byt BytT Byc DigM DigH DigA DigB DigC DigE DigX

set_option maxRecDepth 100000 in
set_option maxHeartbeats 1000000 in
theorem walk (s : ByteArray) (b : Nat) (hs : s.size ≤ 140737488351232) (hb : b ≤ 255) (w : World) (hL : Ld w) : Calls Tryd.prog 8 #[.string s, .int .u8 b] w fun e w' => e = .returned (.bool true) ∧ Below w.heap.size w w' := by
  have HA := Lib.hid fun w hL => awake_any w hL
  by_cases h3 : 3000 < s.size
  · go_enter Tryd.func8, Tryd.ntmps8
    go_wp2_with (go_at_call 9; refine (HA.out _ (by assumption)).mono ?_; rintro _ wa ⟨rfl, hba⟩)
    go_ret
    exact ⟨rfl, hba⟩
  · obtain ⟨c, hc⟩ : ∃ c : UInt8, (b : Int) = (c.toNat : Int) := ⟨UInt8.ofNat b, by rw [toNat_ofNat (by omega)]⟩
    rw [hc]
    clear hc hb
    have hq : ((⟨#[c]⟩ : ByteArray)).size = 1 := rfl
    have hcv := conv_cells (w := w.alloc (.cells #[.int .u8 (c.toNat : Int)] 5)) bytesT Tryd.underlying9 w.heap.size 1 1 [c] rfl (by
      intro i hi
      obtain rfl : i = 0 := by simpa using hi
      exact cell_new _ _ _)
    have h1 := fun w => fnv_any s (by omega) w
    have h2 := fun w => fnv_any (s ++ ⟨#[c]⟩) (by rw [ByteArray.size_append, hq]; omega) w
    have e2 : fnv fnv0 (s ++ (⟨#[c]⟩ : ByteArray)).data.toList = fnvS (fnv fnv0 s.data.toList) c := by
      rw [append_toList, fnv_snoc]
    rw [e2] at h2
    have hm : fnv fnv0 s.data.toList < 18446744073709551616 := fnv_lt _ _ (by decide)
    have hop := fnv_op (fnv fnv0 s.data.toList) c hm
    have h3' := fun w => fnv_any ⟨#[]⟩ (by decide) w
    rw [show fnv fnv0 (⟨#[]⟩ : ByteArray).data.toList = 14695981039346656037 from rfl] at h3'
    generalize fnvS (fnv fnv0 s.data.toList) c = m' at *
    generalize fnv fnv0 s.data.toList = m at *
    have H1 := Lib.hid h1
    have H2 := Lib.hid h2
    have H3 := Lib.hid h3'
    have hLA := hL.below ((Below.refl _ w).alloc (Nat.le_refl _) (.cells #[.int .u8 (c.toNat : Int)] 5))
    have hc1 : (c.toNat : Int) < 256 := by have := c.toNat_lt; omega
    clear h1 h2 h3' e2 hm
    go_enter Tryd.func8, Tryd.ntmps8
    go_wp2_with fail
    refine (H2.out _).mono ?_
    rintro _ w1 ⟨rfl, rfl⟩
    go_wp2_with fail
    refine (H1.out _).mono ?_
    rintro _ w1 ⟨rfl, rfl⟩
    go_wp2_with fail
    refine (H3.out _).mono ?_
    rintro _ w1 ⟨rfl, rfl⟩
    go_wp2_with (go_at_call 9; refine (HA.out _ (by assumption)).mono ?_; rintro _ wa ⟨rfl, hba⟩)
    go_ret
    exact ⟨rfl, below_trans ((Below.refl _ w).alloc (Nat.le_refl _) _) hba⟩
end Go.Proofs.YtkkbapgpjfehhaaDoor.DigestStepsW
