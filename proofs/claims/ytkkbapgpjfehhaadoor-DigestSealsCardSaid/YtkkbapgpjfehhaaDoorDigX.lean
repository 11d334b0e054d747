/- The statements' own examples (awake). -/
import Derived.Test.YtkkbapgpjfehhaaDoorDigC
import Derived.Test.YtkkbapgpjfehhaaDoorDigQ
import Derived.Test.YtkkbapgpjfehhaaDoorDigR
set_option linter.unusedSimpArgs false
set_option linter.unusedVariables false
namespace Go.Proofs.YtkkbapgpjfehhaaDoor.DigX
open Go.RowKit Dld Nums DigM DigH DigA DigB DigC DigQ DigE

theorem aw1 : fnv fnv0 [97] = 12638187200555641996 := by decide +kernel
theorem aw2 : sum [49, 50, 51, 52, 53, 54, 55, 56, 57] = 3421780262 := by decide +kernel
theorem aw3 : hex16 255 = [48, 48, 48, 48, 48, 48, 48, 48, 48, 48, 48, 48, 48, 48, 102, 102] := by
  rw [← hex16_pad (by decide), hexd_large (by decide), hexd_small (by decide)]
  decide +kernel
theorem aw4 : parP [48, 48, 48, 48, 48, 48, 48, 48, 48, 48, 48, 48, 48, 48, 102, 102] = (255, 0) := by
  rw [← aw3]; exact parP_text (by decide)

set_option maxRecDepth 100000 in
set_option maxHeartbeats 1000000 in
theorem awake_any (w : World) (hL : Ld w) : Calls Tryd.prog 9 #[] w fun e w' => e = .returned (.bool true) ∧ Below w.heap.size w w' := by
  have h1 := fun w hL => parse_any ⟨#[48, 48, 48, 48, 48, 48, 48, 48, 48, 48, 48, 48, 48, 48, 102, 102]⟩ (by decide) w hL
  rw [show (⟨#[48, 48, 48, 48, 48, 48, 48, 48, 48, 48, 48, 48, 48, 48, 102, 102]⟩ : ByteArray).data.toList = [48, 48, 48, 48, 48, 48, 48, 48, 48, 48, 48, 48, 48, 48, 102, 102] from rfl, aw4] at h1
  have h2 := fun w => fnv_any ⟨#[97]⟩ (by decide) w
  rw [show (⟨#[97]⟩ : ByteArray).data.toList = [97] from rfl, aw1] at h2
  have h3 := fun w hL => crc_any ⟨#[49, 50, 51, 52, 53, 54, 55, 56, 57]⟩ (by decide) w hL
  rw [show (⟨#[49, 50, 51, 52, 53, 54, 55, 56, 57]⟩ : ByteArray).data.toList = [49, 50, 51, 52, 53, 54, 55, 56, 57] from rfl, aw2] at h3
  have h4 := fun w hL => text_any 255 (by decide) w hL
  rw [aw3] at h4
  have H1 := Lib.hid h1
  have H2 := Lib.hid h2
  have H3 := Lib.hid h3
  have H4 := Lib.hid h4
  clear h1 h2 h3 h4
  have hc : ((⟨#[48, 48, 48, 48, 48, 48, 48, 48, 48, 48, 48, 48, 48, 48, 102, 102]⟩ : ByteArray).toList == (⟨#[48, 48, 48, 48, 48, 48, 48, 48, 48, 48, 48, 48, 48, 48, 102, 102]⟩ : ByteArray).toList) = true := beq_self_eq_true _
  go_enter Tryd.func9, Tryd.ntmps9
  go_wp2_with fail
  refine (H1.out _ hL).mono ?_
  rintro _ w1 ⟨rfl, hb1⟩
  have hL1 := hL.below hb1
  go_wp2_with (first
    | (go_at_call 10; refine (H2.out _).mono ?_; rintro _ w2 ⟨rfl, rfl⟩)
    | (go_at_call 12; refine (H3.out _ hL1).mono ?_; rintro _ w3 ⟨rfl, rfl⟩)
    | (go_at_call 21; refine (H4.out _ hL1).mono ?_; rintro _ w4 ⟨rfl, hb4⟩))
  go_ret
  exact ⟨rfl, below_trans hb1 hb4⟩
end Go.Proofs.YtkkbapgpjfehhaaDoor.DigX
