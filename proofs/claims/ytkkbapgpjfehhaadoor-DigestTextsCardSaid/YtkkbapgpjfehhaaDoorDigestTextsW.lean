/- The walk of DigestTexts. -/
import Derived.Test.YtkkbapgpjfehhaaDoorDigX
import Derived.Test.YtkkbapgpjfehhaaDoorByc
set_option linter.unusedSimpArgs false
set_option linter.unusedVariables false
namespace Go.Proofs.YtkkbapgpjfehhaaDoor.DigestTextsW
open Go.RowKit Dld Nums VarM FixM Byt BytT Byc DigM DigH DigA DigB DigC DigE DigX

set_option maxRecDepth 100000 in
set_option maxHeartbeats 2000000 in
theorem walk (u : Nat) (s : ByteArray) (hu : u ≤ 18446744073709551615) (hs : s.size ≤ 140737488351232) (w : World) (hL : Ld w) : Calls Tryd.prog 5 #[.int .u64 u, .string s] w fun e w' => e = .returned (.bool true) ∧ Below w.heap.size w w' := by
  have HA := Lib.hid fun w hL => awake_any w hL
  have h1 := fun w hL => DigE.text_any u hu w hL
  have h2 := fun w => DigR.rtext_any u hu w
  have h3 := fun w hL => DigQ.parse_any ⟨(hex16 u).toArray⟩ (by rw [size_mk, hex16_len]; decide) w hL
  rw [show (⟨(hex16 u).toArray⟩ : ByteArray).data.toList = hex16 u from rfl, parP_text hu] at h3
  have h4 := fun w hL => DigQ.parse_any s (by omega) w hL
  have h5 := fun w => DigR.rparse_any s (by omega) w
  obtain ⟨t, ht⟩ : ∃ t : ByteArray, t = ⟨(hex16 u).toArray⟩ := ⟨_, rfl⟩
  rw [← ht] at h1 h2 h3
  have hc0 : (t.toList == t.toList) = true := beq_self_eq_true _
  have H1 := Lib.hid h1
  have H2 := Lib.hid h2
  have H3 := Lib.hid h3
  have hp : ∀ v : Nat, parP s.data.toList = (v, 0) → v ≤ 18446744073709551615 ∧ hex16 v = s.data.toList := fun v h => ⟨parP_lt h, parP_back h⟩
  obtain ⟨v, x, hvx⟩ : ∃ v x, parP s.data.toList = (v, x) := ⟨_, _, rfl⟩
  rw [hvx] at h4 h5 hp
  simp only at h4 h5
  have H4 := Lib.hid h4
  have H5 := Lib.hid h5
  clear h1 h2 h3 h4 h5 ht hvx
  by_cases hx : x = 0
  · subst hx
    obtain ⟨hv, hh⟩ := hp v rfl
    have h6 := fun w hL => DigE.text_any v hv w hL
    obtain ⟨q, hq⟩ : ∃ q : ByteArray, q = ⟨(hex16 v).toArray⟩ := ⟨_, rfl⟩
    have hc2 : (q.toList == s.toList) = true := same_yes (by rw [hq]; exact hh)
    rw [← hq] at h6
    have H6 := Lib.hid h6
    clear hp h6 hq hh hv
    go_enter Tryd.func5, Tryd.ntmps5
    go_wp2_with fail
    refine (H1.out _ hL).mono ?_
    rintro _ w1 ⟨rfl, hb1⟩
    have hL1 := hL.below hb1
    go_wp2_with fail
    refine (H3.out _ hL1).mono ?_
    rintro _ w2 ⟨rfl, hb2⟩
    have hL2 := hL1.below hb2
    go_wp2_with fail
    refine (H4.out _ hL2).mono ?_
    rintro _ w3 ⟨rfl, hb3⟩
    have hL3 := hL2.below hb3
    go_wp2_with fail
    refine (H5.out _).mono ?_
    rintro _ w3b ⟨rfl, rfl⟩
    go_wp2_with fail
    refine (H1.out _ hL3).mono ?_
    rintro _ w4 ⟨rfl, hb4⟩
    have hL4 := hL3.below hb4
    go_wp2_with fail
    refine (H2.out _).mono ?_
    rintro _ w4b ⟨rfl, rfl⟩
    go_wp2_with fail
    refine (H6.out _ hL4).mono ?_
    rintro _ w5 ⟨rfl, hb5⟩
    have hL5 := hL4.below hb5
    go_wp2_with (go_at_call 9; refine (HA.out _ (by assumption)).mono ?_; rintro _ wa ⟨rfl, hba⟩)
    go_ret
    exact ⟨rfl, below_trans (below_trans (below_trans (below_trans (below_trans hb1 hb2) hb3) hb4) hb5) hba⟩
  · have hd : (x == 0) = false := by simpa using hx
    have hd2 : decide (x = 0) = false := by simpa using hx
    clear hp
    go_enter Tryd.func5, Tryd.ntmps5
    go_wp2_with fail
    refine (H1.out _ hL).mono ?_
    rintro _ w1 ⟨rfl, hb1⟩
    have hL1 := hL.below hb1
    go_wp2_with fail
    refine (H3.out _ hL1).mono ?_
    rintro _ w2 ⟨rfl, hb2⟩
    have hL2 := hL1.below hb2
    go_wp2_with fail
    refine (H4.out _ hL2).mono ?_
    rintro _ w3 ⟨rfl, hb3⟩
    have hL3 := hL2.below hb3
    go_wp2_with fail
    refine (H5.out _).mono ?_
    rintro _ w3b ⟨rfl, rfl⟩
    go_wp2_with fail
    refine (H1.out _ hL3).mono ?_
    rintro _ w4 ⟨rfl, hb4⟩
    have hL4 := hL3.below hb4
    go_wp2_with fail
    refine (H2.out _).mono ?_
    rintro _ w4b ⟨rfl, rfl⟩
    go_wp2_with (go_at_call 9; refine (HA.out _ (by assumption)).mono ?_; rintro _ wa ⟨rfl, hba⟩)
    go_ret
    exact ⟨rfl, below_trans (below_trans (below_trans (below_trans hb1 hb2) hb3) hb4) hba⟩
end Go.Proofs.YtkkbapgpjfehhaaDoor.DigestTextsW
