/- The walk of DigestOpens. -/
import Derived.Test.YtkkbapgpjfehhaaDoorDigX
import Derived.Test.YtkkbapgpjfehhaaDoorByc
set_option linter.unusedSimpArgs false
set_option linter.unusedVariables false
namespace Go.Proofs.YtkkbapgpjfehhaaDoor.DigestOpensW
open Go.RowKit Dld Nums VarM FixM Byt BytT Byc DigM DigH DigA DigB DigC DigE DigX

/-- What both Opens give is what both Seals make again. -/
theorem plain (l : List UInt8) : (openL l).2 ≠ 0 ∨ sealL (openL l).1 = l := by
  by_cases h : (openL l).2 = 0
  · exact .inr (seal_open (by rw [← h]))
  · exact .inl h
theorem open_len (l : List UInt8) : (openL l).1.length ≤ l.length := by
  unfold openL
  split
  · simp
  · split
    · simp
    · simp

set_option maxRecDepth 100000 in
set_option maxHeartbeats 1000000 in
theorem walk (s : ByteArray) (hs : s.size ≤ 140737488351232) (w : World) (hL : Ld w) : Calls Tryd.prog 4 #[.string s] w fun e w' => e = .returned (.bool true) ∧ Below w.heap.size w w' := by
  have HA := Lib.hid fun w hL => awake_any w hL
  by_cases h3 : 3000 < s.size
  · go_enter Tryd.func4, Tryd.ntmps4
    go_wp2_with (go_at_call 9; refine (HA.out _ (by assumption)).mono ?_; rintro _ wa ⟨rfl, hba⟩)
    go_ret
    exact ⟨rfl, hba⟩
  · have H1 := fun w hL => open_any s (by omega) w hL
    have H2 := fun w => ropen_any s (by omega) w
    have H3 := Lib.hid fun w hL => seal_any s (by omega) w hL
    have H4 := Lib.hid fun w => rseal_any s (by omega) w
    have hp := plain s.data.toList
    have hlen := open_len s.data.toList
    have hl : s.data.toList.length = s.size := rfl
    obtain ⟨t, ht⟩ : ∃ t : ByteArray, t = ⟨(openL s.data.toList).1.toArray⟩ := ⟨_, rfl⟩
    have htl : t.data.toList = (openL s.data.toList).1 := by rw [ht]
    have hts : t.size ≤ 3000 := by have : t.data.toList.length = t.size := rfl; rw [htl] at this; omega
    have H5 := fun w hL => seal_any t (by omega) w hL
    rw [← ht] at H1 H2
    rw [← htl] at hp
    generalize (openL s.data.toList).2 = x at *
    have H1 := Lib.hid H1
    have H2 := Lib.hid H2
    have hc0 : (t.toList == t.toList) = true := beq_self_eq_true _
    have hc1 : ((⟨(sealL s.data.toList).toArray⟩ : ByteArray).toList == (⟨(sealL s.data.toList).toArray⟩ : ByteArray).toList) = true := beq_self_eq_true _
    generalize (⟨(sealL s.data.toList).toArray⟩ : ByteArray) = u at *
    obtain ⟨q, hq⟩ : ∃ q : ByteArray, q = ⟨(sealL t.data.toList).toArray⟩ := ⟨_, rfl⟩
    have hql : q.data.toList = sealL t.data.toList := by rw [hq]
    rw [← hq] at H5
    rw [← hql] at hp
    have H5 := Lib.hid H5
    clear hq hql ht htl hlen hl
    by_cases hx : x = 0
    · subst hx
      have hc2 : (q.toList == s.toList) = true := same_yes (hp.resolve_left (by simp))
      clear hp
      go_enter Tryd.func4, Tryd.ntmps4
      go_wp2_with fail
      refine (H1.out _ hL).mono ?_
      rintro _ w1 ⟨rfl, hb1⟩
      have hL1 := hL.below hb1
      go_wp2_with fail
      refine (H2.out _).mono ?_
      rintro _ w2 ⟨rfl, hb2⟩
      have hL2 := hL1.below hb2
      go_wp2_with fail
      refine (H3.out _ hL2).mono ?_
      rintro _ w3 ⟨rfl, hb3⟩
      have hL3 := hL2.below hb3
      go_wp2_with fail
      refine (H4.out _).mono ?_
      rintro _ w4 ⟨rfl, hb4⟩
      have hL4 := hL3.below hb4
      go_wp2_with fail
      refine (H5.out _ hL4).mono ?_
      rintro _ w5 ⟨rfl, hb5⟩
      have hL5 := hL4.below hb5
      go_wp2_with (go_at_call 9; refine (HA.out _ (by assumption)).mono ?_; rintro _ wa ⟨rfl, hba⟩)
      go_ret
      exact ⟨rfl, below_trans (below_trans (below_trans (below_trans (below_trans hb1 hb2) hb3) hb4) hb5) hba⟩
    · have hd : (x == 0) = false := by simpa using hx
      have hd2 : decide (x = 0) = false := by simpa using hx
      clear hp H5
      go_enter Tryd.func4, Tryd.ntmps4
      go_wp2_with fail
      refine (H1.out _ hL).mono ?_
      rintro _ w1 ⟨rfl, hb1⟩
      have hL1 := hL.below hb1
      go_wp2_with fail
      refine (H2.out _).mono ?_
      rintro _ w2 ⟨rfl, hb2⟩
      have hL2 := hL1.below hb2
      go_wp2_with fail
      refine (H3.out _ hL2).mono ?_
      rintro _ w3 ⟨rfl, hb3⟩
      have hL3 := hL2.below hb3
      go_wp2_with fail
      refine (H4.out _).mono ?_
      rintro _ w4 ⟨rfl, hb4⟩
      have hL4 := hL3.below hb4
      go_wp2_with (go_at_call 9; refine (HA.out _ (by assumption)).mono ?_; rintro _ wa ⟨rfl, hba⟩)
      go_ret
      exact ⟨rfl, below_trans (below_trans (below_trans (below_trans hb1 hb2) hb3) hb4) hba⟩
end Go.Proofs.YtkkbapgpjfehhaaDoor.DigestOpensW
