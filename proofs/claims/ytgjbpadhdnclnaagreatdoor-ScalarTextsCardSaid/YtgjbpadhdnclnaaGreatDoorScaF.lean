/- The contract of Text of the reference of package scalar. -/
import Derived.Test.YtgjbpadhdnclnaaGreatDoorScaC
import Derived.Test.YtgjbpadhdnclnaaGreatDoorScaE
set_option linter.unusedSimpArgs false
set_option linter.unusedVariables false
namespace Go.Proofs.YtgjbpadhdnclnaaGreatDoor.ScaF
open Go.RowKit Nums Byt UtfM UtfS UtfQ ScaM ScaV ScaA ScaB ScaC ScaD ScaE

theorem fits_kind {k : Int} {v : Sc} (h : fitsB k v = true) : 1 ≤ k ∧ k ≤ 9 := by
  unfold fitsB isB at h
  simp only [Bool.and_eq_true, decide_eq_true_eq] at h
  omega
theorem fits_len {k : Int} {v : Sc} (h : fitsB k v = true) (ht : txB k = true) : v.t.length ≤ 4096 := by
  unfold fitsB at h
  rw [if_pos ht] at h
  simp only [Bool.and_eq_true, decide_eq_true_eq] at h
  exact h.2.1.2
theorem neg_up {b : Nat} (h : sgnN ≤ b) (hb : b ≤ 18446744073709551615) : IntKind.u64.wrap (-(b : Int)) = ((18446744073709551616 - b : Nat) : Int) := by
  rw [u64_mod]; unfold sgnN at h; omega
theorem put1 (c : UInt8) (l : List UInt8) : (⟨#[c]⟩ : ByteArray) ++ ⟨l.toArray⟩ = ⟨(c :: l).toArray⟩ := by
  rw [← mk_toList ((⟨#[c]⟩ : ByteArray) ++ ⟨l.toArray⟩), append_toList]; rfl
theorem put2 (c d : UInt8) (l : List UInt8) : (⟨#[c, d]⟩ : ByteArray) ++ ⟨l.toArray⟩ = ⟨(c :: d :: l).toArray⟩ := by
  rw [← mk_toList ((⟨#[c, d]⟩ : ByteArray) ++ ⟨l.toArray⟩), append_toList]; rfl

set_option maxHeartbeats 2000000 in
set_option maxRecDepth 100000 in
theorem text_any (v : SV) (hb : v.b ≤ 18446744073709551615) (w : World) : Calls Tryz.prog 8 #[vv v] w fun e w' => e = .returned (.string ⟨(textV (sc v)).toArray⟩) ∧ Below w.heap.size w w' := by
  obtain ⟨k, b, t, a1, l1, c1, a2, l2, c2, a3, l3, c3, a4, l4, c4⟩ := v
  simp only [vv]
  simp only at hb
  cases hfit : fitsB k (sc ⟨k, b, t, a1, l1, c1, a2, l2, c2, a3, l3, c3, a4, l4, c4⟩) with
  | false =>
    have ht : textV (sc ⟨k, b, t, a1, l1, c1, a2, l2, c2, a3, l3, c3, a4, l4, c4⟩) = [] := by unfold textV; rw [show (sc ⟨k, b, t, a1, l1, c1, a2, l2, c2, a3, l3, c3, a4, l4, c4⟩).k = k from rfl, hfit]; rfl
    rw [ht]
    have Hfit := Lib.hid hfit
    clear hfit ht
    go_enter Tryz.func8, Tryz.ntmps8
    go_wp2_with fail
    refine (fits_any _ ⟨k, b, t, a1, l1, c1, a2, l2, c2, a3, l3, c3, a4, l4, c4⟩ hb _).mono ?_
    rintro _ w1 ⟨rfl, hb1⟩
    rw [Hfit.out]
    obtain ⟨lc, lf⟩ := bcell hb1
    go_wp2_with fail
    go_ret
    exact ⟨rfl, bt (below_box _ _) hb1⟩
  | true =>
    have hk := fits_kind hfit
    rcases (by omega : k = 1 ∨ k = 2 ∨ k = 3 ∨ k = 4 ∨ k = 5 ∨ k = 6 ∨ k = 7 ∨ k = 8 ∨ k = 9) with rfl | rfl | rfl | rfl | rfl | rfl | rfl | rfl | rfl
    · by_cases h1 : b = 1
      · have e1 : ((b : Int) == 1) = true := by simp [h1]
        have ht : textV (sc ⟨1, b, t, a1, l1, c1, a2, l2, c2, a3, l3, c3, a4, l4, c4⟩) = [116, 114, 117, 101] := by unfold textV; rw [show (sc ⟨1, b, t, a1, l1, c1, a2, l2, c2, a3, l3, c3, a4, l4, c4⟩).k = 1 from rfl, hfit]; simp [sc, *]
        rw [ht]
        clear ht
        have Hfit := Lib.hid hfit
        clear hfit hk
        clear h1
        go_enter Tryz.func8, Tryz.ntmps8
        go_wp2_with fail
        refine (fits_any _ ⟨1, b, t, a1, l1, c1, a2, l2, c2, a3, l3, c3, a4, l4, c4⟩ hb _).mono ?_
        rintro _ w1 ⟨rfl, hb1⟩
        rw [Hfit.out]
        obtain ⟨lc, lf⟩ := bcell hb1
        go_wp2_with fail
        go_ret
        exact ⟨rfl, bt (below_box _ _) hb1⟩
      · have e1 : ((b : Int) == 1) = false := by rw [beq_eq_false_iff_ne]; omega
        have ht : textV (sc ⟨1, b, t, a1, l1, c1, a2, l2, c2, a3, l3, c3, a4, l4, c4⟩) = [102, 97, 108, 115, 101] := by unfold textV; rw [show (sc ⟨1, b, t, a1, l1, c1, a2, l2, c2, a3, l3, c3, a4, l4, c4⟩).k = 1 from rfl, hfit]; simp [sc, *]
        rw [ht]
        clear ht
        have Hfit := Lib.hid hfit
        clear hfit hk
        clear h1
        go_enter Tryz.func8, Tryz.ntmps8
        go_wp2_with fail
        refine (fits_any _ ⟨1, b, t, a1, l1, c1, a2, l2, c2, a3, l3, c3, a4, l4, c4⟩ hb _).mono ?_
        rintro _ w1 ⟨rfl, hb1⟩
        rw [Hfit.out]
        obtain ⟨lc, lf⟩ := bcell hb1
        go_wp2_with fail
        go_ret
        exact ⟨rfl, bt (below_box _ _) hb1⟩
    · by_cases h1 : sgnN ≤ b
      · have d1 : decide ((9223372036854775808 : Int) ≤ b) = true := by simp only [decide_eq_true_eq]; unfold sgnN at h1; omega
        have hneg := neg_up h1 hb
        have Hneg := Lib.hid hneg
        clear hneg
        have hbb : 0 < b := by unfold sgnN at h1; omega
        have ht : textV (sc ⟨2, b, t, a1, l1, c1, a2, l2, c2, a3, l3, c3, a4, l4, c4⟩) = 45 :: ScaM.dec (18446744073709551616 - b) := by unfold textV; rw [show (sc ⟨2, b, t, a1, l1, c1, a2, l2, c2, a3, l3, c3, a4, l4, c4⟩).k = 2 from rfl, hfit]; simp [sc, *]
        rw [ht]
        clear ht
        have Hfit := Lib.hid hfit
        clear hfit hk
        clear h1
        obtain ⟨D, hD⟩ : ∃ D : ByteArray, D = ⟨(ScaM.dec (18446744073709551616 - b)).toArray⟩ := ⟨_, rfl⟩
        have hDs : 1 + D.size ≤ 9223372036854775807 := by rw [hD, size_mk]; have := dec_len20 (u := 18446744073709551616 - b) (by omega); omega
        have HD := Lib.hid hD
        clear hD
        go_enter Tryz.func8, Tryz.ntmps8
        go_wp2_with fail
        refine (fits_any _ ⟨2, b, t, a1, l1, c1, a2, l2, c2, a3, l3, c3, a4, l4, c4⟩ hb _).mono ?_
        rintro _ w1 ⟨rfl, hb1⟩
        rw [Hfit.out]
        obtain ⟨lc, lf⟩ := bcell hb1
        go_wp2_with fail
        rw [Hneg.out]
        refine (decimal_any (18446744073709551616 - b) (by omega) _).mono ?_
        rintro _ w2 ⟨rfl, hb2⟩
        rw [← HD.out]
        go_wp2_with fail
        go_ret
        exact ⟨BytT.ret_str (by rw [HD.out, put1]), bt (bt (below_box _ _) hb1) hb2⟩
      · have d1 : decide ((9223372036854775808 : Int) ≤ b) = false := by simp only [decide_eq_false_iff_not]; unfold sgnN at h1; omega
        have ht : textV (sc ⟨2, b, t, a1, l1, c1, a2, l2, c2, a3, l3, c3, a4, l4, c4⟩) = ScaM.dec b := by unfold textV; rw [show (sc ⟨2, b, t, a1, l1, c1, a2, l2, c2, a3, l3, c3, a4, l4, c4⟩).k = 2 from rfl, hfit]; simp [sc, *]
        rw [ht]
        clear ht
        have Hfit := Lib.hid hfit
        clear hfit hk
        clear h1
        obtain ⟨D, hD⟩ : ∃ D : ByteArray, D = ⟨(ScaM.dec (b)).toArray⟩ := ⟨_, rfl⟩
        have hDs : 1 + D.size ≤ 9223372036854775807 := by rw [hD, size_mk]; have := dec_len20 (u := b) (by omega); omega
        have HD := Lib.hid hD
        clear hD
        go_enter Tryz.func8, Tryz.ntmps8
        go_wp2_with fail
        refine (fits_any _ ⟨2, b, t, a1, l1, c1, a2, l2, c2, a3, l3, c3, a4, l4, c4⟩ hb _).mono ?_
        rintro _ w1 ⟨rfl, hb1⟩
        rw [Hfit.out]
        obtain ⟨lc, lf⟩ := bcell hb1
        go_wp2_with fail
        refine (decimal_any (b) (by omega) _).mono ?_
        rintro _ w2 ⟨rfl, hb2⟩
        rw [← HD.out]
        go_wp2_with fail
        go_ret
        exact ⟨BytT.ret_str HD.out, bt (bt (below_box _ _) hb1) hb2⟩
    · by_cases h1 : sgnN ≤ b
      · have d1 : decide ((9223372036854775808 : Int) ≤ b) = true := by simp only [decide_eq_true_eq]; unfold sgnN at h1; omega
        have hneg := neg_up h1 hb
        have Hneg := Lib.hid hneg
        clear hneg
        have hbb : 0 < b := by unfold sgnN at h1; omega
        have ht : textV (sc ⟨3, b, t, a1, l1, c1, a2, l2, c2, a3, l3, c3, a4, l4, c4⟩) = 45 :: ScaM.dec (18446744073709551616 - b) := by unfold textV; rw [show (sc ⟨3, b, t, a1, l1, c1, a2, l2, c2, a3, l3, c3, a4, l4, c4⟩).k = 3 from rfl, hfit]; simp [sc, *]
        rw [ht]
        clear ht
        have Hfit := Lib.hid hfit
        clear hfit hk
        clear h1
        obtain ⟨D, hD⟩ : ∃ D : ByteArray, D = ⟨(ScaM.dec (18446744073709551616 - b)).toArray⟩ := ⟨_, rfl⟩
        have hDs : 1 + D.size ≤ 9223372036854775807 := by rw [hD, size_mk]; have := dec_len20 (u := 18446744073709551616 - b) (by omega); omega
        have HD := Lib.hid hD
        clear hD
        go_enter Tryz.func8, Tryz.ntmps8
        go_wp2_with fail
        refine (fits_any _ ⟨3, b, t, a1, l1, c1, a2, l2, c2, a3, l3, c3, a4, l4, c4⟩ hb _).mono ?_
        rintro _ w1 ⟨rfl, hb1⟩
        rw [Hfit.out]
        obtain ⟨lc, lf⟩ := bcell hb1
        go_wp2_with fail
        rw [Hneg.out]
        refine (decimal_any (18446744073709551616 - b) (by omega) _).mono ?_
        rintro _ w2 ⟨rfl, hb2⟩
        rw [← HD.out]
        go_wp2_with fail
        go_ret
        exact ⟨BytT.ret_str (by rw [HD.out, put1]), bt (bt (below_box _ _) hb1) hb2⟩
      · have d1 : decide ((9223372036854775808 : Int) ≤ b) = false := by simp only [decide_eq_false_iff_not]; unfold sgnN at h1; omega
        have ht : textV (sc ⟨3, b, t, a1, l1, c1, a2, l2, c2, a3, l3, c3, a4, l4, c4⟩) = ScaM.dec b := by unfold textV; rw [show (sc ⟨3, b, t, a1, l1, c1, a2, l2, c2, a3, l3, c3, a4, l4, c4⟩).k = 3 from rfl, hfit]; simp [sc, *]
        rw [ht]
        clear ht
        have Hfit := Lib.hid hfit
        clear hfit hk
        clear h1
        obtain ⟨D, hD⟩ : ∃ D : ByteArray, D = ⟨(ScaM.dec (b)).toArray⟩ := ⟨_, rfl⟩
        have hDs : 1 + D.size ≤ 9223372036854775807 := by rw [hD, size_mk]; have := dec_len20 (u := b) (by omega); omega
        have HD := Lib.hid hD
        clear hD
        go_enter Tryz.func8, Tryz.ntmps8
        go_wp2_with fail
        refine (fits_any _ ⟨3, b, t, a1, l1, c1, a2, l2, c2, a3, l3, c3, a4, l4, c4⟩ hb _).mono ?_
        rintro _ w1 ⟨rfl, hb1⟩
        rw [Hfit.out]
        obtain ⟨lc, lf⟩ := bcell hb1
        go_wp2_with fail
        refine (decimal_any (b) (by omega) _).mono ?_
        rintro _ w2 ⟨rfl, hb2⟩
        rw [← HD.out]
        go_wp2_with fail
        go_ret
        exact ⟨BytT.ret_str HD.out, bt (bt (below_box _ _) hb1) hb2⟩
    · skip
      have ht : textV (sc ⟨4, b, t, a1, l1, c1, a2, l2, c2, a3, l3, c3, a4, l4, c4⟩) = ScaM.dec b := by unfold textV; rw [show (sc ⟨4, b, t, a1, l1, c1, a2, l2, c2, a3, l3, c3, a4, l4, c4⟩).k = 4 from rfl, hfit]; simp [sc, *]
      rw [ht]
      clear ht
      have Hfit := Lib.hid hfit
      clear hfit hk
      obtain ⟨D, hD⟩ : ∃ D : ByteArray, D = ⟨(ScaM.dec (b)).toArray⟩ := ⟨_, rfl⟩
      have hDs : 1 + D.size ≤ 9223372036854775807 := by rw [hD, size_mk]; have := dec_len20 (u := b) (by omega); omega
      have HD := Lib.hid hD
      clear hD
      go_enter Tryz.func8, Tryz.ntmps8
      go_wp2_with fail
      refine (fits_any _ ⟨4, b, t, a1, l1, c1, a2, l2, c2, a3, l3, c3, a4, l4, c4⟩ hb _).mono ?_
      rintro _ w1 ⟨rfl, hb1⟩
      rw [Hfit.out]
      obtain ⟨lc, lf⟩ := bcell hb1
      go_wp2_with fail
      refine (decimal_any (b) (by omega) _).mono ?_
      rintro _ w2 ⟨rfl, hb2⟩
      rw [← HD.out]
      go_wp2_with fail
      go_ret
      exact ⟨BytT.ret_str HD.out, bt (bt (below_box _ _) hb1) hb2⟩
    · skip
      have ht : textV (sc ⟨5, b, t, a1, l1, c1, a2, l2, c2, a3, l3, c3, a4, l4, c4⟩) = ScaM.dec b := by unfold textV; rw [show (sc ⟨5, b, t, a1, l1, c1, a2, l2, c2, a3, l3, c3, a4, l4, c4⟩).k = 5 from rfl, hfit]; simp [sc, *]
      rw [ht]
      clear ht
      have Hfit := Lib.hid hfit
      clear hfit hk
      obtain ⟨D, hD⟩ : ∃ D : ByteArray, D = ⟨(ScaM.dec (b)).toArray⟩ := ⟨_, rfl⟩
      have hDs : 1 + D.size ≤ 9223372036854775807 := by rw [hD, size_mk]; have := dec_len20 (u := b) (by omega); omega
      have HD := Lib.hid hD
      clear hD
      go_enter Tryz.func8, Tryz.ntmps8
      go_wp2_with fail
      refine (fits_any _ ⟨5, b, t, a1, l1, c1, a2, l2, c2, a3, l3, c3, a4, l4, c4⟩ hb _).mono ?_
      rintro _ w1 ⟨rfl, hb1⟩
      rw [Hfit.out]
      obtain ⟨lc, lf⟩ := bcell hb1
      go_wp2_with fail
      refine (decimal_any (b) (by omega) _).mono ?_
      rintro _ w2 ⟨rfl, hb2⟩
      rw [← HD.out]
      go_wp2_with fail
      go_ret
      exact ⟨BytT.ret_str HD.out, bt (bt (below_box _ _) hb1) hb2⟩
    · cases hc0 : (clsN b == 0) with
      | true =>
        have z0 : clsN b = 0 := by simpa using hc0
        have ht : textV (sc ⟨6, b, t, a1, l1, c1, a2, l2, c2, a3, l3, c3, a4, l4, c4⟩) = [110, 97, 110] := by unfold textV; rw [show (sc ⟨6, b, t, a1, l1, c1, a2, l2, c2, a3, l3, c3, a4, l4, c4⟩).k = 6 from rfl, hfit]; simp [sc, *]
        rw [ht]
        clear ht
        have Hfit := Lib.hid hfit
        clear hfit hk
        clear z0
        go_enter Tryz.func8, Tryz.ntmps8
        go_wp2_with fail
        refine (fits_any _ ⟨6, b, t, a1, l1, c1, a2, l2, c2, a3, l3, c3, a4, l4, c4⟩ hb _).mono ?_
        rintro _ w1 ⟨rfl, hb1⟩
        rw [Hfit.out]
        obtain ⟨lc, lf⟩ := bcell hb1
        go_wp2_with fail
        refine (class_any _ _).mono ?_
        rintro _ w2 ⟨rfl, rfl⟩
        go_wp2_with fail
        go_ret
        exact ⟨rfl, bt (below_box _ _) hb1⟩
      | false =>
        have z0 : clsN b ≠ 0 := by simpa using hc0
        cases hc1 : (clsN b == 1) with
        | true =>
          have z1 : clsN b = 1 := by simpa using hc1
          by_cases h1 : sgnN ≤ b
          · have d1 : decide ((9223372036854775808 : Int) ≤ b) = true := by simp only [decide_eq_true_eq]; unfold sgnN at h1; omega
            have ht : textV (sc ⟨6, b, t, a1, l1, c1, a2, l2, c2, a3, l3, c3, a4, l4, c4⟩) = [45, 105, 110, 102] := by unfold textV; rw [show (sc ⟨6, b, t, a1, l1, c1, a2, l2, c2, a3, l3, c3, a4, l4, c4⟩).k = 6 from rfl, hfit]; simp [sc, *]
            rw [ht]
            clear ht
            have Hfit := Lib.hid hfit
            clear hfit hk
            clear h1 z0 z1
            go_enter Tryz.func8, Tryz.ntmps8
            go_wp2_with fail
            refine (fits_any _ ⟨6, b, t, a1, l1, c1, a2, l2, c2, a3, l3, c3, a4, l4, c4⟩ hb _).mono ?_
            rintro _ w1 ⟨rfl, hb1⟩
            rw [Hfit.out]
            obtain ⟨lc, lf⟩ := bcell hb1
            go_wp2_with fail
            refine (class_any _ _).mono ?_
            rintro _ w2 ⟨rfl, rfl⟩
            go_wp2_with fail
            go_ret
            exact ⟨rfl, bt (below_box _ _) hb1⟩
          · have d1 : decide ((9223372036854775808 : Int) ≤ b) = false := by simp only [decide_eq_false_iff_not]; unfold sgnN at h1; omega
            have ht : textV (sc ⟨6, b, t, a1, l1, c1, a2, l2, c2, a3, l3, c3, a4, l4, c4⟩) = [105, 110, 102] := by unfold textV; rw [show (sc ⟨6, b, t, a1, l1, c1, a2, l2, c2, a3, l3, c3, a4, l4, c4⟩).k = 6 from rfl, hfit]; simp [sc, *]
            rw [ht]
            clear ht
            have Hfit := Lib.hid hfit
            clear hfit hk
            clear h1 z0 z1
            go_enter Tryz.func8, Tryz.ntmps8
            go_wp2_with fail
            refine (fits_any _ ⟨6, b, t, a1, l1, c1, a2, l2, c2, a3, l3, c3, a4, l4, c4⟩ hb _).mono ?_
            rintro _ w1 ⟨rfl, hb1⟩
            rw [Hfit.out]
            obtain ⟨lc, lf⟩ := bcell hb1
            go_wp2_with fail
            refine (class_any _ _).mono ?_
            rintro _ w2 ⟨rfl, rfl⟩
            go_wp2_with fail
            go_ret
            exact ⟨rfl, bt (below_box _ _) hb1⟩
        | false =>
          have z1 : clsN b ≠ 1 := by simpa using hc1
          have ht : textV (sc ⟨6, b, t, a1, l1, c1, a2, l2, c2, a3, l3, c3, a4, l4, c4⟩) = 48 :: 120 :: hex16 b := by unfold textV; rw [show (sc ⟨6, b, t, a1, l1, c1, a2, l2, c2, a3, l3, c3, a4, l4, c4⟩).k = 6 from rfl, hfit]; simp [sc, *]
          rw [ht]
          clear ht
          have Hfit := Lib.hid hfit
          clear hfit hk
          clear z0 z1
          obtain ⟨D, hD⟩ : ∃ D : ByteArray, D = ⟨(hex16 b).toArray⟩ := ⟨_, rfl⟩
          have hDs : 2 + D.size ≤ 9223372036854775807 := by rw [hD, size_mk]; unfold hex16; rw [hexL_len, be8_len]; omega
          have HD := Lib.hid hD
          clear hD
          go_enter Tryz.func8, Tryz.ntmps8
          go_wp2_with fail
          refine (fits_any _ ⟨6, b, t, a1, l1, c1, a2, l2, c2, a3, l3, c3, a4, l4, c4⟩ hb _).mono ?_
          rintro _ w1 ⟨rfl, hb1⟩
          rw [Hfit.out]
          obtain ⟨lc, lf⟩ := bcell hb1
          go_wp2_with fail
          refine (class_any _ _).mono ?_
          rintro _ w2 ⟨rfl, rfl⟩
          go_wp2_with fail
          refine (hex_any b (by omega) _).mono ?_
          rintro _ w3 ⟨rfl, hb3⟩
          rw [← HD.out]
          go_wp2_with fail
          go_ret
          exact ⟨BytT.ret_str (by rw [HD.out, put2]), bt (bt (below_box _ _) hb1) hb3⟩
    · have hl := fits_len hfit rfl
      have hts : t.size ≤ 35184372088000 := by have : t.data.toList.length ≤ 4096 := hl; have e : t.data.toList.length = t.size := rfl; omega
      have ht : textV (sc ⟨7, b, t, a1, l1, c1, a2, l2, c2, a3, l3, c3, a4, l4, c4⟩) = quote t.data.toList := by unfold textV; rw [show (sc ⟨7, b, t, a1, l1, c1, a2, l2, c2, a3, l3, c3, a4, l4, c4⟩).k = 7 from rfl, hfit]; simp [sc, *]
      rw [ht]
      clear ht
      have Hfit := Lib.hid hfit
      clear hfit hk
      clear hl
      go_enter Tryz.func8, Tryz.ntmps8
      go_wp2_with fail
      refine (fits_any _ ⟨7, b, t, a1, l1, c1, a2, l2, c2, a3, l3, c3, a4, l4, c4⟩ hb _).mono ?_
      rintro _ w1 ⟨rfl, hb1⟩
      rw [Hfit.out]
      obtain ⟨lc, lf⟩ := bcell hb1
      go_wp2_with fail
      refine (UtfK.rQuote_any t hts _).mono ?_
      rintro _ w2 ⟨rfl, hb2⟩
      go_wp2_with fail
      go_ret
      exact ⟨rfl, bt (bt (below_box _ _) hb1) hb2⟩
    · have hl := fits_len hfit rfl
      have hts : t.size ≤ 4096 := hl
      have hhl := hexL_len t.data.toList
      have e : t.data.toList.length = t.size := rfl
      rw [e] at hhl
      obtain ⟨X, hX⟩ : ∃ X : ByteArray, X = ⟨(hexL t.data.toList).toArray⟩ := ⟨_, rfl⟩
      have hXs : X.size ≤ 35184372088000 := by rw [hX, size_mk, hhl]; omega
      have hXd : X.data.toList = hexL t.data.toList := by rw [hX]
      obtain ⟨D, hD⟩ : ∃ D : ByteArray, D = ⟨(quote X.data.toList).toArray⟩ := ⟨_, rfl⟩
      have hDs : 1 + D.size ≤ 9223372036854775807 := by rw [hD, size_mk, quote_len]; have := body_le X.data.toList; have e2 : X.data.toList.length = X.size := rfl; omega
      have ht : textV (sc ⟨8, b, t, a1, l1, c1, a2, l2, c2, a3, l3, c3, a4, l4, c4⟩) = 120 :: quote (hexL t.data.toList) := by unfold textV; rw [show (sc ⟨8, b, t, a1, l1, c1, a2, l2, c2, a3, l3, c3, a4, l4, c4⟩).k = 8 from rfl, hfit]; simp [sc, *]
      rw [ht]
      clear ht
      have Hfit := Lib.hid hfit
      clear hfit hk
      rw [← hXd]
      have HX := Lib.hid hX
      have HD := Lib.hid hD
      clear hl hhl e hX hD hXd
      go_enter Tryz.func8, Tryz.ntmps8
      go_wp2_with fail
      refine (fits_any _ ⟨8, b, t, a1, l1, c1, a2, l2, c2, a3, l3, c3, a4, l4, c4⟩ hb _).mono ?_
      rintro _ w1 ⟨rfl, hb1⟩
      rw [Hfit.out]
      obtain ⟨lc, lf⟩ := bcell hb1
      go_wp2_with fail
      refine (UtfK.rHex_any t (by omega) _).mono ?_
      rintro _ w2 ⟨rfl, hb2⟩
      rw [← HX.out]
      go_wp2_with fail
      refine (UtfK.rQuote_any X hXs _).mono ?_
      rintro _ w3 ⟨rfl, hb3⟩
      rw [← HD.out]
      go_wp2_with fail
      go_ret
      exact ⟨BytT.ret_str (by rw [HD.out, put1]), bt (bt (bt (below_box _ _) hb1) hb2) hb3⟩
    · skip
      have ht : textV (sc ⟨9, b, t, a1, l1, c1, a2, l2, c2, a3, l3, c3, a4, l4, c4⟩) = ScaM.dec b := by unfold textV; rw [show (sc ⟨9, b, t, a1, l1, c1, a2, l2, c2, a3, l3, c3, a4, l4, c4⟩).k = 9 from rfl, hfit]; simp [sc, *]
      rw [ht]
      clear ht
      have Hfit := Lib.hid hfit
      clear hfit hk
      obtain ⟨D, hD⟩ : ∃ D : ByteArray, D = ⟨(ScaM.dec (b)).toArray⟩ := ⟨_, rfl⟩
      have hDs : 1 + D.size ≤ 9223372036854775807 := by rw [hD, size_mk]; have := dec_len20 (u := b) (by omega); omega
      have HD := Lib.hid hD
      clear hD
      go_enter Tryz.func8, Tryz.ntmps8
      go_wp2_with fail
      refine (fits_any _ ⟨9, b, t, a1, l1, c1, a2, l2, c2, a3, l3, c3, a4, l4, c4⟩ hb _).mono ?_
      rintro _ w1 ⟨rfl, hb1⟩
      rw [Hfit.out]
      obtain ⟨lc, lf⟩ := bcell hb1
      go_wp2_with fail
      refine (decimal_any (b) (by omega) _).mono ?_
      rintro _ w2 ⟨rfl, hb2⟩
      rw [← HD.out]
      go_wp2_with fail
      go_ret
      exact ⟨BytT.ret_str HD.out, bt (bt (below_box _ _) hb1) hb2⟩
end Go.Proofs.YtgjbpadhdnclnaaGreatDoor.ScaF
