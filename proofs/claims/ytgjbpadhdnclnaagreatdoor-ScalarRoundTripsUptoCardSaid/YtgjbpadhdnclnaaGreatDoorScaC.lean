/- Contracts of Fits and Same of the reference of package scalar. -/
import Derived.Test.YtgjbpadhdnclnaaGreatDoorScaB
import Derived.Test.YtgjbpadhdnclnaaGreatDoorUtfB
set_option linter.unusedSimpArgs false
set_option linter.unusedVariables false
namespace Go.Proofs.YtgjbpadhdnclnaaGreatDoor.ScaC
open Go.RowKit Nums Byt UtfM UtfS ScaM ScaV ScaA ScaB

theorem empty_list (t : ByteArray) (h : t.size = 0) : t.data.toList = [] := List.eq_nil_of_length_eq_zero h
theorem nonempty_list (t : ByteArray) (h : t.size ≠ 0) : t.data.toList.isEmpty = false := by
  cases hl : t.data.toList with
  | nil => exact absurd (show t.size = 0 from by rw [← size_toList, hl]; rfl) h
  | cons _ _ => rfl

theorem bcell {W w1 : World} (hb : Below W.heap.size W w1) : (∀ b o, b < W.heap.size → w1.cell? ⟨b, o, none⟩ = W.cell? ⟨b, o, none⟩) ∧ (∀ b o, b < W.heap.size → w1.frozen? ⟨b, o, none⟩ = W.frozen? ⟨b, o, none⟩) :=
  ⟨fun b o h => hb.cell (p := ⟨b, o, none⟩) h, fun b o h => hb.frozen (p := ⟨b, o, none⟩) h⟩
set_option maxHeartbeats 2000000 in
set_option maxRecDepth 100000 in
theorem fits_any (kd : Int) (v : SV) (hb : v.b ≤ 18446744073709551615) (w : World) : Calls Tryz.prog 14 #[.int .i64 kd, vv v] w fun e w' => e = .returned (.bool (fitsB kd (sc v))) ∧ Below w.heap.size w w' := by
  obtain ⟨k, b, t, a1, l1, c1, a2, l2, c2, a3, l3, c3, a4, l4, c4⟩ := v
  simp only [vv]
  simp only at hb
  cases h1 : isB kd with
  | false =>
    have hf : fitsB kd (sc ⟨k, b, t, a1, l1, c1, a2, l2, c2, a3, l3, c3, a4, l4, c4⟩) = false := by simp [fitsB, h1]
    have Hf := Lib.hid hf
    have H1 := Lib.hid h1
    clear hf h1 hb
    go_enter Tryz.func14, Tryz.ntmps14
    go_wp2_with fail
    refine (is_any _ _).mono ?_
    rintro _ w1 ⟨rfl, rfl⟩
    rw [H1.out]
    go_wp2_with fail
    go_ret
    exact ⟨ret_bool Hf.out.symm, below_box _ _⟩
  | true =>
    have H1 := Lib.hid h1
    by_cases h2 : k = kd
    · subst h2
      have n2 : (k != k) = false := by simp
      cases h3 : loneB (sc ⟨k, b, t, a1, l1, c1, a2, l2, c2, a3, l3, c3, a4, l4, c4⟩) with
      | false =>
        have hf : fitsB k (sc ⟨k, b, t, a1, l1, c1, a2, l2, c2, a3, l3, c3, a4, l4, c4⟩) = false := by simp [fitsB, h3]
        have Hf := Lib.hid hf
        have H3 := Lib.hid h3
        clear hf h1 h3 hb
        go_enter Tryz.func14, Tryz.ntmps14
        go_wp2_with fail
        refine (is_any _ _).mono ?_
        rintro _ w1 ⟨rfl, rfl⟩
        rw [H1.out]
        go_wp2_with fail
        refine (lone_any ⟨k, b, t, a1, l1, c1, a2, l2, c2, a3, l3, c3, a4, l4, c4⟩ _).mono ?_
        rintro _ w2 ⟨rfl, hb2⟩
        rw [H3.out]
        go_wp2_with fail
        go_ret
        exact ⟨ret_bool Hf.out.symm, bt (below_box _ _) hb2⟩
      | true =>
        have H3 := Lib.hid h3
        have hbase : fitsB k (sc ⟨k, b, t, a1, l1, c1, a2, l2, c2, a3, l3, c3, a4, l4, c4⟩) = if txB k then b == 0 && decide (t.size ≤ 4096) && (k == 8 || decide (bad t.data.toList < 0)) else t.data.toList.isEmpty && rgB k b := by
          have e : t.data.toList.length = t.size := rfl
          simp only [fitsB, h1, h3]
          simp [sc, e]
          try rfl
        cases h4 : txB k with
        | true =>
          have H4 := Lib.hid h4
          rw [h4, if_pos rfl] at hbase
          by_cases h5 : b = 0
          · have e5 : ((b : Int) == 0) = true := by simp [h5]
            have z5 : (b == 0) = true := by simp [h5]
            by_cases h6 : t.size ≤ 4096
            · have e6 : (t.size : Int) ≤ 4096 := by omega
              have d6 : decide ((t.size : Int) ≤ 4096) = true := by simp; omega
              have z6 : decide (t.size ≤ 4096) = true := by simp [h6]
              cases h8 : (k == 8) with
              | true =>
                rw [z5, z6, h8] at hbase
                have Hf := Lib.hid hbase
                clear hbase h1 h3 h4 h5 z5 z6 hb
                go_enter Tryz.func14, Tryz.ntmps14
                go_wp2_with fail
                refine (is_any _ _).mono ?_
                rintro _ w1 ⟨rfl, rfl⟩
                rw [H1.out]
                go_wp2_with fail
                refine (lone_any ⟨k, b, t, a1, l1, c1, a2, l2, c2, a3, l3, c3, a4, l4, c4⟩ _).mono ?_
                rintro _ w2 ⟨rfl, hb2⟩
                rw [H3.out]
                go_wp2_with fail
                obtain ⟨lc, lf⟩ := bcell hb2
                refine (texts_any _ _).mono ?_
                rintro _ w3 ⟨rfl, rfl⟩
                rw [H4.out]
                go_wp2_with fail
                go_ret
                exact ⟨ret_bool Hf.out.symm, bt (below_box _ _) hb2⟩
              | false =>
                rw [z5, z6, h8] at hbase
                have Hf := Lib.hid hbase
                clear hbase h1 h3 h4 h5 z5 z6 hb
                go_enter Tryz.func14, Tryz.ntmps14
                go_wp2_with fail
                refine (is_any _ _).mono ?_
                rintro _ w1 ⟨rfl, rfl⟩
                rw [H1.out]
                go_wp2_with fail
                refine (lone_any ⟨k, b, t, a1, l1, c1, a2, l2, c2, a3, l3, c3, a4, l4, c4⟩ _).mono ?_
                rintro _ w2 ⟨rfl, hb2⟩
                rw [H3.out]
                go_wp2_with fail
                obtain ⟨lc, lf⟩ := bcell hb2
                refine (texts_any _ _).mono ?_
                rintro _ w3 ⟨rfl, rfl⟩
                rw [H4.out]
                go_wp2_with fail
                refine (UtfB.rValid_any t (by omega) _).mono ?_
                rintro _ w4 ⟨rfl, rfl⟩
                go_wp2_with fail
                go_ret
                exact ⟨ret_bool (by rw [Hf.out]; rfl), bt (below_box _ _) hb2⟩
            · have d6 : decide ((t.size : Int) ≤ 4096) = false := by simp; omega
              have z6 : decide (t.size ≤ 4096) = false := by simp; omega
              rw [z5, z6] at hbase
              have Hf := Lib.hid hbase
              clear hbase h1 h3 h4 h5 h6 z5 z6 hb
              go_enter Tryz.func14, Tryz.ntmps14
              go_wp2_with fail
              refine (is_any _ _).mono ?_
              rintro _ w1 ⟨rfl, rfl⟩
              rw [H1.out]
              go_wp2_with fail
              refine (lone_any ⟨k, b, t, a1, l1, c1, a2, l2, c2, a3, l3, c3, a4, l4, c4⟩ _).mono ?_
              rintro _ w2 ⟨rfl, hb2⟩
              rw [H3.out]
              go_wp2_with fail
              obtain ⟨lc, lf⟩ := bcell hb2
              refine (texts_any _ _).mono ?_
              rintro _ w3 ⟨rfl, rfl⟩
              rw [H4.out]
              go_wp2_with fail
              go_ret
              exact ⟨ret_bool (by rw [Hf.out]; rfl), bt (below_box _ _) hb2⟩
          · have e5 : ((b : Int) == 0) = false := by rw [beq_eq_false_iff_ne]; omega
            have z5 : (b == 0) = false := by simp [h5]
            rw [z5] at hbase
            have Hf := Lib.hid hbase
            clear hbase h1 h3 h4 h5 z5 hb
            go_enter Tryz.func14, Tryz.ntmps14
            go_wp2_with fail
            refine (is_any _ _).mono ?_
            rintro _ w1 ⟨rfl, rfl⟩
            rw [H1.out]
            go_wp2_with fail
            refine (lone_any ⟨k, b, t, a1, l1, c1, a2, l2, c2, a3, l3, c3, a4, l4, c4⟩ _).mono ?_
            rintro _ w2 ⟨rfl, hb2⟩
            rw [H3.out]
            go_wp2_with fail
            obtain ⟨lc, lf⟩ := bcell hb2
            refine (texts_any _ _).mono ?_
            rintro _ w3 ⟨rfl, rfl⟩
            rw [H4.out]
            go_wp2_with fail
            go_ret
            exact ⟨ret_bool (by rw [Hf.out]; rfl), bt (below_box _ _) hb2⟩
        | false =>
          have H4 := Lib.hid h4
          rw [h4, if_neg (by simp)] at hbase
          by_cases h5 : t.size = 0
          · have e5 := empty_yes h5
            have z5 : t.data.toList.isEmpty = true := by rw [empty_list t h5]; rfl
            rw [z5, Bool.true_and] at hbase
            clear h1 h3 h4 h5 z5
            cases k1 : (k == 1) with
            | true =>
              have kk : k = 1 := by simpa using k1
              have k2 : (k == 2) = false := by rw [kk]; rfl
              have k4 : (k == 4) = false := by rw [kk]; rfl
              have k9 : (k == 9) = false := by rw [kk]; rfl
              have hr : rgB k b = decide ((b : Int) ≤ 1) := by rw [kk]; simp only [rgB]; simp; omega
              have Hf := Lib.hid (hbase.trans hr)
              clear hbase hr kk hb
              go_enter Tryz.func14, Tryz.ntmps14
              go_wp2_with fail
              refine (is_any _ _).mono ?_
              rintro _ w1 ⟨rfl, rfl⟩
              rw [H1.out]
              go_wp2_with fail
              refine (lone_any ⟨k, b, t, a1, l1, c1, a2, l2, c2, a3, l3, c3, a4, l4, c4⟩ _).mono ?_
              rintro _ w2 ⟨rfl, hb2⟩
              rw [H3.out]
              go_wp2_with fail
              obtain ⟨lc, lf⟩ := bcell hb2
              refine (texts_any _ _).mono ?_
              rintro _ w3 ⟨rfl, rfl⟩
              rw [H4.out]
              go_wp2_with fail
              go_ret
              exact ⟨ret_bool (by rw [Hf.out]), bt (below_box _ _) hb2⟩
            | false =>
              cases k2 : (k == 2) with
              | true =>
                have kk : k = 2 := by simpa using k2
                have k4 : (k == 4) = false := by rw [kk]; rfl
                have k9 : (k == 9) = false := by rw [kk]; rfl
                have hr : rgB k b = (decide (-2147483648 ≤ sI b) && decide (sI b ≤ 2147483647)) := by rw [kk]; simp [rgB]
                have hw := wrap_sI hb
                have Hf := Lib.hid (hbase.trans hr)
                obtain ⟨x, hx⟩ : ∃ x, x = sI b := ⟨_, rfl⟩
                rw [← hx] at hw
                have Hx := Lib.hid hx
                clear hbase hr kk hx hb
                by_cases q1 : -2147483648 ≤ x
                · by_cases q2 : x ≤ 2147483647
                  · have y1 : decide (-2147483648 ≤ x) = true := by simp [q1]
                    have y2 : decide (x ≤ 2147483647) = true := by simp [q2]
                    go_enter Tryz.func14, Tryz.ntmps14
                    go_wp2_with fail
                    refine (is_any _ _).mono ?_
                    rintro _ w1 ⟨rfl, rfl⟩
                    rw [H1.out]
                    go_wp2_with fail
                    refine (lone_any ⟨k, b, t, a1, l1, c1, a2, l2, c2, a3, l3, c3, a4, l4, c4⟩ _).mono ?_
                    rintro _ w2 ⟨rfl, hb2⟩
                    rw [H3.out]
                    go_wp2_with fail
                    obtain ⟨lc, lf⟩ := bcell hb2
                    refine (texts_any _ _).mono ?_
                    rintro _ w3 ⟨rfl, rfl⟩
                    rw [H4.out]
                    go_wp2_with fail
                    go_ret
                    exact ⟨ret_bool (by rw [Hf.out, ← Hx.out, y1, y2]; rfl), bt (below_box _ _) hb2⟩
                  · have y1 : decide (-2147483648 ≤ x) = true := by simp [q1]
                    have y2 : decide (x ≤ 2147483647) = false := by simp; omega
                    go_enter Tryz.func14, Tryz.ntmps14
                    go_wp2_with fail
                    refine (is_any _ _).mono ?_
                    rintro _ w1 ⟨rfl, rfl⟩
                    rw [H1.out]
                    go_wp2_with fail
                    refine (lone_any ⟨k, b, t, a1, l1, c1, a2, l2, c2, a3, l3, c3, a4, l4, c4⟩ _).mono ?_
                    rintro _ w2 ⟨rfl, hb2⟩
                    rw [H3.out]
                    go_wp2_with fail
                    obtain ⟨lc, lf⟩ := bcell hb2
                    refine (texts_any _ _).mono ?_
                    rintro _ w3 ⟨rfl, rfl⟩
                    rw [H4.out]
                    go_wp2_with fail
                    go_ret
                    exact ⟨ret_bool (by rw [Hf.out, ← Hx.out, y1, y2]; rfl), bt (below_box _ _) hb2⟩
                · have y1 : decide (-2147483648 ≤ x) = false := by simp; omega
                  go_enter Tryz.func14, Tryz.ntmps14
                  go_wp2_with fail
                  refine (is_any _ _).mono ?_
                  rintro _ w1 ⟨rfl, rfl⟩
                  rw [H1.out]
                  go_wp2_with fail
                  refine (lone_any ⟨k, b, t, a1, l1, c1, a2, l2, c2, a3, l3, c3, a4, l4, c4⟩ _).mono ?_
                  rintro _ w2 ⟨rfl, hb2⟩
                  rw [H3.out]
                  go_wp2_with fail
                  obtain ⟨lc, lf⟩ := bcell hb2
                  refine (texts_any _ _).mono ?_
                  rintro _ w3 ⟨rfl, rfl⟩
                  rw [H4.out]
                  go_wp2_with fail
                  go_ret
                  exact ⟨ret_bool (by rw [Hf.out, ← Hx.out, y1]; rfl), bt (below_box _ _) hb2⟩
              | false =>
                cases k4 : (k == 4) with
                | true =>
                  have kk : k = 4 := by simpa using k4
                  have k9 : (k == 9) = false := by rw [kk]; rfl
                  have hr : rgB k b = decide ((b : Int) < 4294967296) := by rw [kk]; simp only [rgB]; simp; omega
                  have Hf := Lib.hid (hbase.trans hr)
                  clear hbase hr kk hb
                  go_enter Tryz.func14, Tryz.ntmps14
                  go_wp2_with fail
                  refine (is_any _ _).mono ?_
                  rintro _ w1 ⟨rfl, rfl⟩
                  rw [H1.out]
                  go_wp2_with fail
                  refine (lone_any ⟨k, b, t, a1, l1, c1, a2, l2, c2, a3, l3, c3, a4, l4, c4⟩ _).mono ?_
                  rintro _ w2 ⟨rfl, hb2⟩
                  rw [H3.out]
                  go_wp2_with fail
                  obtain ⟨lc, lf⟩ := bcell hb2
                  refine (texts_any _ _).mono ?_
                  rintro _ w3 ⟨rfl, rfl⟩
                  rw [H4.out]
                  go_wp2_with fail
                  go_ret
                  exact ⟨ret_bool (by rw [Hf.out]), bt (below_box _ _) hb2⟩
                | false =>
                  cases k9 : (k == 9) with
                  | true =>
                    have kk : k = 9 := by simpa using k9
                    have hr : rgB k b = decide ((b : Int) < 2147483648) := by rw [kk]; simp only [rgB]; simp; omega
                    have Hf := Lib.hid (hbase.trans hr)
                    clear hbase hr kk hb
                    go_enter Tryz.func14, Tryz.ntmps14
                    go_wp2_with fail
                    refine (is_any _ _).mono ?_
                    rintro _ w1 ⟨rfl, rfl⟩
                    rw [H1.out]
                    go_wp2_with fail
                    refine (lone_any ⟨k, b, t, a1, l1, c1, a2, l2, c2, a3, l3, c3, a4, l4, c4⟩ _).mono ?_
                    rintro _ w2 ⟨rfl, hb2⟩
                    rw [H3.out]
                    go_wp2_with fail
                    obtain ⟨lc, lf⟩ := bcell hb2
                    refine (texts_any _ _).mono ?_
                    rintro _ w3 ⟨rfl, rfl⟩
                    rw [H4.out]
                    go_wp2_with fail
                    go_ret
                    exact ⟨ret_bool (by rw [Hf.out]), bt (below_box _ _) hb2⟩
                  | false =>
                    have hr : rgB k b = true := by
                      have f1 : k ≠ 1 := by simpa using k1
                      have f2 : k ≠ 2 := by simpa using k2
                      have f4 : k ≠ 4 := by simpa using k4
                      have f9 : k ≠ 9 := by simpa using k9
                      simp [rgB, f1, f2, f4, f9]
                    have Hf := Lib.hid (hbase.trans hr)
                    clear hbase hr hb
                    go_enter Tryz.func14, Tryz.ntmps14
                    go_wp2_with fail
                    refine (is_any _ _).mono ?_
                    rintro _ w1 ⟨rfl, rfl⟩
                    rw [H1.out]
                    go_wp2_with fail
                    refine (lone_any ⟨k, b, t, a1, l1, c1, a2, l2, c2, a3, l3, c3, a4, l4, c4⟩ _).mono ?_
                    rintro _ w2 ⟨rfl, hb2⟩
                    rw [H3.out]
                    go_wp2_with fail
                    obtain ⟨lc, lf⟩ := bcell hb2
                    refine (texts_any _ _).mono ?_
                    rintro _ w3 ⟨rfl, rfl⟩
                    rw [H4.out]
                    go_wp2_with fail
                    go_ret
                    exact ⟨ret_bool (by rw [Hf.out]), bt (below_box _ _) hb2⟩
          · have e5 := empty_no h5
            have z5 := nonempty_list t h5
            rw [z5, Bool.false_and] at hbase
            have Hf := Lib.hid hbase
            clear hbase h1 h3 h4 h5 z5 hb
            go_enter Tryz.func14, Tryz.ntmps14
            go_wp2_with fail
            refine (is_any _ _).mono ?_
            rintro _ w1 ⟨rfl, rfl⟩
            rw [H1.out]
            go_wp2_with fail
            refine (lone_any ⟨k, b, t, a1, l1, c1, a2, l2, c2, a3, l3, c3, a4, l4, c4⟩ _).mono ?_
            rintro _ w2 ⟨rfl, hb2⟩
            rw [H3.out]
            go_wp2_with fail
            obtain ⟨lc, lf⟩ := bcell hb2
            refine (texts_any _ _).mono ?_
            rintro _ w3 ⟨rfl, rfl⟩
            rw [H4.out]
            go_wp2_with fail
            go_ret
            exact ⟨ret_bool (by rw [Hf.out]), bt (below_box _ _) hb2⟩
    · have n2 : (k != kd) = true := by rw [bne_iff_ne]; exact h2
      have hf : fitsB kd (sc ⟨k, b, t, a1, l1, c1, a2, l2, c2, a3, l3, c3, a4, l4, c4⟩) = false := by simp [fitsB, sc, h2]
      have Hf := Lib.hid hf
      clear hf h1 h2 hb
      go_enter Tryz.func14, Tryz.ntmps14
      go_wp2_with fail
      refine (is_any _ _).mono ?_
      rintro _ w1 ⟨rfl, rfl⟩
      rw [H1.out]
      go_wp2_with fail
      go_ret
      exact ⟨ret_bool Hf.out.symm, below_box _ _⟩
end Go.Proofs.YtgjbpadhdnclnaaGreatDoor.ScaC
