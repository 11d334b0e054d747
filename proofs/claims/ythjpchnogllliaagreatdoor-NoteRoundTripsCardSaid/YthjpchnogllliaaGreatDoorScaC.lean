import Derived.Test.YthjpchnogllliaaGreatDoorScaV
import Derived.BigGuardPart
import Derived.Test.YthjpchnogllliaaGreatDoorUtfB
/- Contracts of Is, texts, signed, lone and Class of the reference of package scalar. -/
set_option linter.unusedSimpArgs false
set_option linter.unusedVariables false
namespace Go.Proofs.YthjpchnogllliaaGreatDoor.ScaA
open Go.RowKit Nums Byt UtfM UtfS ScaM ScaV

set_option maxRecDepth 100000 in
theorem is_any (k : Int) (w : World) : Calls Tryz.prog 66 #[.int .i64 k] w fun e w' => e = .returned (.bool (isB k)) ∧ w = w' := by
  by_cases h1 : 1 ≤ k
  · by_cases h2 : k ≤ 9
    · have d1 : decide (1 ≤ k) = true := by simp [h1]
      have d2 : decide (k ≤ 9) = true := by simp [h2]
      go_enter Tryz.func66, Tryz.ntmps66
      go_wp2_with fail
      go_ret
      exact ⟨ret_bool (by simp [isB, h1, h2]), rfl⟩
    · have d1 : decide (1 ≤ k) = true := by simp [h1]
      have d2 : decide (k ≤ 9) = false := by simp; omega
      go_enter Tryz.func66, Tryz.ntmps66
      go_wp2_with fail
      go_ret
      exact ⟨ret_bool (by simp [isB, h2]), rfl⟩
  · have d1 : decide (1 ≤ k) = false := by simp; omega
    go_enter Tryz.func66, Tryz.ntmps66
    go_wp2_with fail
    go_ret
    exact ⟨ret_bool (by simp [isB]; omega), rfl⟩

set_option maxRecDepth 100000 in
theorem texts_any (k : Int) (w : World) : Calls Tryz.prog 68 #[.int .i64 k] w fun e w' => e = .returned (.bool (txB k)) ∧ w = w' := by
  cases h1 : (k == 7) with
  | true =>
    go_enter Tryz.func68, Tryz.ntmps68
    go_wp2_with fail
    go_ret
    exact ⟨ret_bool (by simp [txB, h1]), rfl⟩
  | false =>
    go_enter Tryz.func68, Tryz.ntmps68
    go_wp2_with fail
    go_ret
    exact ⟨ret_bool (by simp [txB, h1]), rfl⟩
set_option maxRecDepth 100000 in
theorem signed_any (k : Int) (w : World) : Calls Tryz.prog 120 #[.int .i64 k] w fun e w' => e = .returned (.bool (sgB k)) ∧ w = w' := by
  cases h1 : (k == 2) with
  | true =>
    go_enter Tryz.func120, Tryz.ntmps120
    go_wp2_with fail
    go_ret
    exact ⟨ret_bool (by simp [sgB, h1]), rfl⟩
  | false =>
    go_enter Tryz.func120, Tryz.ntmps120
    go_wp2_with fail
    go_ret
    exact ⟨ret_bool (by simp [sgB, h1]), rfl⟩

theorem below_box (w : World) (o : Obj) : Below w.heap.size w (w.alloc o) := (Below.refl _ _).alloc (Nat.le_refl _) _
theorem nat0 (n : Nat) : ((n : Int) == 0) = (n == 0) := by
  cases h : (n == 0) with
  | true => simp at h; simp [h]
  | false => simp at h; rw [beq_eq_false_iff_ne]; omega
set_option maxHeartbeats 1000000 in
set_option maxRecDepth 100000 in
theorem lone_any (v : SV) (w : World) : Calls Tryz.prog 67 #[vv v] w fun e w' => e = .returned (.bool (loneB (sc v))) ∧ Below w.heap.size w w' := by
  obtain ⟨k, b, t, a1, l1, c1, a2, l2, c2, a3, l3, c3, a4, l4, c4⟩ := v
  simp only [vv]
  cases h1 : (l1 == 0) with
  | false =>
    have e1 : ((l1 : Int) == 0) = false := by rw [nat0, h1]
    go_enter Tryz.func67, Tryz.ntmps67
    go_wp2_with fail
    go_ret
    exact ⟨ret_bool (by simp [loneB, sc, h1]), below_box _ _⟩
  | true =>
    have e1 : ((l1 : Int) == 0) = true := by rw [nat0, h1]
    cases h2 : (l2 == 0) with
    | false =>
      have e2 : ((l2 : Int) == 0) = false := by rw [nat0, h2]
      go_enter Tryz.func67, Tryz.ntmps67
      go_wp2_with fail
      go_ret
      exact ⟨ret_bool (by simp [loneB, sc, h2]), below_box _ _⟩
    | true =>
      have e2 : ((l2 : Int) == 0) = true := by rw [nat0, h2]
      cases h3 : (l3 == 0) with
      | false =>
        have e3 : ((l3 : Int) == 0) = false := by rw [nat0, h3]
        go_enter Tryz.func67, Tryz.ntmps67
        go_wp2_with fail
        go_ret
        exact ⟨ret_bool (by simp [loneB, sc, h3]), below_box _ _⟩
      | true =>
        have e3 : ((l3 : Int) == 0) = true := by rw [nat0, h3]
        cases h4 : (l4 == 0) with
        | false =>
          have e4 : ((l4 : Int) == 0) = false := by rw [nat0, h4]
          go_enter Tryz.func67, Tryz.ntmps67
          go_wp2_with fail
          go_ret
          exact ⟨ret_bool (by simp [loneB, sc, h4]), below_box _ _⟩
        | true =>
          have e4 : ((l4 : Int) == 0) = true := by rw [nat0, h4]
          go_enter Tryz.func67, Tryz.ntmps67
          go_wp2_with fail
          go_ret
          exact ⟨ret_bool (by simp [loneB, sc, h1, h2, h3, h4]), below_box _ _⟩
end Go.Proofs.YthjpchnogllliaaGreatDoor.ScaA

/- Contracts of Class, Norm, Zero, IsZero, Int of the reference of package scalar. -/
set_option linter.unusedSimpArgs false
set_option linter.unusedVariables false
namespace Go.Proofs.YthjpchnogllliaaGreatDoor.ScaB
open Go.RowKit Nums Byt UtfM UtfS ScaM ScaV ScaA

theorem dec_of {p : Prop} [Decidable p] {b : Bool} (h : b = true ↔ p) : decide p = b := by
  cases b with
  | true => simp [h.1 rfl]
  | false => simp; intro hp; exact absurd (h.2 hp) (by simp)
set_option maxHeartbeats 1000000 in
set_option maxRecDepth 100000 in
theorem class_x (b x : Nat) (hx : (b : Int) % 9223372036854775808 = (x : Int)) (w : World) :
    Calls Tryz.prog 47 #[.int .u64 b] w fun e w' => e = .returned (.int .i64 (if infN < x then 0 else if x = infN then 1 else if x = 0 then 2 else if x < 4503599627370496 then 3 else 4)) ∧ w = w' := by
  by_cases h1 : infN < x
  · have d1 : decide ((9218868437227405312 : Int) < x) = true := by simp only [decide_eq_true_eq]; unfold infN at h1; omega
    rw [if_pos h1]
    have H1 := Lib.hid h1
    clear h1
    go_enter Tryz.func47, Tryz.ntmps47
    go_wp2_with fail
    go_ret
    exact ⟨rfl, rfl⟩
  · rw [if_neg h1]
    have d1 : decide ((9218868437227405312 : Int) < x) = false := by simp only [decide_eq_false_iff_not]; unfold infN at h1; omega
    by_cases h2 : x = infN
    · rw [if_pos h2]
      have d2 : ((x : Int) == 9218868437227405312) = true := by rw [beq_iff_eq]; unfold infN at h2; omega
      have H2 := Lib.hid h2
      clear h1 h2
      go_enter Tryz.func47, Tryz.ntmps47
      go_wp2_with fail
      go_ret
      exact ⟨rfl, rfl⟩
    · rw [if_neg h2]
      have d2 : ((x : Int) == 9218868437227405312) = false := by rw [beq_eq_false_iff_ne]; unfold infN at h2; omega
      by_cases h3 : x = 0
      · rw [if_pos h3]
        have d3 : ((x : Int) == 0) = true := by simp [h3]
        clear h1 h2 h3
        go_enter Tryz.func47, Tryz.ntmps47
        go_wp2_with fail
        go_ret
        exact ⟨rfl, rfl⟩
      · rw [if_neg h3]
        have d3 : ((x : Int) == 0) = false := by rw [beq_eq_false_iff_ne]; omega
        by_cases h4 : x < 4503599627370496
        · rw [if_pos h4]
          have d4 : decide ((x : Int) < 4503599627370496) = true := by simp only [decide_eq_true_eq]; omega
          clear h1 h2 h3 h4
          go_enter Tryz.func47, Tryz.ntmps47
          go_wp2_with fail
          go_ret
          exact ⟨rfl, rfl⟩
        · rw [if_neg h4]
          have d4 : decide ((x : Int) < 4503599627370496) = false := by simp only [decide_eq_false_iff_not]; omega
          clear h1 h2 h3 h4
          go_enter Tryz.func47, Tryz.ntmps47
          go_wp2_with fail
          go_ret
          exact ⟨rfl, rfl⟩
theorem class_any (b : Nat) (w : World) : Calls Tryz.prog 47 #[.int .u64 b] w fun e w' => e = .returned (.int .i64 (clsN b)) ∧ w = w' :=
  class_x b (b % 9223372036854775808) (by omega) w

theorem bt {a b c : World} (h : Below a.heap.size a b) (k : Below b.heap.size b c) : Below a.heap.size a c := h.trans (k.mono h.size)

/-- The zero value of a kind. -/
def zv (k : Int) : SV := ⟨k, 0, ⟨#[]⟩, none, 0, 0, none, 0, 0, none, 0, 0, none, 0, 0⟩
def zeroS (k : Int) : SV := if isB k then zv k else zv 0
theorem sc_zeroS (k : Int) : sc (zeroS k) = zeroV k := by
  unfold zeroS zeroV
  split <;> rfl
theorem wrap_sI {b : Nat} (hb : b ≤ 18446744073709551615) : wrap64 (b : Int) = sI b := by
  unfold sI wrap64
  split <;> omega
theorem ret_v {a b : Value} (h : a = b) : Ending.returned a = .returned b := by rw [h]
/-- The normal form of a value. -/
def normS (v : SV) : SV := if v.k = 6 ∧ clsN v.b = 0 then { v with b := nanN } else v
theorem sc_normS (v : SV) : sc (normS v) = normV (sc v) := by
  unfold normS normV sc
  simp only []
  split <;> rfl
theorem cls0 (b : Nat) : clsN b = 0 ∨ clsN b = 1 ∨ clsN b = 2 ∨ clsN b = 3 ∨ clsN b = 4 := by
  unfold clsN
  repeat' split
  all_goals simp
end Go.Proofs.YthjpchnogllliaaGreatDoor.ScaB

/- Contracts of Fits and Same of the reference of package scalar. -/
set_option linter.unusedSimpArgs false
set_option linter.unusedVariables false
namespace Go.Proofs.YthjpchnogllliaaGreatDoor.ScaC
open Go.RowKit Nums Byt UtfM UtfS ScaM ScaV ScaA ScaB

theorem empty_list (t : ByteArray) (h : t.size = 0) : t.data.toList = [] := List.eq_nil_of_length_eq_zero h
theorem nonempty_list (t : ByteArray) (h : t.size ≠ 0) : t.data.toList.isEmpty = false := by
  cases hl : t.data.toList with
  | nil => exact absurd (show t.size = 0 from by rw [← size_toList, hl]; rfl) h
  | cons _ _ => rfl

theorem bcell {W w1 : World} (hb : Below W.heap.size W w1) : (∀ b o, b < W.heap.size → w1.cell? ⟨b, o, none⟩ = W.cell? ⟨b, o, none⟩) ∧ (∀ b o, b < W.heap.size → w1.frozen? ⟨b, o, none⟩ = W.frozen? ⟨b, o, none⟩) :=
  ⟨fun b o h => hb.cell (p := ⟨b, o, none⟩) h, fun b o h => hb.frozen (p := ⟨b, o, none⟩) h⟩
set_option maxHeartbeats 2000000 in
set_option maxRecDepth 100000 in
theorem fits_any (kd : Int) (v : SV) (hb : v.b ≤ 18446744073709551615) (w : World) : Calls Tryz.prog 33 #[.int .i64 kd, vv v] w fun e w' => e = .returned (.bool (fitsB kd (sc v))) ∧ Below w.heap.size w w' := by
  obtain ⟨k, b, t, a1, l1, c1, a2, l2, c2, a3, l3, c3, a4, l4, c4⟩ := v
  simp only [vv]
  simp only at hb
  cases h1 : isB kd with
  | false =>
    have hf : fitsB kd (sc ⟨k, b, t, a1, l1, c1, a2, l2, c2, a3, l3, c3, a4, l4, c4⟩) = false := by simp [fitsB, h1]
    have Hf := Lib.hid hf
    have H1 := Lib.hid h1
    clear hf h1 hb
    go_enter Tryz.func33, Tryz.ntmps33
    go_wp2_with fail
    refine (is_any _ _).mono ?_
    rintro _ w1 ⟨rfl, rfl⟩
    rw [H1.out]
    go_wp2_with fail
    go_ret
    exact ⟨ret_bool Hf.out.symm, below_box _ _⟩
  | true =>
    have H1 := Lib.hid h1
    by_cases h2 : k = kd
    · subst h2
      have n2 : (k != k) = false := by simp
      cases h3 : loneB (sc ⟨k, b, t, a1, l1, c1, a2, l2, c2, a3, l3, c3, a4, l4, c4⟩) with
      | false =>
        have hf : fitsB k (sc ⟨k, b, t, a1, l1, c1, a2, l2, c2, a3, l3, c3, a4, l4, c4⟩) = false := by simp [fitsB, h3]
        have Hf := Lib.hid hf
        have H3 := Lib.hid h3
        clear hf h1 h3 hb
        go_enter Tryz.func33, Tryz.ntmps33
        go_wp2_with fail
        refine (is_any _ _).mono ?_
        rintro _ w1 ⟨rfl, rfl⟩
        rw [H1.out]
        go_wp2_with fail
        refine (lone_any ⟨k, b, t, a1, l1, c1, a2, l2, c2, a3, l3, c3, a4, l4, c4⟩ _).mono ?_
        rintro _ w2 ⟨rfl, hb2⟩
        rw [H3.out]
        go_wp2_with fail
        go_ret
        exact ⟨ret_bool Hf.out.symm, bt (below_box _ _) hb2⟩
      | true =>
        have H3 := Lib.hid h3
        have hbase : fitsB k (sc ⟨k, b, t, a1, l1, c1, a2, l2, c2, a3, l3, c3, a4, l4, c4⟩) = if txB k then b == 0 && decide (t.size ≤ 4096) && (k == 8 || decide (bad t.data.toList < 0)) else t.data.toList.isEmpty && rgB k b := by
          have e : t.data.toList.length = t.size := rfl
          simp only [fitsB, h1, h3]
          simp [sc, e]
          try rfl
        cases h4 : txB k with
        | true =>
          have H4 := Lib.hid h4
          rw [h4, if_pos rfl] at hbase
          by_cases h5 : b = 0
          · have e5 : ((b : Int) == 0) = true := by simp [h5]
            have z5 : (b == 0) = true := by simp [h5]
            by_cases h6 : t.size ≤ 4096
            · have e6 : (t.size : Int) ≤ 4096 := by omega
              have d6 : decide ((t.size : Int) ≤ 4096) = true := by simp; omega
              have z6 : decide (t.size ≤ 4096) = true := by simp [h6]
              cases h8 : (k == 8) with
              | true =>
                rw [z5, z6, h8] at hbase
                have Hf := Lib.hid hbase
                clear hbase h1 h3 h4 h5 z5 z6 hb
                go_enter Tryz.func33, Tryz.ntmps33
                go_wp2_with fail
                refine (is_any _ _).mono ?_
                rintro _ w1 ⟨rfl, rfl⟩
                rw [H1.out]
                go_wp2_with fail
                refine (lone_any ⟨k, b, t, a1, l1, c1, a2, l2, c2, a3, l3, c3, a4, l4, c4⟩ _).mono ?_
                rintro _ w2 ⟨rfl, hb2⟩
                rw [H3.out]
                go_wp2_with fail
                obtain ⟨lc, lf⟩ := bcell hb2
                refine (texts_any _ _).mono ?_
                rintro _ w3 ⟨rfl, rfl⟩
                rw [H4.out]
                go_wp2_with fail
                go_ret
                exact ⟨ret_bool Hf.out.symm, bt (below_box _ _) hb2⟩
              | false =>
                rw [z5, z6, h8] at hbase
                have Hf := Lib.hid hbase
                clear hbase h1 h3 h4 h5 z5 z6 hb
                go_enter Tryz.func33, Tryz.ntmps33
                go_wp2_with fail
                refine (is_any _ _).mono ?_
                rintro _ w1 ⟨rfl, rfl⟩
                rw [H1.out]
                go_wp2_with fail
                refine (lone_any ⟨k, b, t, a1, l1, c1, a2, l2, c2, a3, l3, c3, a4, l4, c4⟩ _).mono ?_
                rintro _ w2 ⟨rfl, hb2⟩
                rw [H3.out]
                go_wp2_with fail
                obtain ⟨lc, lf⟩ := bcell hb2
                refine (texts_any _ _).mono ?_
                rintro _ w3 ⟨rfl, rfl⟩
                rw [H4.out]
                go_wp2_with fail
                refine (UtfB.rValid_any t (by omega) _).mono ?_
                rintro _ w4 ⟨rfl, rfl⟩
                go_wp2_with fail
                go_ret
                exact ⟨ret_bool (by rw [Hf.out]; rfl), bt (below_box _ _) hb2⟩
            · have d6 : decide ((t.size : Int) ≤ 4096) = false := by simp; omega
              have z6 : decide (t.size ≤ 4096) = false := by simp; omega
              rw [z5, z6] at hbase
              have Hf := Lib.hid hbase
              clear hbase h1 h3 h4 h5 h6 z5 z6 hb
              go_enter Tryz.func33, Tryz.ntmps33
              go_wp2_with fail
              refine (is_any _ _).mono ?_
              rintro _ w1 ⟨rfl, rfl⟩
              rw [H1.out]
              go_wp2_with fail
              refine (lone_any ⟨k, b, t, a1, l1, c1, a2, l2, c2, a3, l3, c3, a4, l4, c4⟩ _).mono ?_
              rintro _ w2 ⟨rfl, hb2⟩
              rw [H3.out]
              go_wp2_with fail
              obtain ⟨lc, lf⟩ := bcell hb2
              refine (texts_any _ _).mono ?_
              rintro _ w3 ⟨rfl, rfl⟩
              rw [H4.out]
              go_wp2_with fail
              go_ret
              exact ⟨ret_bool (by rw [Hf.out]; rfl), bt (below_box _ _) hb2⟩
          · have e5 : ((b : Int) == 0) = false := by rw [beq_eq_false_iff_ne]; omega
            have z5 : (b == 0) = false := by simp [h5]
            rw [z5] at hbase
            have Hf := Lib.hid hbase
            clear hbase h1 h3 h4 h5 z5 hb
            go_enter Tryz.func33, Tryz.ntmps33
            go_wp2_with fail
            refine (is_any _ _).mono ?_
            rintro _ w1 ⟨rfl, rfl⟩
            rw [H1.out]
            go_wp2_with fail
            refine (lone_any ⟨k, b, t, a1, l1, c1, a2, l2, c2, a3, l3, c3, a4, l4, c4⟩ _).mono ?_
            rintro _ w2 ⟨rfl, hb2⟩
            rw [H3.out]
            go_wp2_with fail
            obtain ⟨lc, lf⟩ := bcell hb2
            refine (texts_any _ _).mono ?_
            rintro _ w3 ⟨rfl, rfl⟩
            rw [H4.out]
            go_wp2_with fail
            go_ret
            exact ⟨ret_bool (by rw [Hf.out]; rfl), bt (below_box _ _) hb2⟩
        | false =>
          have H4 := Lib.hid h4
          rw [h4, if_neg (by simp)] at hbase
          by_cases h5 : t.size = 0
          · have e5 := empty_yes h5
            have z5 : t.data.toList.isEmpty = true := by rw [empty_list t h5]; rfl
            rw [z5, Bool.true_and] at hbase
            clear h1 h3 h4 h5 z5
            cases k1 : (k == 1) with
            | true =>
              have kk : k = 1 := by simpa using k1
              have k2 : (k == 2) = false := by rw [kk]; rfl
              have k4 : (k == 4) = false := by rw [kk]; rfl
              have k9 : (k == 9) = false := by rw [kk]; rfl
              have hr : rgB k b = decide ((b : Int) ≤ 1) := by rw [kk]; simp only [rgB]; simp; omega
              have Hf := Lib.hid (hbase.trans hr)
              clear hbase hr kk hb
              go_enter Tryz.func33, Tryz.ntmps33
              go_wp2_with fail
              refine (is_any _ _).mono ?_
              rintro _ w1 ⟨rfl, rfl⟩
              rw [H1.out]
              go_wp2_with fail
              refine (lone_any ⟨k, b, t, a1, l1, c1, a2, l2, c2, a3, l3, c3, a4, l4, c4⟩ _).mono ?_
              rintro _ w2 ⟨rfl, hb2⟩
              rw [H3.out]
              go_wp2_with fail
              obtain ⟨lc, lf⟩ := bcell hb2
              refine (texts_any _ _).mono ?_
              rintro _ w3 ⟨rfl, rfl⟩
              rw [H4.out]
              go_wp2_with fail
              go_ret
              exact ⟨ret_bool (by rw [Hf.out]), bt (below_box _ _) hb2⟩
            | false =>
              cases k2 : (k == 2) with
              | true =>
                have kk : k = 2 := by simpa using k2
                have k4 : (k == 4) = false := by rw [kk]; rfl
                have k9 : (k == 9) = false := by rw [kk]; rfl
                have hr : rgB k b = (decide (-2147483648 ≤ sI b) && decide (sI b ≤ 2147483647)) := by rw [kk]; simp [rgB]
                have hw := wrap_sI hb
                have Hf := Lib.hid (hbase.trans hr)
                obtain ⟨x, hx⟩ : ∃ x, x = sI b := ⟨_, rfl⟩
                rw [← hx] at hw
                have Hx := Lib.hid hx
                clear hbase hr kk hx hb
                by_cases q1 : -2147483648 ≤ x
                · by_cases q2 : x ≤ 2147483647
                  · have y1 : decide (-2147483648 ≤ x) = true := by simp [q1]
                    have y2 : decide (x ≤ 2147483647) = true := by simp [q2]
                    go_enter Tryz.func33, Tryz.ntmps33
                    go_wp2_with fail
                    refine (is_any _ _).mono ?_
                    rintro _ w1 ⟨rfl, rfl⟩
                    rw [H1.out]
                    go_wp2_with fail
                    refine (lone_any ⟨k, b, t, a1, l1, c1, a2, l2, c2, a3, l3, c3, a4, l4, c4⟩ _).mono ?_
                    rintro _ w2 ⟨rfl, hb2⟩
                    rw [H3.out]
                    go_wp2_with fail
                    obtain ⟨lc, lf⟩ := bcell hb2
                    refine (texts_any _ _).mono ?_
                    rintro _ w3 ⟨rfl, rfl⟩
                    rw [H4.out]
                    go_wp2_with fail
                    go_ret
                    exact ⟨ret_bool (by rw [Hf.out, ← Hx.out, y1, y2]; rfl), bt (below_box _ _) hb2⟩
                  · have y1 : decide (-2147483648 ≤ x) = true := by simp [q1]
                    have y2 : decide (x ≤ 2147483647) = false := by simp; omega
                    go_enter Tryz.func33, Tryz.ntmps33
                    go_wp2_with fail
                    refine (is_any _ _).mono ?_
                    rintro _ w1 ⟨rfl, rfl⟩
                    rw [H1.out]
                    go_wp2_with fail
                    refine (lone_any ⟨k, b, t, a1, l1, c1, a2, l2, c2, a3, l3, c3, a4, l4, c4⟩ _).mono ?_
                    rintro _ w2 ⟨rfl, hb2⟩
                    rw [H3.out]
                    go_wp2_with fail
                    obtain ⟨lc, lf⟩ := bcell hb2
                    refine (texts_any _ _).mono ?_
                    rintro _ w3 ⟨rfl, rfl⟩
                    rw [H4.out]
                    go_wp2_with fail
                    go_ret
                    exact ⟨ret_bool (by rw [Hf.out, ← Hx.out, y1, y2]; rfl), bt (below_box _ _) hb2⟩
                · have y1 : decide (-2147483648 ≤ x) = false := by simp; omega
                  go_enter Tryz.func33, Tryz.ntmps33
                  go_wp2_with fail
                  refine (is_any _ _).mono ?_
                  rintro _ w1 ⟨rfl, rfl⟩
                  rw [H1.out]
                  go_wp2_with fail
                  refine (lone_any ⟨k, b, t, a1, l1, c1, a2, l2, c2, a3, l3, c3, a4, l4, c4⟩ _).mono ?_
                  rintro _ w2 ⟨rfl, hb2⟩
                  rw [H3.out]
                  go_wp2_with fail
                  obtain ⟨lc, lf⟩ := bcell hb2
                  refine (texts_any _ _).mono ?_
                  rintro _ w3 ⟨rfl, rfl⟩
                  rw [H4.out]
                  go_wp2_with fail
                  go_ret
                  exact ⟨ret_bool (by rw [Hf.out, ← Hx.out, y1]; rfl), bt (below_box _ _) hb2⟩
              | false =>
                cases k4 : (k == 4) with
                | true =>
                  have kk : k = 4 := by simpa using k4
                  have k9 : (k == 9) = false := by rw [kk]; rfl
                  have hr : rgB k b = decide ((b : Int) < 4294967296) := by rw [kk]; simp only [rgB]; simp; omega
                  have Hf := Lib.hid (hbase.trans hr)
                  clear hbase hr kk hb
                  go_enter Tryz.func33, Tryz.ntmps33
                  go_wp2_with fail
                  refine (is_any _ _).mono ?_
                  rintro _ w1 ⟨rfl, rfl⟩
                  rw [H1.out]
                  go_wp2_with fail
                  refine (lone_any ⟨k, b, t, a1, l1, c1, a2, l2, c2, a3, l3, c3, a4, l4, c4⟩ _).mono ?_
                  rintro _ w2 ⟨rfl, hb2⟩
                  rw [H3.out]
                  go_wp2_with fail
                  obtain ⟨lc, lf⟩ := bcell hb2
                  refine (texts_any _ _).mono ?_
                  rintro _ w3 ⟨rfl, rfl⟩
                  rw [H4.out]
                  go_wp2_with fail
                  go_ret
                  exact ⟨ret_bool (by rw [Hf.out]), bt (below_box _ _) hb2⟩
                | false =>
                  cases k9 : (k == 9) with
                  | true =>
                    have kk : k = 9 := by simpa using k9
                    have hr : rgB k b = decide ((b : Int) < 2147483648) := by rw [kk]; simp only [rgB]; simp; omega
                    have Hf := Lib.hid (hbase.trans hr)
                    clear hbase hr kk hb
                    go_enter Tryz.func33, Tryz.ntmps33
                    go_wp2_with fail
                    refine (is_any _ _).mono ?_
                    rintro _ w1 ⟨rfl, rfl⟩
                    rw [H1.out]
                    go_wp2_with fail
                    refine (lone_any ⟨k, b, t, a1, l1, c1, a2, l2, c2, a3, l3, c3, a4, l4, c4⟩ _).mono ?_
                    rintro _ w2 ⟨rfl, hb2⟩
                    rw [H3.out]
                    go_wp2_with fail
                    obtain ⟨lc, lf⟩ := bcell hb2
                    refine (texts_any _ _).mono ?_
                    rintro _ w3 ⟨rfl, rfl⟩
                    rw [H4.out]
                    go_wp2_with fail
                    go_ret
                    exact ⟨ret_bool (by rw [Hf.out]), bt (below_box _ _) hb2⟩
                  | false =>
                    have hr : rgB k b = true := by
                      have f1 : k ≠ 1 := by simpa using k1
                      have f2 : k ≠ 2 := by simpa using k2
                      have f4 : k ≠ 4 := by simpa using k4
                      have f9 : k ≠ 9 := by simpa using k9
                      simp [rgB, f1, f2, f4, f9]
                    have Hf := Lib.hid (hbase.trans hr)
                    clear hbase hr hb
                    go_enter Tryz.func33, Tryz.ntmps33
                    go_wp2_with fail
                    refine (is_any _ _).mono ?_
                    rintro _ w1 ⟨rfl, rfl⟩
                    rw [H1.out]
                    go_wp2_with fail
                    refine (lone_any ⟨k, b, t, a1, l1, c1, a2, l2, c2, a3, l3, c3, a4, l4, c4⟩ _).mono ?_
                    rintro _ w2 ⟨rfl, hb2⟩
                    rw [H3.out]
                    go_wp2_with fail
                    obtain ⟨lc, lf⟩ := bcell hb2
                    refine (texts_any _ _).mono ?_
                    rintro _ w3 ⟨rfl, rfl⟩
                    rw [H4.out]
                    go_wp2_with fail
                    go_ret
                    exact ⟨ret_bool (by rw [Hf.out]), bt (below_box _ _) hb2⟩
          · have e5 := empty_no h5
            have z5 := nonempty_list t h5
            rw [z5, Bool.false_and] at hbase
            have Hf := Lib.hid hbase
            clear hbase h1 h3 h4 h5 z5 hb
            go_enter Tryz.func33, Tryz.ntmps33
            go_wp2_with fail
            refine (is_any _ _).mono ?_
            rintro _ w1 ⟨rfl, rfl⟩
            rw [H1.out]
            go_wp2_with fail
            refine (lone_any ⟨k, b, t, a1, l1, c1, a2, l2, c2, a3, l3, c3, a4, l4, c4⟩ _).mono ?_
            rintro _ w2 ⟨rfl, hb2⟩
            rw [H3.out]
            go_wp2_with fail
            obtain ⟨lc, lf⟩ := bcell hb2
            refine (texts_any _ _).mono ?_
            rintro _ w3 ⟨rfl, rfl⟩
            rw [H4.out]
            go_wp2_with fail
            go_ret
            exact ⟨ret_bool (by rw [Hf.out]), bt (below_box _ _) hb2⟩
    · have n2 : (k != kd) = true := by rw [bne_iff_ne]; exact h2
      have hf : fitsB kd (sc ⟨k, b, t, a1, l1, c1, a2, l2, c2, a3, l3, c3, a4, l4, c4⟩) = false := by simp [fitsB, sc, h2]
      have Hf := Lib.hid hf
      clear hf h1 h2 hb
      go_enter Tryz.func33, Tryz.ntmps33
      go_wp2_with fail
      refine (is_any _ _).mono ?_
      rintro _ w1 ⟨rfl, rfl⟩
      rw [H1.out]
      go_wp2_with fail
      go_ret
      exact ⟨ret_bool Hf.out.symm, below_box _ _⟩
end Go.Proofs.YthjpchnogllliaaGreatDoor.ScaC
