import Derived.Test.YtoinfjdhbopefaaGreatDoorTkpB
import Derived.Test.YtoinfjdhbopefaaGreatDoorTkrC
/- Package token of the program: what stands at the beginning of a text, comments, taking a token. -/
set_option linter.unusedSimpArgs false
set_option linter.unusedVariables false
namespace Go.Proofs.YtoinfjdhbopefaaGreatDoor.TkpC
open Go.RowKit Nums IdnM IdnC TokM TokD TokS TkrD TkpM TkpA TkpB Box4

theorem index_one (c : UInt8) : ∀ l : List UInt8, decide (0 ≤ Lib.index l [c]) = l.contains c
  | [] => rfl
  | b :: t => by
    by_cases h : b = c
    · subst h
      rw [index_cons_eq]
      simp
    · have ih := index_one c t
      have hc : (b :: t).contains c = t.contains c := by simp [h, Ne.symm h]
      rw [index_cons_ne t h, hc, ← ih]
      by_cases h1 : Lib.index t [c] = -1
      · rw [if_pos (by rw [beq_iff_eq]; exact h1), h1]
      · rw [if_neg (by rw [beq_iff_eq]; exact h1)]
        have hge := Lib.index_ge t [c]
        rw [Bool.eq_iff_iff, decide_eq_true_eq, decide_eq_true_eq]
        omega
theorem contains_one (l : List UInt8) (c : UInt8) : Lib.contains l [c] = l.contains c := index_one c l
theorem sgn_data : (⟨#[123, 125, 91, 93, 40, 41, 60, 62, 61, 59, 44, 64, 45]⟩ : ByteArray).data.toList = signs := rfl
theorem one_data {s : ByteArray} (h : s.size = 1) : s.data.toList = [s[0]'(by omega)] := by
  have hl : s.data.toList.length = 1 := h
  match e : s.data.toList, hl with
  | [b], _ =>
    have h1 : s.data.toList[0]? = some (s[0]'(by omega)) := List.getElem?_eq_getElem (show 0 < s.data.toList.length by omega)
    rw [e] at h1
    rw [Option.some.inj h1]
set_option maxHeartbeats 2000000 in
set_option maxRecDepth 100000 in
theorem isSign_any (s : ByteArray) (w : World) (hL : Tld.Ld w) :
    Calls Tryz.prog 30 #[.string s] w fun e w' => e = .returned (.bool (TkrA.signB s.data.toList)) ∧ w = w' := by
  obtain ⟨m, hm⟩ := hL.u.mx
  obtain ⟨B, hB⟩ : ∃ B, B = TkrA.signB s.data.toList := ⟨_, rfl⟩
  rw [← hB]
  by_cases h1 : s.size = 1
  · have d1 : ((s.size : Int) == 1) = true := by rw [beq_iff_eq]; omega
    have hB2 : Lib.contains (⟨#[123, 125, 91, 93, 40, 41, 60, 62, 61, 59, 44, 64, 45]⟩ : ByteArray).data.toList s.data.toList = B := by
      rw [sgn_data, one_data h1, contains_one, hB, TkrA.signB_one h1]
    have HB := Lib.hid hB2
    clear hB hB2
    go_enter Tryz.func30, Tryz.ntmps30
    go_wp2_with fail
    refine (Tryz.strings_Contains ⟨#[123, 125, 91, 93, 40, 41, 60, 62, 61, 59, 44, 64, 45]⟩ s m _ (by decide) hm).mono ?_
    rintro _ w1 ⟨rfl, rfl⟩
    rw [HB.out]
    go_wp2_with fail
    go_ret
    exact ⟨rfl, rfl⟩
  · have d1 : ((s.size : Int) == 1) = false := by rw [beq_eq_false_iff_ne]; omega
    have HB := Lib.hid (show B = false by rw [hB]; exact TkrA.signB_len h1)
    clear hB
    go_enter Tryz.func30, Tryz.ntmps30
    go_wp2_with fail
    go_ret
    exact ⟨by rw [HB.out]; rfl, rfl⟩

/-- How long the comment is that a text begins with. -/
def clen (l : List UInt8) : Nat := (l.takeWhile fun c => decide (c ≠ 10)).length
theorem clen_le (l : List UInt8) : clen l ≤ l.length := (List.takeWhile_prefix _).length_le
theorem clen_skip (l : List UInt8) : l.drop (clen l) = skipc l := by
  unfold clen skipc
  induction l with
  | nil => rfl
  | cons b t ih =>
    by_cases hb : b = 10
    · rw [List.takeWhile_cons_of_neg (by simp [hb]), List.dropWhile_cons_of_neg (by simp [hb])]; rfl
    · rw [List.takeWhile_cons_of_pos (by simpa using hb), List.dropWhile_cons_of_pos (by simpa using hb), List.length_cons, List.drop_succ_cons]
      exact ih
theorem ix_10 : ∀ l : List UInt8, (Lib.indexByte l 10 = -1 ∧ clen l = l.length) ∨ Lib.indexByte l 10 = (clen l : Int)
  | [] => .inl ⟨rfl, rfl⟩
  | b :: t => by
    by_cases hb : b = 10
    · right
      unfold clen
      rw [List.takeWhile_cons_of_neg (by simp [hb]), Lib.indexByte, if_pos (by rw [hb]; rfl)]
      rfl
    · have hc : clen (b :: t) = clen t + 1 := by
        unfold clen
        rw [List.takeWhile_cons_of_pos (by simpa using hb)]; rfl
      rw [Lib.indexByte, if_neg (by rw [beq_iff_eq]; exact hb), hc]
      rcases ix_10 t with ⟨h1, h2⟩ | h1
      · left
        rw [if_pos (by rw [h1]; rfl), h2]
        exact ⟨rfl, rfl⟩
      · right
        rw [if_neg (by rw [h1, beq_iff_eq]; omega), h1]
        omega
set_option maxHeartbeats 2000000 in
set_option maxRecDepth 100000 in
theorem commentLength_any (s : ByteArray) (w : World) :
    Calls Tryz.prog 15 #[.string s] w fun e w' => e = .returned (.int .i64 (clen s.data.toList : Int)) ∧ w = w' := by
  obtain ⟨C, hC⟩ : ∃ C, C = clen s.data.toList := ⟨_, rfl⟩
  rw [← hC]
  rcases ix_10 s.data.toList with ⟨h1, h2⟩ | h1
  · have HC := Lib.hid (show C = s.size by rw [hC, h2]; rfl)
    have H1 := Lib.hid h1
    clear hC h1 h2
    go_enter Tryz.func15, Tryz.ntmps15
    go_wp2_with fail
    refine (UtfS.indexByte s 10 _ rfl _).mono ?_
    rintro _ wz ⟨rfl, rfl⟩
    rw [H1.out]
    go_wp2_with fail
    go_ret
    exact ⟨ret_int (by rw [HC.out]), rfl⟩
  · rw [← hC] at h1
    have d0 : decide ((0 : Int) ≤ (C : Int)) = true := decide_eq_true (by omega)
    have H1 := Lib.hid h1
    clear hC h1
    go_enter Tryz.func15, Tryz.ntmps15
    go_wp2_with fail
    refine (UtfS.indexByte s 10 _ rfl _).mono ?_
    rintro _ wz ⟨rfl, rfl⟩
    rw [H1.out]
    go_wp2_with fail
    go_ret
    exact ⟨rfl, rfl⟩

theorem stP_cases (b : UInt8) (t : List UInt8) : (ws b = true ∧ stP b t = 0) ∨ (ws b = false ∧ ((b = 10 ∧ stP b t = 1) ∨ (b ≠ 10 ∧ (((b = 47 ∧ t.head? = some 47) ∧ stP b t = 2) ∨ (¬ (b = 47 ∧ t.head? = some 47) ∧
    ((atN b t = true ∧ stP b t = 3) ∨ (atN b t = false ∧ ((dg b = true ∧ stP b t = 4) ∨ (dg b = false ∧ ((b = 34 ∧ stP b t = 5) ∨ (b ≠ 34 ∧ ((signs.contains b = true ∧ stP b t = 6) ∨ (signs.contains b = false ∧ stP b t = 7)))))))))))) ) := by
  unfold stP
  cases h1 : ws b with
  | true => left; exact ⟨rfl, if_pos rfl⟩
  | false =>
    right
    refine ⟨rfl, ?_⟩
    rw [if_neg (by simp)]
    by_cases h2 : b = 10
    · left; exact ⟨h2, if_pos h2⟩
    · right
      refine ⟨h2, ?_⟩
      rw [if_neg h2]
      by_cases h3 : b = 47 ∧ t.head? = some 47
      · left; exact ⟨h3, if_pos h3⟩
      · right
        refine ⟨h3, ?_⟩
        rw [if_neg h3]
        cases h4 : atN b t with
        | true => left; exact ⟨rfl, if_pos rfl⟩
        | false =>
          right
          refine ⟨rfl, ?_⟩
          rw [if_neg (by simp)]
          cases h5 : dg b with
          | true => left; exact ⟨rfl, if_pos rfl⟩
          | false =>
            right
            refine ⟨rfl, ?_⟩
            rw [if_neg (by simp)]
            by_cases h6 : b = 34
            · left; exact ⟨h6, if_pos h6⟩
            · right
              refine ⟨h6, ?_⟩
              rw [if_neg h6]
              cases h7 : signs.contains b with
              | true => left; exact ⟨rfl, if_pos rfl⟩
              | false => right; exact ⟨rfl, if_neg (by simp)⟩
theorem pre_47 (b : UInt8) (t : List UInt8) : Lib.hasPrefix (b :: t) [47, 47] = decide (b = 47 ∧ t.head? = some 47) := by
  unfold Lib.hasPrefix
  cases t with
  | nil => simp [List.isPrefixOf]
  | cons c r =>
    by_cases h : b = 47
    · by_cases h2 : c = 47
      · simp [List.isPrefixOf, h, h2]
      · simp [List.isPrefixOf, h, h2, Ne.symm h2]
    · simp [List.isPrefixOf, h, Ne.symm h]
theorem first_b {s : ByteArray} {b : UInt8} {t : List UInt8} (hd : s.data.toList = b :: t) : ∃ h : 0 < s.size, s[0] = b := by
  have hp : 0 < s.size := by
    have h0 : s.data.toList.length = s.size := rfl
    rw [hd] at h0
    simp only [List.length_cons] at h0
    omega
  refine ⟨hp, ?_⟩
  have h0 : s.data.toList[0]? = some s[0] := List.getElem?_eq_getElem (show 0 < s.data.toList.length from hp)
  rw [hd] at h0
  exact (Option.some.inj h0).symm
set_option maxHeartbeats 2000000 in
set_option maxRecDepth 100000 in
theorem stateAt_any (s : ByteArray) (b : UInt8) (t : List UInt8) (hs : s.size ≤ 16384) (hd : s.data.toList = b :: t) (w : World) (hL : Tld.Ld w) :
    Calls Tryz.prog 14 #[.string s] w fun e w' => e = .returned (.int .i64 (stP b t : Int)) ∧ w = w' := by
  obtain ⟨hp, hb0⟩ := first_b hd
  obtain ⟨S, hS⟩ : ∃ S, S = stP b t := ⟨_, rfl⟩
  rw [← hS]
  have hcm : Lib.hasPrefix s.data.toList (⟨#[47, 47]⟩ : ByteArray).data.toList = decide (b = 47 ∧ t.head? = some 47) := by rw [hd]; exact pre_47 b t
  have hid : idot s.data.toList = idot (b :: t) := by rw [hd]
  obtain ⟨Y, hY⟩ : ∃ Y, Y = s.extract 0 1 := ⟨_, rfl⟩
  have hYd : Y.data.toList = [b] := by rw [hY, take_k, hd]; rfl
  have hsg : TkrA.signB Y.data.toList = signs.contains b := by rw [hYd]; rfl
  have t10 : ((s[0].toNat : Int) == 10) = decide (b = 10) := by rw [hb0]; exact eqb (n := 10) (by decide)
  have t32 : ((s[0].toNat : Int) == 32) = decide (b = 32) := by rw [hb0]; exact eqb (n := 32) (by decide)
  have t9 : ((s[0].toNat : Int) == 9) = decide (b = 9) := by rw [hb0]; exact eqb (n := 9) (by decide)
  have t13 : ((s[0].toNat : Int) == 13) = decide (b = 13) := by rw [hb0]; exact eqb (n := 13) (by decide)
  have t34 : ((s[0].toNat : Int) == 34) = decide (b = 34) := by rw [hb0]; exact eqb (n := 34) (by decide)
  have HY := Lib.hid hY
  have Hb0 := Lib.hid hb0
  clear hY hYd hb0 hd
  have hst := stP_cases b t
  rw [← hS] at hst
  clear hS
  rcases hst with ⟨hw, hS⟩ | ⟨hw, hst⟩
  · have HS := Lib.hid hS
    simp only [ws, Bool.or_eq_true, decide_eq_true_eq] at hw
    clear hcm hid hsg t10 t34 hS
    by_cases h32 : b = 32
    · rw [decide_eq_true h32] at t32
      clear hw h32 t9 t13
      go_enter Tryz.func14, Tryz.ntmps14
      go_wp2_with fail
      go_ret
      exact ⟨by rw [HS.out]; rfl, rfl⟩
    · rw [decide_eq_false h32] at t32
      by_cases h9 : b = 9
      · rw [decide_eq_true h9] at t9
        clear hw h32 h9 t13
        go_enter Tryz.func14, Tryz.ntmps14
        go_wp2_with fail
        go_ret
        exact ⟨by rw [HS.out]; rfl, rfl⟩
      · rw [decide_eq_false h9] at t9
        have h13 : b = 13 := by
          rcases hw with (h | h) | h
          · exact absurd h h32
          · exact absurd h h9
          · exact h
        rw [decide_eq_true h13] at t13
        clear hw h32 h9 h13
        go_enter Tryz.func14, Tryz.ntmps14
        go_wp2_with fail
        go_ret
        exact ⟨by rw [HS.out]; rfl, rfl⟩
  · simp only [ws, Bool.or_eq_false_iff, decide_eq_false_iff_not] at hw
    obtain ⟨⟨h32, h9⟩, h13⟩ := hw
    rw [decide_eq_false h32] at t32
    rw [decide_eq_false h9] at t9
    rw [decide_eq_false h13] at t13
    clear h32 h9 h13
    rcases hst with ⟨h10, hS⟩ | ⟨h10, hst⟩
    · have HS := Lib.hid hS
      rw [decide_eq_true h10] at t10
      clear hcm hid hsg t34 hS h10
      go_enter Tryz.func14, Tryz.ntmps14
      go_wp2_with fail
      go_ret
      exact ⟨by rw [HS.out]; rfl, rfl⟩
    · rw [decide_eq_false h10] at t10
      clear h10
      rcases hst with ⟨hc, hS⟩ | ⟨hc, hst⟩
      · have HS := Lib.hid hS
        have Hcm := Lib.hid (hcm.trans (decide_eq_true hc))
        clear hcm hid hsg t34 hS hc
        go_enter Tryz.func14, Tryz.ntmps14
        go_wp2_with fail
        refine (UtfS.hasPrefix s ⟨#[47, 47]⟩ _).mono ?_
        rintro _ wz ⟨rfl, rfl⟩
        rw [Hcm.out]
        go_wp2_with fail
        go_ret
        exact ⟨by rw [HS.out]; rfl, rfl⟩
      · have Hcm := Lib.hid (hcm.trans (decide_eq_false hc))
        clear hcm hc
        rcases hst with ⟨ha, hS⟩ | ⟨ha, hst⟩
        · have HS := Lib.hid hS
          unfold atN at ha
          cases hl : ltr b with
          | true =>
            have H1 := Lib.hid (show ltr s[0] = true by rw [Hb0.out]; exact hl)
            clear hid hsg t34 hS ha hl
            go_enter Tryz.func14, Tryz.ntmps14
            go_wp2_with fail
            refine (UtfS.hasPrefix s ⟨#[47, 47]⟩ _).mono ?_
            rintro _ wz ⟨rfl, rfl⟩
            rw [Hcm.out]
            go_wp2_with fail
            refine (isLetter_any s[0] _).mono ?_
            rintro _ wz ⟨rfl, rfl⟩
            rw [H1.out]
            go_wp2_with fail
            go_ret
            exact ⟨by rw [HS.out]; rfl, rfl⟩
          | false =>
            rw [hl, Bool.false_or] at ha
            have H1 := Lib.hid (show ltr s[0] = false by rw [Hb0.out]; exact hl)
            have H2 := Lib.hid (hid.trans ha)
            clear hid hsg t34 hS ha hl
            go_enter Tryz.func14, Tryz.ntmps14
            go_wp2_with fail
            refine (UtfS.hasPrefix s ⟨#[47, 47]⟩ _).mono ?_
            rintro _ wz ⟨rfl, rfl⟩
            rw [Hcm.out]
            go_wp2_with fail
            refine (isLetter_any s[0] _).mono ?_
            rintro _ wz ⟨rfl, rfl⟩
            rw [H1.out]
            go_wp2_with fail
            refine (isInnerDot_any s _).mono ?_
            rintro _ wz ⟨rfl, rfl⟩
            rw [H2.out]
            go_wp2_with fail
            go_ret
            exact ⟨by rw [HS.out]; rfl, rfl⟩
        · unfold atN at ha
          rw [Bool.or_eq_false_iff] at ha
          have H1 := Lib.hid (show ltr s[0] = false by rw [Hb0.out]; exact ha.1)
          have H2 := Lib.hid (hid.trans ha.2)
          clear hid ha
          rcases hst with ⟨hg, hS⟩ | ⟨hg, hst⟩
          · have HS := Lib.hid hS
            have H3 := Lib.hid (show dg s[0] = true by rw [Hb0.out]; exact hg)
            clear hsg t34 hS hg
            go_enter Tryz.func14, Tryz.ntmps14
            go_wp2_with fail
            refine (UtfS.hasPrefix s ⟨#[47, 47]⟩ _).mono ?_
            rintro _ wz ⟨rfl, rfl⟩
            rw [Hcm.out]
            go_wp2_with fail
            refine (isLetter_any s[0] _).mono ?_
            rintro _ wz ⟨rfl, rfl⟩
            rw [H1.out]
            go_wp2_with fail
            refine (isInnerDot_any s _).mono ?_
            rintro _ wz ⟨rfl, rfl⟩
            rw [H2.out]
            go_wp2_with fail
            refine (isDigit_any s[0] _).mono ?_
            rintro _ wz ⟨rfl, rfl⟩
            rw [H3.out]
            go_wp2_with fail
            go_ret
            exact ⟨by rw [HS.out]; rfl, rfl⟩
          · have H3 := Lib.hid (show dg s[0] = false by rw [Hb0.out]; exact hg)
            clear hg
            rcases hst with ⟨h34, hS⟩ | ⟨h34, hst⟩
            · have HS := Lib.hid hS
              rw [decide_eq_true h34] at t34
              clear hsg hS h34
              go_enter Tryz.func14, Tryz.ntmps14
              go_wp2_with fail
              refine (UtfS.hasPrefix s ⟨#[47, 47]⟩ _).mono ?_
              rintro _ wz ⟨rfl, rfl⟩
              rw [Hcm.out]
              go_wp2_with fail
              refine (isLetter_any s[0] _).mono ?_
              rintro _ wz ⟨rfl, rfl⟩
              rw [H1.out]
              go_wp2_with fail
              refine (isInnerDot_any s _).mono ?_
              rintro _ wz ⟨rfl, rfl⟩
              rw [H2.out]
              go_wp2_with fail
              refine (isDigit_any s[0] _).mono ?_
              rintro _ wz ⟨rfl, rfl⟩
              rw [H3.out]
              go_wp2_with fail
              go_ret
              exact ⟨by rw [HS.out]; rfl, rfl⟩
            · rw [decide_eq_false h34] at t34
              clear h34
              rcases hst with ⟨hsc, hS⟩ | ⟨hsc, hS⟩
              · have HS := Lib.hid hS
                have H4 := Lib.hid (hsg.trans hsc)
                clear hsg hS hsc
                go_enter Tryz.func14, Tryz.ntmps14
                go_wp2_with fail
                refine (UtfS.hasPrefix s ⟨#[47, 47]⟩ _).mono ?_
                rintro _ wz ⟨rfl, rfl⟩
                rw [Hcm.out]
                go_wp2_with fail
                refine (isLetter_any s[0] _).mono ?_
                rintro _ wz ⟨rfl, rfl⟩
                rw [H1.out]
                go_wp2_with fail
                refine (isInnerDot_any s _).mono ?_
                rintro _ wz ⟨rfl, rfl⟩
                rw [H2.out]
                go_wp2_with fail
                refine (isDigit_any s[0] _).mono ?_
                rintro _ wz ⟨rfl, rfl⟩
                rw [H3.out]
                go_wp2_with fail
                rw [← HY.out]
                refine (isSign_any Y _ hL).mono ?_
                rintro _ wz ⟨rfl, rfl⟩
                rw [H4.out]
                go_wp2_with fail
                go_ret
                exact ⟨by rw [HS.out]; rfl, rfl⟩
              · have HS := Lib.hid hS
                have H4 := Lib.hid (hsg.trans hsc)
                clear hsg hS hsc
                go_enter Tryz.func14, Tryz.ntmps14
                go_wp2_with fail
                refine (UtfS.hasPrefix s ⟨#[47, 47]⟩ _).mono ?_
                rintro _ wz ⟨rfl, rfl⟩
                rw [Hcm.out]
                go_wp2_with fail
                refine (isLetter_any s[0] _).mono ?_
                rintro _ wz ⟨rfl, rfl⟩
                rw [H1.out]
                go_wp2_with fail
                refine (isInnerDot_any s _).mono ?_
                rintro _ wz ⟨rfl, rfl⟩
                rw [H2.out]
                go_wp2_with fail
                refine (isDigit_any s[0] _).mono ?_
                rintro _ wz ⟨rfl, rfl⟩
                rw [H3.out]
                go_wp2_with fail
                rw [← HY.out]
                refine (isSign_any Y _ hL).mono ?_
                rintro _ wz ⟨rfl, rfl⟩
                rw [H4.out]
                go_wp2_with fail
                go_ret
                exact ⟨by rw [HS.out]; rfl, rfl⟩

set_option maxHeartbeats 2000000 in
set_option maxRecDepth 100000 in
theorem take_3 (s : ByteArray) (b : UInt8) (t : List UInt8) (hs : s.size ≤ 16384) (hd : s.data.toList = b :: t) (ha : atN b t = true) (w : World) (hL : Tld.Ld w) :
    Calls Tryz.prog 16 #[.int .i64 3, .string s] w fun e w' => RB (one s.data.toList) 0 w e w' := by
  have hone : one s.data.toList = one s.data.toList := rfl
  have Hone := Lib.hid hone
  obtain ⟨X, hX⟩ : ∃ X, X = one s.data.toList := ⟨_, rfl⟩
  rw [← hX]
  have HX := Lib.hid hX
  clear hX hone
  go_enter Tryz.func16, Tryz.ntmps16
  go_wp2_with fail
  refine (takeName_any s b t hs hd ha _ (hL.alloc _)).mono ?_
  rintro _ w1 ⟨v, rfl, ⟨k, n, er, rfl, hsp⟩, hb⟩
  have Hsp := Lib.hid hsp
  clear hsp
  have B := (b4_new w (.int .i64 0) (.string ⟨#[]⟩) (.int .i64 0) (.int .i64 0) 35).below hb
  obtain ⟨_, p0, p1, p2, p3, pf⟩ := B
  have hb1 := ((Below.refl _ _).alloc (Nat.le_refl _) _).trans (hb.mono (by simp))
  clear hb
  unfold tv
  rw [Nat.zero_add]
  go_wp2_with fail
  exact bodyPost_ret (v := .tuple #[.agg #[.int .i64 k.kind, .string ⟨k.text.toArray⟩, .int .i64 k.num, .int .i64 0], .int .i64 n, .int .i64 er]) (by simp [results, Tryz.results16, go_sem, p0, p1, p2, p3]) rfl (rb_raw (n := n) (by rw [HX.out]; exact Hsp.out) (by simp) (below4 hb1 (Nat.le_refl _) _ _ _ _))

set_option maxHeartbeats 2000000 in
set_option maxRecDepth 100000 in
theorem take_4 (s : ByteArray) (b : UInt8) (t : List UInt8) (hs : s.size ≤ 16384) (hd : s.data.toList = b :: t) (ha : atN b t = false) (hg : dg b = true) (w : World) (hL : Tld.Ld w) :
    Calls Tryz.prog 16 #[.int .i64 4, .string s] w fun e w' => RB (one s.data.toList) 0 w e w' := by
  have hone : one s.data.toList = intE s.data.toList := by rw [hd]; exact one_intE (nm_none ha) hg
  have Hone := Lib.hid hone
  obtain ⟨X, hX⟩ : ∃ X, X = one s.data.toList := ⟨_, rfl⟩
  rw [← hX]
  have HX := Lib.hid hX
  clear hX hone
  go_enter Tryz.func16, Tryz.ntmps16
  go_wp2_with fail
  refine (takeInt_any s b t hs hd hg _ (hL.alloc _)).mono ?_
  rintro _ w1 ⟨v, rfl, ⟨k, n, er, rfl, hsp⟩, hb⟩
  have Hsp := Lib.hid hsp
  clear hsp
  have B := (b4_new w (.int .i64 0) (.string ⟨#[]⟩) (.int .i64 0) (.int .i64 0) 35).below hb
  obtain ⟨_, p0, p1, p2, p3, pf⟩ := B
  have hb1 := ((Below.refl _ _).alloc (Nat.le_refl _) _).trans (hb.mono (by simp))
  clear hb
  unfold tv
  rw [Nat.zero_add]
  go_wp2_with fail
  exact bodyPost_ret (v := .tuple #[.agg #[.int .i64 k.kind, .string ⟨k.text.toArray⟩, .int .i64 k.num, .int .i64 0], .int .i64 n, .int .i64 er]) (by simp [results, Tryz.results16, go_sem, p0, p1, p2, p3]) rfl (rb_raw (n := n) (by rw [HX.out, Hone.out]; exact Hsp.out) (by simp) (below4 hb1 (Nat.le_refl _) _ _ _ _))

set_option maxHeartbeats 2000000 in
set_option maxRecDepth 100000 in
theorem take_5 (s : ByteArray) (b : UInt8) (t : List UInt8) (hs : s.size ≤ 16384) (hd : s.data.toList = b :: t) (hq : b = 34) (w : World) (hL : Tld.Ld w) :
    Calls Tryz.prog 16 #[.int .i64 5, .string s] w fun e w' => RB (one s.data.toList) 0 w e w' := by
  have hone : one s.data.toList = one s.data.toList := rfl
  have Hone := Lib.hid hone
  obtain ⟨X, hX⟩ : ∃ X, X = one s.data.toList := ⟨_, rfl⟩
  rw [← hX]
  have HX := Lib.hid hX
  clear hX hone
  go_enter Tryz.func16, Tryz.ntmps16
  go_wp2_with fail
  refine (takeText_any s t hs (by rw [hd, hq]) _).mono ?_
  rintro _ w1 ⟨v, rfl, ⟨k, n, er, rfl, hsp⟩, hb⟩
  have Hsp := Lib.hid hsp
  clear hsp
  have B := (b4_new w (.int .i64 0) (.string ⟨#[]⟩) (.int .i64 0) (.int .i64 0) 35).below hb
  obtain ⟨_, p0, p1, p2, p3, pf⟩ := B
  have hb1 := ((Below.refl _ _).alloc (Nat.le_refl _) _).trans (hb.mono (by simp))
  clear hb
  unfold tv
  rw [Nat.zero_add]
  go_wp2_with fail
  exact bodyPost_ret (v := .tuple #[.agg #[.int .i64 k.kind, .string ⟨k.text.toArray⟩, .int .i64 k.num, .int .i64 0], .int .i64 n, .int .i64 er]) (by simp [results, Tryz.results16, go_sem, p0, p1, p2, p3]) rfl (rb_raw (n := n) (by rw [HX.out]; exact Hsp.out) (by simp) (below4 hb1 (Nat.le_refl _) _ _ _ _))

set_option maxHeartbeats 2000000 in
set_option maxRecDepth 100000 in
theorem take_6 (s : ByteArray) (b : UInt8) (t : List UInt8) (hs : s.size ≤ 16384) (hd : s.data.toList = b :: t) (ha : atN b t = false) (hg : dg b = false) (hq : b ≠ 34) (hc : signs.contains b = true) (w : World) :
    Calls Tryz.prog 16 #[.int .i64 6, .string s] w fun e w' => RB (one s.data.toList) 0 w e w' := by
  have hX0 : one s.data.toList = .ok (⟨4, [b], 0⟩, 1) := by rw [hd, one_sign (nm_none ha) hg hq, if_pos hc]
  obtain ⟨hp, hb0⟩ := first_b hd
  obtain ⟨Y, hY⟩ : ∃ Y, Y = s.extract 0 1 := ⟨_, rfl⟩
  have hYd : Y.data.toList = [b] := by rw [hY, take_k, hd]; rfl
  obtain ⟨X, hX⟩ : ∃ X, X = one s.data.toList := ⟨_, rfl⟩
  rw [← hX] at hX0 ⊢
  have hp1 : (1 : Int) ≤ s.size := by omega
  have HX := Lib.hid hX0
  have HY := Lib.hid hY
  have HYd := Lib.hid hYd
  clear hX hX0 hY hYd hd ha hg hq hc hb0
  go_enter Tryz.func16, Tryz.ntmps16
  go_wp2_with fail
  rw [← HY.out]
  exact bodyPost_ret (v := .tuple #[.agg #[.int .i64 4, .string Y, .int .i64 0, .int .i64 0], .int .i64 1, .int .i64 0]) (by simp [results, Tryz.results16, go_sem]) rfl (rb_ok (n := 1) HX.out rfl (by rw [HYd.out]) rfl rfl ((Below.refl _ _).alloc (Nat.le_refl _) _))
set_option maxHeartbeats 2000000 in
set_option maxRecDepth 100000 in
theorem take_7 (s : ByteArray) (b : UInt8) (t : List UInt8) (hs : s.size ≤ 16384) (hd : s.data.toList = b :: t) (ha : atN b t = false) (hg : dg b = false) (hq : b ≠ 34) (hc : signs.contains b = false) (w : World) :
    Calls Tryz.prog 16 #[.int .i64 7, .string s] w fun e w' => RB (one s.data.toList) 0 w e w' := by
  have hX0 : one s.data.toList = .error 2 := by rw [hd, one_sign (nm_none ha) hg hq, if_neg (by rw [hc]; simp)]
  obtain ⟨X, hX⟩ : ∃ X, X = one s.data.toList := ⟨_, rfl⟩
  rw [← hX] at hX0 ⊢
  have HX := Lib.hid hX0
  clear hX hX0 hd ha hg hq hc
  go_enter Tryz.func16, Tryz.ntmps16
  go_wp2_with fail
  exact bodyPost_ret (v := .tuple #[.agg #[.int .i64 0, .string ⟨#[]⟩, .int .i64 0, .int .i64 0], .int .i64 0, .int .i64 2]) (by simp [results, Tryz.results16, go_sem]) rfl (rb_err (er := 2) (n := 0) HX.out rfl ((Below.refl _ _).alloc (Nat.le_refl _) _))
theorem take_any (s : ByteArray) (b : UInt8) (t : List UInt8) (hs : s.size ≤ 16384) (hd : s.data.toList = b :: t) (h1 : ws b = false) (h2 : b ≠ 10) (h3 : ¬ (b = 47 ∧ t.head? = some 47)) (q : Nat) (hq : q = stP b t) (w : World) (hL : Tld.Ld w) :
    Calls Tryz.prog 16 #[.int .i64 q, .string s] w fun e w' => RB (one s.data.toList) 0 w e w' := by
  rcases stP_cases b t with ⟨hw, _⟩ | ⟨_, ⟨h, _⟩ | ⟨_, ⟨h, _⟩ | ⟨_, ⟨ha, hS⟩ | ⟨ha, ⟨hg, hS⟩ | ⟨hg, ⟨h34, hS⟩ | ⟨h34, ⟨hc, hS⟩ | ⟨hc, hS⟩⟩⟩⟩⟩⟩⟩
  · rw [h1] at hw; cases hw
  · exact absurd h h2
  · exact absurd h h3
  all_goals
    rw [hS] at hq
    subst hq
  · exact take_3 s b t hs hd ha w hL
  · exact take_4 s b t hs hd ha hg w hL
  · exact take_5 s b t hs hd h34 w hL
  · exact take_6 s b t hs hd ha hg h34 hc w
  · exact take_7 s b t hs hd ha hg h34 hc w
end Go.Proofs.YtoinfjdhbopefaaGreatDoor.TkpC
