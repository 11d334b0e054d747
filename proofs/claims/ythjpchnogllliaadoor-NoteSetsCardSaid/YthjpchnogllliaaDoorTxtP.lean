/- The program's Text (package scalar) at every kind. -/
import Derived.Test.YthjpchnogllliaaDoorScpE
import Derived.Test.YthjpchnogllliaaDoorTxtM
import Derived.Test.YthjpchnogllliaaDoorFmtU
import Derived.Test.YthjpchnogllliaaDoorHexU
import Derived.Test.YthjpchnogllliaaDoorUtfP
set_option linter.unusedSimpArgs false
set_option linter.unusedVariables false
namespace Go.Proofs.YthjpchnogllliaaDoor.TxtP
open Go.RowKit Nums Byt UtfM UtfS UtfQ ScaM ScaV ScaA ScaB ScaC ScaT ScaW ScpM ScpA ScpB ScpC ScpD ScpE Ld Box TxtM HexU

theorem fits_lenP {v : SV} (h : fitsB v.k (sc v) = true) (ht : txB v.k = true) : v.t.size ≤ 4096 := by
  unfold fitsB at h
  rw [if_pos ht] at h
  simp only [Bool.and_eq_true, decide_eq_true_eq] at h
  exact h.2.1.2
theorem cat_str (l m : List UInt8) : (⟨l.toArray⟩ : ByteArray) ++ ⟨m.toArray⟩ = ⟨(l ++ m).toArray⟩ := by
  apply ByteArray.ext; simp
theorem ret_s {a b : ByteArray} (h : a = b) : Ending.returned (.string a) = .returned (.string b) := by rw [h]

set_option maxRecDepth 100000 in
theorem fb_any (x : Bool) (w : World) : Calls Tryd.prog 54 #[.bool x] w fun e w' => e = .returned (.string ⟨(if x then [116, 114, 117, 101] else [102, 97, 108, 115, 101] : List UInt8).toArray⟩) ∧ w = w' := by
  cases x with
  | true =>
    go_enter Tryd.func54, Tryd.ntmps54
    go_wp2
    go_ret
    exact ⟨rfl, rfl⟩
  | false =>
    go_enter Tryd.func54, Tryd.ntmps54
    go_wp2
    go_ret
    exact ⟨rfl, rfl⟩

set_option maxHeartbeats 2000000 in
set_option maxRecDepth 100000 in
theorem text_bool (v : SV) (hb : v.b ≤ 18446744073709551615) (ht : v.t.size ≤ 140737488355328) (hl : v.l1 + v.l2 + v.l3 + v.l4 ≤ 9223372036854775807) (hf : fitsB v.k (sc v) = true) (hk : v.k = 1) (w : World) (hL : Ld w) :
    Calls Tryd.prog 38 #[vv v] w fun e w' => e = .returned (.string ⟨(textV (sc v)).toArray⟩) ∧ Below w.heap.size w w' := by
  have hv : textV (sc v) = if v.b = 1 then [116, 114, 117, 101] else [102, 97, 108, 115, 101] := by
    unfold textV
    rw [show (sc v).k = v.k from rfl, hf, if_neg (by simp), if_pos hk]; rfl
  have HV : Hid (textV (sc v) = if v.b = 1 then [116, 114, 117, 101] else [102, 97, 108, 115, 101]) := Lib.hid hv
  clear hv
  have H := Lib.hid fun w => fits_p v.k v hb ht hl w
  have HF := Lib.hid hf
  clear hb ht hl hf
  obtain ⟨k, b, t, a1, l1, c1, a2, l2, c2, a3, l3, c3, a4, l4, c4⟩ := v
  simp only [vv] at *
  subst hk
  by_cases e : b = 1
  · have e1 : ((b : Int) == 1) = true := by simp [e]
    have HV2 := Lib.hid (HV.out.trans (if_pos e))
    clear e
    go_enter Tryd.func38, Tryd.ntmps38
    go_wp2_with fail
    refine (H.out _).mono ?_
    rintro _ w1 ⟨rfl, hb⟩
    rw [HF.out]
    obtain ⟨lc, lf⟩ := bcell hb
    have hL1 := (hL.below (below_box _ _)).below hb
    go_wp2_with (first | (go_at_call 54; refine (fb_any true _).mono ?_; rintro _ w2 ⟨rfl, rfl⟩))
    go_ret
    exact ⟨ret_s (by rw [HV2.out]), bt (below_box _ _) hb⟩
  · have e1 : ((b : Int) == 1) = false := by rw [beq_eq_false_iff_ne]; omega
    have HV2 := Lib.hid (HV.out.trans (if_neg e))
    clear e
    go_enter Tryd.func38, Tryd.ntmps38
    go_wp2_with fail
    refine (H.out _).mono ?_
    rintro _ w1 ⟨rfl, hb⟩
    rw [HF.out]
    obtain ⟨lc, lf⟩ := bcell hb
    have hL1 := (hL.below (below_box _ _)).below hb
    go_wp2_with (first | (go_at_call 54; refine (fb_any false _).mono ?_; rintro _ w2 ⟨rfl, rfl⟩))
    go_ret
    exact ⟨ret_s (by rw [HV2.out]), bt (below_box _ _) hb⟩

set_option maxHeartbeats 2000000 in
set_option maxRecDepth 100000 in
theorem text_plain (v : SV) (hb : v.b ≤ 18446744073709551615) (ht : v.t.size ≤ 140737488355328) (hl : v.l1 + v.l2 + v.l3 + v.l4 ≤ 9223372036854775807) (hf : fitsB v.k (sc v) = true) (hk : v.k = 4 ∨ v.k = 5 ∨ v.k = 9) (w : World) (hL : Ld w) :
    Calls Tryd.prog 38 #[vv v] w fun e w' => e = .returned (.string ⟨(textV (sc v)).toArray⟩) ∧ Below w.heap.size w w' := by
  have hv : textV (sc v) = Lib.decDigits v.b := by
    rw [dec_digits]
    unfold textV
    rw [show (sc v).k = v.k from rfl, hf, if_neg (by simp), if_neg (by omega), if_neg (by omega), if_neg (by omega), if_neg (by omega), if_neg (by omega)]; rfl
  rw [hv]
  have HU := Lib.hid fun w hL => FmtU.fmtU_any v.b hb w hL
  have HS : Hid (sgB v.k = false) := Lib.hid (by rcases hk with e | e | e <;> rw [e] <;> rfl)
  clear hv
  have H := Lib.hid fun w => fits_p v.k v hb ht hl w
  have HF := Lib.hid hf
  clear hb ht hl hf
  obtain ⟨k, b, t, a1, l1, c1, a2, l2, c2, a3, l3, c3, a4, l4, c4⟩ := v
  simp only [vv] at *
  rcases hk with rfl | rfl | rfl
  all_goals
    go_enter Tryd.func38, Tryd.ntmps38
    go_wp2_with fail
    refine (H.out _).mono ?_
    rintro _ w1 ⟨rfl, hb⟩
    rw [HF.out]
    obtain ⟨lc, lf⟩ := bcell hb
    have hL1 := (hL.below (below_box _ _)).below hb
    go_wp2_with (first | (go_at_call 58; refine (signed_p _ _).mono ?_; rintro _ w2 ⟨rfl, rfl⟩; rw [HS.out]))
    refine (HU.out _ hL1.tab).mono ?_
    rintro _ w2 ⟨rfl, hb2⟩
    go_wp2_with fail
    go_ret
    exact ⟨rfl, bt (bt (below_box _ _) hb) hb2⟩

set_option maxHeartbeats 2000000 in
set_option maxRecDepth 100000 in
theorem text_text (v : SV) (hb : v.b ≤ 18446744073709551615) (ht : v.t.size ≤ 140737488355328) (hl : v.l1 + v.l2 + v.l3 + v.l4 ≤ 9223372036854775807) (hf : fitsB v.k (sc v) = true) (hk : v.k = 7) (w : World) (hL : Ld w) :
    Calls Tryd.prog 38 #[vv v] w fun e w' => e = .returned (.string ⟨(textV (sc v)).toArray⟩) ∧ Below w.heap.size w w' := by
  have hv : textV (sc v) = quote v.t.data.toList := by
    unfold textV
    rw [show (sc v).k = v.k from rfl, hf, if_neg (by simp), if_neg (by omega), if_neg (by omega), if_neg (by omega), if_pos hk]; rfl
  rw [hv]
  have hlen : v.t.size ≤ 4096 := fits_lenP hf (by rw [hk]; rfl)
  have HQ := Lib.hid fun w => UtfP.quote_any v.t (by omega) w
  clear hv hlen
  have H := Lib.hid fun w => fits_p v.k v hb ht hl w
  have HF := Lib.hid hf
  clear hb ht hl hf
  obtain ⟨k, b, t, a1, l1, c1, a2, l2, c2, a3, l3, c3, a4, l4, c4⟩ := v
  simp only [vv] at *
  subst hk
  go_enter Tryd.func38, Tryd.ntmps38
  go_wp2_with fail
  refine (H.out _).mono ?_
  rintro _ w1 ⟨rfl, hb⟩
  rw [HF.out]
  obtain ⟨lc, lf⟩ := bcell hb
  have hL1 := (hL.below (below_box _ _)).below hb
  go_wp2_with (first | (go_at_call 56; refine (HQ.out _).mono ?_; rintro _ w2 ⟨rfl, hb2⟩))
  go_ret
  exact ⟨rfl, bt (bt (below_box _ _) hb) hb2⟩

set_option maxHeartbeats 2000000 in
set_option maxRecDepth 100000 in
theorem text_bytes (v : SV) (hb : v.b ≤ 18446744073709551615) (ht : v.t.size ≤ 140737488355328) (hl : v.l1 + v.l2 + v.l3 + v.l4 ≤ 9223372036854775807) (hf : fitsB v.k (sc v) = true) (hk : v.k = 8) (w : World) (hL : Ld w) :
    Calls Tryd.prog 38 #[vv v] w fun e w' => e = .returned (.string ⟨(textV (sc v)).toArray⟩) ∧ Below w.heap.size w w' := by
  have hv : textV (sc v) = 120 :: quote (hexL v.t.data.toList) := by
    unfold textV
    rw [show (sc v).k = v.k from rfl, hf, if_neg (by simp), if_neg (by omega), if_neg (by omega), if_neg (by omega), if_neg (by omega), if_pos hk]; rfl
  have hlen : v.t.size ≤ 4096 := fits_lenP hf (by rw [hk]; rfl)
  have HX := Lib.hid fun w => UtfH.hex_any v.t (by omega) w
  obtain ⟨q, hq⟩ : ∃ q : ByteArray, q = ⟨(hexL v.t.data.toList).toArray⟩ := ⟨_, rfl⟩
  have hql : q.data.toList = hexL v.t.data.toList := by rw [hq]
  have hqs : q.size ≤ 8192 := by
    have e : q.data.toList.length = q.size := rfl
    rw [hql, hexL_len] at e
    have : v.t.data.toList.length = v.t.size := rfl
    omega
  rw [← hq] at HX
  have hQ := fun w => UtfP.quote_any q (by omega) w
  obtain ⟨z, hz⟩ : ∃ z : ByteArray, z = ⟨(quote q.data.toList).toArray⟩ := ⟨_, rfl⟩
  have hDs : 1 + z.size ≤ 9223372036854775807 := by rw [hz, size_mk, quote_len]; have := body_le q.data.toList; have e2 : q.data.toList.length = q.size := rfl; omega
  rw [← hz] at hQ
  have HQ := Lib.hid hQ
  have HV : Hid ((⟨#[120]⟩ : ByteArray) ++ z = ⟨(textV (sc v)).toArray⟩) := Lib.hid (by
    rw [hv, hz, hql, show (⟨#[120]⟩ : ByteArray) = ⟨([120] : List UInt8).toArray⟩ from rfl, cat_str]; rfl)
  clear hv hlen hq hql hz hQ
  have H := Lib.hid fun w => fits_p v.k v hb ht hl w
  have HF := Lib.hid hf
  clear hb ht hl hf
  obtain ⟨k, b, t, a1, l1, c1, a2, l2, c2, a3, l3, c3, a4, l4, c4⟩ := v
  simp only [vv] at *
  subst hk
  go_enter Tryd.func38, Tryd.ntmps38
  go_wp2_with fail
  refine (H.out _).mono ?_
  rintro _ w1 ⟨rfl, hb⟩
  rw [HF.out]
  obtain ⟨lc, lf⟩ := bcell hb
  have hL1 := (hL.below (below_box _ _)).below hb
  go_wp2_with (first | (go_at_call 57; refine (HX.out _).mono ?_; rintro _ w2 ⟨rfl, hb2⟩))
  all_goals try (refine (HQ.out _).mono ?_; rintro _ w3 ⟨rfl, hb3⟩)
  go_wp2_with fail
  go_ret
  exact ⟨ret_s HV.out, bt (bt (bt (below_box _ _) hb) hb2) hb3⟩

set_option maxHeartbeats 2000000 in
set_option maxRecDepth 100000 in
theorem dtext_any (b : Nat) (hb : b ≤ 18446744073709551615) (w : World) (hL : Ld w) :
    Calls Tryd.prog 55 #[.int .u64 b] w fun e w' => e = .returned (.string ⟨(if clsN b = 0 then [110, 97, 110] else if clsN b = 1 then (if sgnN ≤ b then [45, 105, 110, 102] else [105, 110, 102]) else [48, 120] ++ hex16 b : List UInt8).toArray⟩) ∧ Below w.heap.size w w' := by
  have HC := Lib.hid fun w => class_p b hb w
  by_cases h0 : clsN b = 0
  · rw [if_pos h0]
    rw [h0] at HC
    clear h0
    go_enter Tryd.func55, Tryd.ntmps55
    go_wp2_with (first | (go_at_call 72; refine (HC.out _).mono ?_; rintro _ w2 ⟨rfl, rfl⟩))
    go_ret
    exact ⟨rfl, Below.refl _ _⟩
  · rw [if_neg h0]
    obtain ⟨c, hc⟩ : ∃ c, c = clsN b := ⟨_, rfl⟩
    rw [← hc] at HC
    have hc0 : (c == 0) = false := by rw [hc, beq_eq_false_iff_ne]; exact h0
    by_cases h1 : clsN b = 1
    · rw [if_pos h1]
      by_cases hs : sgnN ≤ b
      · rw [if_pos hs]
        have hbe := cls_ninf h1 hs hb
        have e1 : ((b : Int) == 9218868437227405312) = false := by rw [hbe]; decide
        have e2 : ((b : Int) == 18442240474082181120) = true := by rw [hbe]; decide
        clear hs hbe h1 h0 hc
        go_enter Tryd.func55, Tryd.ntmps55
        go_wp2_with (first | (go_at_call 72; refine (HC.out _).mono ?_; rintro _ w2 ⟨rfl, rfl⟩))
        go_ret
        exact ⟨rfl, Below.refl _ _⟩
      · rw [if_neg hs]
        have hbe := cls_inf h1 hs
        have e1 : ((b : Int) == 9218868437227405312) = true := by rw [hbe]; decide
        clear hs hbe h1 h0 hc
        go_enter Tryd.func55, Tryd.ntmps55
        go_wp2_with (first | (go_at_call 72; refine (HC.out _).mono ?_; rintro _ w2 ⟨rfl, rfl⟩))
        go_ret
        exact ⟨rfl, Below.refl _ _⟩
    · rw [if_neg h1]
      obtain ⟨n1, n2⟩ := cls_no h1
      have e1 : ((b : Int) == 9218868437227405312) = false := by rw [beq_eq_false_iff_ne]; unfold infN at n1; omega
      have e2 : ((b : Int) == 18442240474082181120) = false := by rw [beq_eq_false_iff_ne]; unfold sgnN infN at n2; omega
      have HF := Lib.hid fun w hz => fmt_any b hb w hz
      obtain ⟨m, hm⟩ : ∃ m, m = 16 - (DigH.hexd b).length := ⟨_, rfl⟩
      have h16 := DigH.hexd_16 hb
      have hz : (⟨(DigH.hexd b).toArray⟩ : ByteArray).size = 16 - m := by rw [size_mk]; omega
      have H2 := Lib.hid fun w => Tryd.strings_Repeat ⟨#[48]⟩ m w (by omega) (by simp [ByteArray.size]; omega)
      have hx : (⟨(Lib.repeatL [48] m).toArray⟩ : ByteArray).size = m := by rw [size_mk, repeat_zero, List.length_replicate]
      have hr : Hid (((⟨#[48, 120]⟩ : ByteArray) ++ (⟨(Lib.repeatL [48] m).toArray⟩ : ByteArray)) ++ ⟨(DigH.hexd b).toArray⟩ = ⟨([48, 120] ++ hex16 b).toArray⟩) := Lib.hid (by
        rw [show (⟨#[48, 120]⟩ : ByteArray) = ⟨([48, 120] : List UInt8).toArray⟩ from rfl, cat_str, cat_str, repeat_zero, hm, List.append_assoc, DigH.hex16_pad hb, hex16_same])
      have hm16 : m ≤ 16 := by omega
      have hi : (16 : Int) - ((16 - m : Nat) : Int) = (m : Int) := by omega
      generalize (⟨(DigH.hexd b).toArray⟩ : ByteArray) = q at *
      clear hm h16 n1 n2 h1 h0 hc
      have hT : Tz w := hL.tz
      go_enter Tryd.func55, Tryd.ntmps55
      go_wp2_with (first | (go_at_call 72; refine (HC.out _).mono ?_; rintro _ w2 ⟨rfl, rfl⟩))
      refine (HF.out _ hT).mono ?_
      rintro _ w1 ⟨rfl, hb1⟩
      go_wp2_with fail
      refine (H2.out _).mono ?_
      rintro _ w2 ⟨rfl, hb2⟩
      go_wp2_with fail
      go_ret
      exact ⟨ret_s hr.out, bt hb1 hb2⟩

set_option maxHeartbeats 2000000 in
set_option maxRecDepth 100000 in
theorem text_double (v : SV) (hb : v.b ≤ 18446744073709551615) (ht : v.t.size ≤ 140737488355328) (hl : v.l1 + v.l2 + v.l3 + v.l4 ≤ 9223372036854775807) (hf : fitsB v.k (sc v) = true) (hk : v.k = 6) (w : World) (hL : Ld w) :
    Calls Tryd.prog 38 #[vv v] w fun e w' => e = .returned (.string ⟨(textV (sc v)).toArray⟩) ∧ Below w.heap.size w w' := by
  have hv : textV (sc v) = if clsN v.b = 0 then [110, 97, 110] else if clsN v.b = 1 then (if sgnN ≤ v.b then [45, 105, 110, 102] else [105, 110, 102]) else [48, 120] ++ hex16 v.b := by
    unfold textV
    rw [show (sc v).k = v.k from rfl, hf, if_neg (by simp), if_neg (by omega), if_neg (by omega), if_pos hk]; rfl
  have hd := fun w hL => dtext_any v.b hb w hL
  rw [← hv] at hd
  have HD := Lib.hid hd
  clear hv hd
  generalize textV (sc v) = T at *
  have H := Lib.hid fun w => fits_p v.k v hb ht hl w
  have HF := Lib.hid hf
  clear hb ht hl hf
  obtain ⟨k, b, t, a1, l1, c1, a2, l2, c2, a3, l3, c3, a4, l4, c4⟩ := v
  simp only [vv] at *
  subst hk
  go_enter Tryd.func38, Tryd.ntmps38
  go_wp2_with fail
  refine (H.out _).mono ?_
  rintro _ w1 ⟨rfl, hb⟩
  rw [HF.out]
  obtain ⟨lc, lf⟩ := bcell hb
  have hL1 := (hL.below (below_box _ _)).below hb
  go_wp2_with (first | (go_at_call 55; refine (HD.out _ hL1).mono ?_; rintro _ w2 ⟨rfl, hb2⟩))
  go_ret
  exact ⟨rfl, bt (bt (below_box _ _) hb) hb2⟩

/-- Text. -/
theorem text_p (v : SV) (hb : v.b ≤ 18446744073709551615) (ht : v.t.size ≤ 140737488355328) (hl : v.l1 + v.l2 + v.l3 + v.l4 ≤ 9223372036854775807) (w : World) (hL : Ld w) :
    Calls Tryd.prog 38 #[vv v] w fun e w' => e = .returned (.string ⟨(textV (sc v)).toArray⟩) ∧ Below w.heap.size w w' := by
  cases hf : fitsB v.k (sc v) with
  | false =>
    have hv : textV (sc v) = [] := by unfold textV; rw [show (sc v).k = v.k from rfl, hf]; rfl
    rw [hv]
    exact text_not v hb ht hl hf w
  | true =>
    have hr : 1 ≤ v.k ∧ v.k ≤ 9 := by
      have h := hf
      unfold fitsB isB at h
      simp only [Bool.and_eq_true, decide_eq_true_eq] at h
      omega
    rcases (by omega : v.k = 1 ∨ (v.k = 2 ∨ v.k = 3) ∨ (v.k = 4 ∨ v.k = 5 ∨ v.k = 9) ∨ v.k = 6 ∨ v.k = 7 ∨ v.k = 8) with h | h | h | h | h | h
    · exact text_bool v hb ht hl hf h w hL
    · have hsg : sgB v.k = true := by rcases h with e | e <;> rw [e] <;> rfl
      have := text_sg v hb ht hl hf hsg w hL
      have hv : textV (sc v) = Lib.itoa (sI v.b) := by
        unfold textV
        rw [show (sc v).k = v.k from rfl, hf, if_neg (by simp), if_neg (by omega), if_pos h]
        show (if sgnN ≤ v.b then 45 :: dec (18446744073709551616 - v.b) else dec v.b) = _
        by_cases hs : sgnN ≤ v.b
        · rw [if_pos hs, itoa_down hs hb]
        · rw [if_neg hs, itoa_up hs]
      rw [hv]
      exact this
    · exact text_plain v hb ht hl hf h w hL
    · exact text_double v hb ht hl hf h w hL
    · exact text_text v hb ht hl hf h w hL
    · exact text_bytes v hb ht hl hf h w hL
end Go.Proofs.YthjpchnogllliaaDoor.TxtP
