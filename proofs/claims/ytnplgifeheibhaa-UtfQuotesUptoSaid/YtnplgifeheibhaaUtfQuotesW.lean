/- The walk of the law UtfQuotes. -/
import Derived.Test.YtnplgifeheibhaaUtfX
import Derived.Test.YtnplgifeheibhaaUtfE
import Derived.Deep.DeepCutAuto
import Derived.Deep.RegionHeld3
set_option linter.unusedSimpArgs false
set_option linter.unusedVariables false
namespace Go.Proofs.Ytnplgifeheibhaa.UtfQuotesW
open Go.RowKit Nums Byt UtfM UtfS UtfQ UtfX
theorem string_ne (a b : ByteArray) (h : a.data.toList = b.data.toList) : a = b := by
  rw [← mk_toList a, ← mk_toList b, h]
set_option maxHeartbeats 2000000 in
set_option maxRecDepth 100000 in
theorem walk (s after q : ByteArray) (z : s.size ≤ 1048576) (z1 : after.size ≤ 1048576) (z2 : q.size ≤ 1048576) (w : World) :
    Calls Try.prog 7 #[.string s, .string after, .string q] w fun e w' => e = .returned (.bool true) ∧ Below w.heap.size w w' := by
  have hlen := body_le s.data.toList
  have hql := quote_len s.data.toList
  have hsl : s.data.toList.length = s.size := rfl
  rw [hsl] at hlen
  obtain ⟨Q, hQ⟩ : ∃ Q, Q = quote s.data.toList := ⟨_, rfl⟩
  rw [← hQ] at hql
  obtain ⟨L, hL⟩ : ∃ L, L = s.data.toList := ⟨_, rfl⟩
  have huq : unquote ((⟨Q.toArray⟩ : ByteArray) ++ after).data.toList = (L, Q.length, 0) := by
    rw [append_toList, hQ, hL]
    exact unquote_quote _ _
  have hQs : (⟨Q.toArray⟩ : ByteArray).size = Q.length := size_mk Q
  have hst : (L == s.toList) = true := by rw [beq_iff_eq, ByteArray.toList_eq, hL]
  have hsum : (⟨Q.toArray⟩ : ByteArray).size + after.size ≤ 9223372036854775807 := by omega
  have hsz : ((⟨Q.toArray⟩ : ByteArray) ++ after).size ≤ 35184372088000 := by rw [ByteArray.size_append]; omega
  have HQ := Lib.hid hQ
  have Huq := Lib.hid huq
  have HQs := Lib.hid hQs
  have Hsz := Lib.hid hsz
  clear hL hQ huq hQs hsz hsl hql hlen
  rcases unquote_cases q.data.toList with hu | ⟨t, n, hu, hn2, hnq, hqt⟩
  · have Hu := Lib.hid hu
    clear hu
    go_enter Try.func7, Try.ntmps7
    go_wp2_with fail
    refine (UtfP.quote_any s (by omega) _).mono ?_
    rintro _ w1 ⟨rfl, hb1⟩
    rw [← HQ.out]
    go_wp2_with fail
    refine (UtfE.unquote_any _ Hsz.out _).mono ?_
    rintro _ w2 ⟨rfl, hb2⟩
    rw [Huq.out]
    go_wp2_with fail
    refine (UtfP.quote_any s (by omega) _).mono ?_
    rintro _ w3 ⟨rfl, hb3⟩
    rw [← HQ.out]
    go_wp2_with fail
    refine (UtfE.unquote_any q (by omega) _).mono ?_
    rintro _ w4 ⟨rfl, hb4⟩
    rw [Hu.out]
    go_wp2_with fail
    refine (awake_any _).mono ?_
    rintro _ w5 ⟨rfl, hb5⟩
    go_wp2_with fail
    go_ret
    exact ⟨rfl, bt (bt (bt (bt hb1 hb2) hb3) hb4) hb5⟩
  · have hts : (⟨t.toArray⟩ : ByteArray).size ≤ 35184372088000 := by
      have h1 := congrArg List.length hqt
      have h2 := body_le t
      rw [quote_len, List.length_take] at h1
      have h3 : q.data.toList.length = q.size := rfl
      rw [size_mk]
      omega
    have hnq' : n ≤ q.size := hnq
    have hni : (n : Int) ≤ q.size := by omega
    have hn1 : (1 : Int) < n := by omega
    have hbq : (quote t == (q.extract 0 n).toList) = true := by rw [beq_iff_eq, hqt, UtfE.cut_toList]
    have Hu := Lib.hid hu
    clear hu hqt hnq
    go_enter Try.func7, Try.ntmps7
    go_wp2_with fail
    refine (UtfP.quote_any s (by omega) _).mono ?_
    rintro _ w1 ⟨rfl, hb1⟩
    rw [← HQ.out]
    go_wp2_with fail
    refine (UtfE.unquote_any _ Hsz.out _).mono ?_
    rintro _ w2 ⟨rfl, hb2⟩
    rw [Huq.out]
    go_wp2_with fail
    refine (UtfP.quote_any s (by omega) _).mono ?_
    rintro _ w3 ⟨rfl, hb3⟩
    rw [← HQ.out]
    have hb3' := bt (bt hb1 hb2) hb3
    clear hb1 hb2 hb3
    go_upto_region 4 with (fail)
    go_cut [10, 11, 12] (fun u m f wx => u = .string ⟨t.toArray⟩ ∧ m = .int .i64 n ∧ f = .int .i64 0 ∧ Below w.heap.size w wx)
    case first =>
      go_wp2_with fail
      refine (UtfE.unquote_any q (by omega) _).mono ?_
      rintro _ w4 ⟨rfl, hb4⟩
      rw [Hu.out]
      go_wp2_with fail
      go_meet
      case rel => exact ⟨rfl, rfl, rfl, bt hb3' hb4⟩
    case rest =>
      obtain ⟨rfl, rfl, rfl, hbx⟩ := hcut
      clear hb3'
      go_wp2_with fail
      go_region_held3 (fun _ => True) (exact trivial) (first
        | (go_at_call 18; refine (UtfP.quote_any _ hts _).mono ?_; rintro _ w5 ⟨rfl, hb5⟩)
        | (go_at_call 11; refine (awake_any _).mono ?_; rintro _ w6 ⟨rfl, hb6⟩))
      all_goals
        go_wp2_with fail
        go_ret
        exact ⟨rfl, bt (hbx.trans (UtfE.drew_below hb5 hbx.size)) hb6⟩

end Go.Proofs.Ytnplgifeheibhaa.UtfQuotesW
