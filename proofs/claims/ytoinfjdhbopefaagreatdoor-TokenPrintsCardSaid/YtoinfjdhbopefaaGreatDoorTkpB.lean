import Derived.Test.YtoinfjdhbopefaaGreatDoorTkpA
import Derived.Test.YtoinfjdhbopefaaGreatDoorTkrG
import Derived.Test.YtoinfjdhbopefaaGreatDoorUtfL
import Derived.Shelf.Pu.ErrVarParseUint
/- Package token of the program: taking a name, an integer, a text, a sign. -/
set_option linter.unusedSimpArgs false
set_option linter.unusedVariables false
namespace Go.Proofs.YtoinfjdhbopefaaGreatDoor.TkpB
open Go.RowKit Nums IdnM IdnC TokM TokD TokS TkrD TkpM TkpA Box4

theorem drop_k {s : ByteArray} {k : Nat} (h : k < s.size) : s.data.toList.drop k = s[k] :: s.data.toList.drop (k + 1) := List.drop_eq_getElem_cons (show k < s.data.toList.length from h)
theorem drop_no {s : ByteArray} {k : Nat} (h : s.size ≤ k) : s.data.toList.drop k = [] := List.drop_of_length_le (show s.data.toList.length ≤ k from h)
theorem take_k (s : ByteArray) (n : Nat) : (s.extract 0 n).data.toList = s.data.toList.take n := by simp
theorem rest_k (s : ByteArray) (k : Nat) : (s.extract k s.size).data.toList = s.data.toList.drop k := by
  simp
  rw [List.take_of_length_le (by simp)]
theorem wrap_sI (n : Nat) (h : n ≤ 18446744073709551615) : wrap64 (n : Int) = sI n := by
  unfold wrap64 sI
  split <;> omega

set_option maxHeartbeats 2000000 in
set_option maxRecDepth 100000 in
theorem takeName_any (s : ByteArray) (b : UInt8) (t : List UInt8) (hs : s.size ≤ 16384) (hd : s.data.toList = b :: t) (ha : atN b t = true) (w : World) (hL : Tld.Ld w) :
    Calls Tryz.prog 32 #[.string s] w fun e w' => RB (one s.data.toList) 0 w e w' := by
  obtain ⟨hpn, hnz⟩ := pn_nm ha
  have hone := one_name hnz
  rw [← hpn, ← hd] at hone
  clear hpn hnz
  obtain ⟨N, hN⟩ : ∃ N, N = pn s.data.toList := ⟨_, rfl⟩
  have hNle := pn_le s.data.toList
  rw [← hN] at hone hNle
  have hNs : N ≤ s.size := hNle
  obtain ⟨Y, hY⟩ : ∃ Y, Y = s.extract 0 N := ⟨_, rfl⟩
  have hYd : Y.data.toList = s.data.toList.take N := by rw [hY, take_k]
  obtain ⟨ft, hft⟩ : ∃ ft, fitN Y.data.toList = ft := ⟨_, rfl⟩
  obtain ⟨X, hX⟩ : ∃ X, X = one s.data.toList := ⟨_, rfl⟩
  rw [← hYd, ← hX, hft] at hone
  rw [← hX]
  have HN := Lib.hid hN
  have HY := Lib.hid hY
  have Hft := Lib.hid hft
  have Hone := Lib.hid hone
  clear hN hNle hY hYd hft hX hone hd ha
  go_enter Tryz.func32, Tryz.ntmps32
  go_wp2_with fail
  go_loop [5] (fun nv => ∃ k : Nat, k ≤ N ∧ nv = .int .i64 k ∧ Hid (N = k + pn (s.data.toList.drop k))) (fun nv => s.size - (intOf nv).toNat)
  case atStart => exact ⟨0, Nat.zero_le _, rfl, Lib.hid (by rw [List.drop_zero, HN.out]; omega)⟩
  case round =>
    obtain ⟨k, hkN, rfl, Hk⟩ := hrel
    by_cases hlt : k < s.size
    · have hdr := drop_k hlt
      have hk := Hk.out
      obtain ⟨Z, hZ⟩ : ∃ Z, Z = s.extract k s.size := ⟨_, rfl⟩
      have hZd : Z.data.toList = s.data.toList.drop k := by rw [hZ, rest_k]
      cases hi : inn s[k] with
      | true =>
        rw [hdr, pn_yes (by rw [hi]; rfl)] at hk
        have Hn : Hid (N = (k + 1) + pn (s.data.toList.drop (k + 1))) := Lib.hid (by omega)
        have hk1 : k + 1 ≤ N := by omega
        have H1 := Lib.hid hi
        clear hk hdr hi hZ hZd
        go_wp2_with fail
        refine (isInner_any s[k] _).mono ?_
        rintro _ wz ⟨rfl, rfl⟩
        rw [H1.out]
        go_wp2_with fail
        exact ⟨⟨k + 1, hk1, by go_num, Hn⟩, by simp [intOf]; omega⟩
      | false =>
        have HZ := Lib.hid hZ
        have HZd := Lib.hid hZd
        have H1 := Lib.hid hi
        cases hi2 : idot (s.data.toList.drop k) with
        | true =>
          have hi3 := hi2
          rw [hdr] at hk hi3
          rw [pn_yes (by rw [hi3, Bool.or_true])] at hk
          have Hn : Hid (N = (k + 1) + pn (s.data.toList.drop (k + 1))) := Lib.hid (by omega)
          have hk1 : k + 1 ≤ N := by omega
          have H2 := Lib.hid hi2
          clear hk hdr hi hi2 hi3 hZ hZd
          go_wp2_with fail
          refine (isInner_any s[k] _).mono ?_
          rintro _ wz ⟨rfl, rfl⟩
          rw [H1.out]
          go_wp2_with fail
          rw [← HZ.out]
          refine (isInnerDot_any Z _).mono ?_
          rintro _ wz ⟨rfl, rfl⟩
          rw [HZd.out, H2.out]
          go_wp2_with fail
          exact ⟨⟨k + 1, hk1, by go_num, Hn⟩, by simp [intOf]; omega⟩
        | false =>
          have hi3 := hi2
          rw [hdr] at hk hi3
          rw [pn_no (by rw [hi, hi3]; rfl)] at hk
          have hkN2 : k = N := by omega
          have H2 := Lib.hid hi2
          clear hk hdr hi hi2 hi3 hZ hZd
          subst hkN2
          go_wp2_with fail
          refine (isInner_any s[k] _).mono ?_
          rintro _ wz ⟨rfl, rfl⟩
          rw [H1.out]
          go_wp2_with fail
          rw [← HZ.out]
          refine (isInnerDot_any Z _).mono ?_
          rintro _ wz ⟨rfl, rfl⟩
          rw [HZd.out, H2.out]
          go_wp2_with fail
          go_wp2_with fail
          rw [← HY.out]
          refine (isName_any Y _ (hL.alloc _)).mono ?_
          rintro _ w1 ⟨rfl, hb⟩
          rw [Hft.out]
          have B := (b4_new w (.int .i64 0) (.string ⟨#[]⟩) (.int .i64 0) (.int .i64 0) 35).below hb
          obtain ⟨_, p0, p1, p2, p3, pf⟩ := B
          have hb1 := ((Below.refl _ _).alloc (Nat.le_refl _) _).trans (hb.mono (by simp))
          clear hb
          cases ft with
          | false =>
            go_wp2_with fail
            exact bodyPost_ret (v := .tuple #[.agg #[.int .i64 0, .string ⟨#[]⟩, .int .i64 0, .int .i64 0], .int .i64 0, .int .i64 8]) (by simp [results, Tryz.results32, go_sem, p0, p1, p2, p3]) rfl (rb_err (er := 8) (n := 0) Hone.out rfl (below4 hb1 (Nat.le_refl _) _ _ _ _))

          | true =>
            go_wp2_with fail
            rw [← HY.out]
            exact bodyPost_ret (v := .tuple #[.agg #[.int .i64 1, .string Y, .int .i64 0, .int .i64 0], .int .i64 k, .int .i64 0]) (by simp [results, Tryz.results32, go_sem, p0, p1, p2, p3]) rfl (rb_ok (n := k) Hone.out rfl rfl rfl (by simp) (below4 hb1 (Nat.le_refl _) _ _ _ _))
    · have hkN2 : k = N := by omega
      subst hkN2
      go_wp2_with fail
      go_wp2_with fail
      rw [← HY.out]
      refine (isName_any Y _ (hL.alloc _)).mono ?_
      rintro _ w1 ⟨rfl, hb⟩
      rw [Hft.out]
      have B := (b4_new w (.int .i64 0) (.string ⟨#[]⟩) (.int .i64 0) (.int .i64 0) 35).below hb
      obtain ⟨_, p0, p1, p2, p3, pf⟩ := B
      have hb1 := ((Below.refl _ _).alloc (Nat.le_refl _) _).trans (hb.mono (by simp))
      clear hb
      cases ft with
      | false =>
        go_wp2_with fail
        exact bodyPost_ret (v := .tuple #[.agg #[.int .i64 0, .string ⟨#[]⟩, .int .i64 0, .int .i64 0], .int .i64 0, .int .i64 8]) (by simp [results, Tryz.results32, go_sem, p0, p1, p2, p3]) rfl (rb_err (er := 8) (n := 0) Hone.out rfl (below4 hb1 (Nat.le_refl _) _ _ _ _))

      | true =>
        go_wp2_with fail
        rw [← HY.out]
        exact bodyPost_ret (v := .tuple #[.agg #[.int .i64 1, .string Y, .int .i64 0, .int .i64 0], .int .i64 k, .int .i64 0]) (by simp [results, Tryz.results32, go_sem, p0, p1, p2, p3]) rfl (rb_ok (n := k) Hone.out rfl rfl rfl (by simp) (below4 hb1 (Nat.le_refl _) _ _ _ _))

/-- What an integer that begins here gives. -/
theorem int_zero {b : UInt8} {t : List UInt8} (hz : b = 48) (h1 : 1 < dlen (b :: t)) : intE (b :: t) = .error 2 := by
  have hnum : number ((b :: t).take (dlen (b :: t))) = .error 2 := by
    have hle := dlen_le (b :: t)
    unfold number
    rw [if_pos]
    refine ⟨by rw [List.length_take]; omega, ?_⟩
    obtain ⟨m, hm⟩ : ∃ m, dlen (b :: t) = m + 1 := ⟨dlen (b :: t) - 1, by omega⟩
    rw [hm, List.take_succ_cons, hz]
    rfl
  cases e : (b :: t).drop (dlen (b :: t)) with
  | nil => rw [intE_num (fun c r e2 => by rw [e] at e2; cases e2), hnum]; rfl
  | cons c r =>
    cases hw : wch c with
    | true => exact intE_bad e hw
    | false => rw [intE_num (fun c2 r2 e2 => by rw [e] at e2; cases e2; exact hw), hnum]; rfl
theorem int_next {l r : List UInt8} {c : UInt8} (e : l.drop (dlen l) = c :: r) (h : inn c = true) : intE l = .error 2 :=
  intE_bad e (by rw [← wch_inn (dlen_drop l c r e)]; exact h)
theorem int_fine {b : UInt8} {t : List UInt8} (hd : dg b = true) (hz : ¬ (b = 48 ∧ 1 < dlen (b :: t))) (h : ∀ c r, (b :: t).drop (dlen (b :: t)) = c :: r → inn c = false) :
    intE (b :: t) = if natD ((b :: t).take (dlen (b :: t))) ≤ 18446744073709551615 then .ok (⟨2, [], sI (natD ((b :: t).take (dlen (b :: t))))⟩, dlen (b :: t)) else .error 6 := by
  rw [intE_num (fun c r e => by rw [← wch_inn (dlen_drop _ c r e)]; exact h c r e)]
  have hp : 1 ≤ dlen (b :: t) := by unfold dlen; rw [List.takeWhile_cons_of_pos hd]; simp
  have hle := dlen_le (b :: t)
  obtain ⟨m, hm⟩ : ∃ m, dlen (b :: t) = m + 1 := ⟨dlen (b :: t) - 1, by omega⟩
  unfold number
  rw [if_neg]
  · by_cases hr : natD ((b :: t).take (dlen (b :: t))) ≤ 18446744073709551615
    · rw [if_neg (by omega), if_pos hr]; rfl
    · rw [if_pos (by omega), if_neg hr]; rfl
  · intro ⟨c1, c2⟩
    rw [List.length_take] at c1
    rw [hm, List.take_succ_cons] at c2
    exact hz ⟨by simpa using c2, by omega⟩
theorem dlen_in {s : ByteArray} {k : Nat} (h : k < s.size) (hi : dg s[k] = true) : dlen (s.data.toList.drop k) = dlen (s.data.toList.drop (k + 1)) + 1 := by
  rw [drop_k h]
  unfold dlen
  rw [List.takeWhile_cons_of_pos hi]
  rfl
theorem dlen_out {s : ByteArray} {k : Nat} (h : k < s.size) (hi : dg s[k] = false) : dlen (s.data.toList.drop k) = 0 := by
  rw [drop_k h]
  unfold dlen
  rw [List.takeWhile_cons_of_neg (by rw [hi]; simp)]
  rfl

set_option maxHeartbeats 2000000 in
set_option maxRecDepth 100000 in
theorem takeInt_zero (s : ByteArray) (b : UInt8) (t : List UInt8) (hs : s.size ≤ 16384) (hd : s.data.toList = b :: t) (hz : b = 48) (h1 : 1 < dlen (b :: t)) (w : World) :
    Calls Tryz.prog 33 #[.string s] w fun e w' => RB (intE s.data.toList) 0 w e w' := by
  have hX0 := int_zero hz h1
  rw [← hd] at hX0 h1
  obtain ⟨X, hX⟩ : ∃ X, X = intE s.data.toList := ⟨_, rfl⟩
  rw [← hX] at hX0 ⊢
  obtain ⟨N, hN⟩ : ∃ N, N = dlen s.data.toList := ⟨_, rfl⟩
  rw [← hN] at h1
  have hle : N ≤ s.size := by rw [hN]; exact dlen_le _
  have hpos : 0 < s.size := by omega
  have e0 : ((s[0].toNat : Int) == 48) = true := by
    have h0 : s.data.toList[0]? = some s[0] := List.getElem?_eq_getElem (show 0 < s.data.toList.length from hpos)
    rw [hd] at h0
    have : b = s[0] := Option.some.inj h0
    rw [← this, hz]; rfl
  have HX := Lib.hid hX0
  have HN := Lib.hid hN
  clear hX hX0 hN hd hz
  go_enter Tryz.func33, Tryz.ntmps33
  go_wp2_with fail
  go_loop [5] (fun nv => ∃ k : Nat, k ≤ N ∧ nv = .int .i64 k ∧ Hid (N = k + dlen (s.data.toList.drop k))) (fun nv => s.size - (intOf nv).toNat)
  case atStart => exact ⟨0, Nat.zero_le _, rfl, Lib.hid (by rw [List.drop_zero, HN.out]; omega)⟩
  case round =>
    obtain ⟨k, hkN, rfl, Hk⟩ := hrel
    by_cases hlt : k < s.size
    · cases hi : dg s[k] with
      | true =>
        have hst := dlen_in hlt hi
        have hk := Hk.out
        have Hn : Hid (N = (k + 1) + dlen (s.data.toList.drop (k + 1))) := Lib.hid (by omega)
        have hk1 : k + 1 ≤ N := by omega
        have H1 := Lib.hid hi
        clear hst hk hi
        go_wp2_with fail
        refine (isDigit_any s[k] _).mono ?_
        rintro _ wz ⟨rfl, rfl⟩
        rw [H1.out]
        go_wp2_with fail
        exact ⟨⟨k + 1, hk1, by go_num, Hn⟩, by simp [intOf]; omega⟩
      | false =>
        have hst := dlen_out hlt hi
        have hk := Hk.out
        have hkN2 : k = N := by omega
        have H1 := Lib.hid hi
        clear hst hk hi
        subst hkN2
        have d1 : decide ((1 : Int) < k) = true := decide_eq_true (by omega)
        go_wp2_with fail
        refine (isDigit_any s[k] _).mono ?_
        rintro _ wz ⟨rfl, rfl⟩
        rw [H1.out]
        go_wp2_with fail
        exact bodyPost_ret (v := .tuple #[.agg #[.int .i64 0, .string ⟨#[]⟩, .int .i64 0, .int .i64 0], .int .i64 0, .int .i64 2]) (by simp [results, Tryz.results33, go_sem]) rfl (rb_err (er := 2) (n := 0) HX.out rfl ((Below.refl _ _).alloc (Nat.le_refl _) _))
    · have hkN2 : k = N := by
        have hk := Hk.out
        omega
      subst hkN2
      have d1 : decide ((1 : Int) < k) = true := decide_eq_true (by omega)
      go_wp2_with fail
      exact bodyPost_ret (v := .tuple #[.agg #[.int .i64 0, .string ⟨#[]⟩, .int .i64 0, .int .i64 0], .int .i64 0, .int .i64 2]) (by simp [results, Tryz.results33, go_sem]) rfl (rb_err (er := 2) (n := 0) HX.out rfl ((Below.refl _ _).alloc (Nat.le_refl _) _))

set_option maxHeartbeats 2000000 in
set_option maxRecDepth 100000 in
theorem takeInt_next (s : ByteArray) (b c : UInt8) (t r : List UInt8) (hs : s.size ≤ 16384) (hd : s.data.toList = b :: t) (hz : ¬ (b = 48 ∧ 1 < dlen (b :: t))) (he : s.data.toList.drop (dlen s.data.toList) = c :: r) (hc : inn c = true) (w : World) :
    Calls Tryz.prog 33 #[.string s] w fun e w' => RB (intE s.data.toList) 0 w e w' := by
  have hX0 := int_next he hc
  obtain ⟨X, hX⟩ : ∃ X, X = intE s.data.toList := ⟨_, rfl⟩
  rw [← hX] at hX0 ⊢
  obtain ⟨N, hN⟩ : ∃ N, N = dlen s.data.toList := ⟨_, rfl⟩
  have hle : N ≤ s.size := by rw [hN]; exact dlen_le _
  have hpos : 0 < s.size := by
    have h0 : s.data.toList.length = s.size := rfl
    rw [hd] at h0
    simp only [List.length_cons] at h0
    omega
  obtain ⟨z0, hz0⟩ : ∃ z0, ((s[0].toNat : Int) == 48) = z0 := ⟨_, rfl⟩
  have hzz : z0 = true → ¬ (1 < N) := by
    intro e h1
    rw [← hz0, show ((s[0].toNat : Int) == 48) = _ from eqb (b := s[0]) (n := 48) (by decide), decide_eq_true_eq] at e
    have h0 : s.data.toList[0]? = some s[0] := List.getElem?_eq_getElem (show 0 < s.data.toList.length from hpos)
    rw [hd] at h0
    have hb : b = s[0] := Option.some.inj h0
    exact hz ⟨hb.trans e, by rw [← hd, ← hN]; exact h1⟩

  rw [← hN] at he
  have HX := Lib.hid hX0
  have HN := Lib.hid hN
  have Hhe := Lib.hid he
  have Hz := Lib.hid hzz
  clear hX hX0 hN hd hz he hzz
  go_enter Tryz.func33, Tryz.ntmps33
  go_wp2_with fail
  go_loop [5] (fun nv => ∃ k : Nat, k ≤ N ∧ nv = .int .i64 k ∧ Hid (N = k + dlen (s.data.toList.drop k))) (fun nv => s.size - (intOf nv).toNat)
  case atStart => exact ⟨0, Nat.zero_le _, rfl, Lib.hid (by rw [List.drop_zero, HN.out]; omega)⟩
  case round =>
    obtain ⟨k, hkN, rfl, Hk⟩ := hrel
    by_cases hlt : k < s.size
    · cases hi : dg s[k] with
      | true =>
        have hst := dlen_in hlt hi
        have hk := Hk.out
        have Hn : Hid (N = (k + 1) + dlen (s.data.toList.drop (k + 1))) := Lib.hid (by omega)
        have hk1 : k + 1 ≤ N := by omega
        have H1 := Lib.hid hi
        clear hst hk hi
        go_wp2_with fail
        refine (isDigit_any s[k] _).mono ?_
        rintro _ wz ⟨rfl, rfl⟩
        rw [H1.out]
        go_wp2_with fail
        exact ⟨⟨k + 1, hk1, by go_num, Hn⟩, by simp [intOf]; omega⟩
      | false =>
        have hst := dlen_out hlt hi
        have hk := Hk.out
        have hkN2 : k = N := by omega
        have H1 := Lib.hid hi
        clear hst hk hi
        subst hkN2
        have hc2 : inn s[k] = true := by
          have := Hhe.out
          rw [drop_k hlt] at this
          injection this with e1 _
          rw [e1]; exact hc
        have Hc2 := Lib.hid hc2
        clear hc2
        cases z0 with
        | true =>
          have d1 : decide ((1 : Int) < k) = false := decide_eq_false (by have := Hz.out rfl; omega)
          go_wp2_with fail
          refine (isDigit_any s[k] _).mono ?_
          rintro _ wz ⟨rfl, rfl⟩
          rw [H1.out]
          go_wp2_with fail
          refine (isInner_any s[k] _).mono ?_
          rintro _ wz ⟨rfl, rfl⟩
          rw [Hc2.out]
          go_wp2_with fail
          exact bodyPost_ret (v := .tuple #[.agg #[.int .i64 0, .string ⟨#[]⟩, .int .i64 0, .int .i64 0], .int .i64 0, .int .i64 2]) (by simp [results, Tryz.results33, go_sem]) rfl (rb_err (er := 2) (n := 0) HX.out rfl ((Below.refl _ _).alloc (Nat.le_refl _) _))

        | false =>
          go_wp2_with fail
          refine (isDigit_any s[k] _).mono ?_
          rintro _ wz ⟨rfl, rfl⟩
          rw [H1.out]
          go_wp2_with fail
          refine (isInner_any s[k] _).mono ?_
          rintro _ wz ⟨rfl, rfl⟩
          rw [Hc2.out]
          go_wp2_with fail
          exact bodyPost_ret (v := .tuple #[.agg #[.int .i64 0, .string ⟨#[]⟩, .int .i64 0, .int .i64 0], .int .i64 0, .int .i64 2]) (by simp [results, Tryz.results33, go_sem]) rfl (rb_err (er := 2) (n := 0) HX.out rfl ((Below.refl _ _).alloc (Nat.le_refl _) _))
    · have hkN2 : k = N := by
        have hk := Hk.out
        omega
      subst hkN2
      exact absurd Hhe.out (by rw [drop_no (by omega)]; simp)

set_option maxHeartbeats 2000000 in
set_option maxRecDepth 100000 in
theorem takeInt_ok (s : ByteArray) (b : UInt8) (t : List UInt8) (hs : s.size ≤ 16384) (hd : s.data.toList = b :: t) (hg : dg b = true) (hz : ¬ (b = 48 ∧ 1 < dlen (b :: t))) (hc : ∀ c r, s.data.toList.drop (dlen s.data.toList) = c :: r → inn c = false) (hr : natD (s.data.toList.take (dlen s.data.toList)) ≤ 18446744073709551615) (w : World) (hL : Tld.Ld w) :
    Calls Tryz.prog 33 #[.string s] w fun e w' => RB (intE s.data.toList) 0 w e w' := by
  have hX0 : intE s.data.toList = if natD (s.data.toList.take (dlen s.data.toList)) ≤ 18446744073709551615 then .ok (⟨2, [], sI (natD (s.data.toList.take (dlen s.data.toList)))⟩, dlen s.data.toList) else .error 6 := by
    rw [hd]
    rw [hd] at hc
    exact int_fine hg hz hc

  obtain ⟨X, hX⟩ : ∃ X, X = intE s.data.toList := ⟨_, rfl⟩
  rw [← hX] at hX0 ⊢
  obtain ⟨N, hN⟩ : ∃ N, N = dlen s.data.toList := ⟨_, rfl⟩
  have hle : N ≤ s.size := by rw [hN]; exact dlen_le _
  have hpos : 0 < s.size := by
    have h0 : s.data.toList.length = s.size := rfl
    rw [hd] at h0
    simp only [List.length_cons] at h0
    omega
  obtain ⟨z0, hz0⟩ : ∃ z0, ((s[0].toNat : Int) == 48) = z0 := ⟨_, rfl⟩
  have hzz : z0 = true → ¬ (1 < N) := by
    intro e h1
    rw [← hz0, show ((s[0].toNat : Int) == 48) = _ from eqb (b := s[0]) (n := 48) (by decide), decide_eq_true_eq] at e
    have h0 : s.data.toList[0]? = some s[0] := List.getElem?_eq_getElem (show 0 < s.data.toList.length from hpos)
    rw [hd] at h0
    have hb : b = s[0] := Option.some.inj h0
    exact hz ⟨hb.trans e, by rw [← hd, ← hN]; exact h1⟩

  obtain ⟨Y, hY⟩ : ∃ Y, Y = s.extract 0 N := ⟨_, rfl⟩
  have hYd : Y.data.toList = s.data.toList.take (dlen s.data.toList) := by rw [hY, take_k, hN]
  have hYs : Y.size ≤ 16384 := by rw [hY, ByteArray.size_extract]; omega
  have hYn : Y.data.toList ≠ [] := by
    rw [hYd, hd, dlen_take, List.takeWhile_cons_of_pos hg]; simp
  have hYg : Y.data.toList.all dg = true := by rw [hYd]; exact dlen_all _
  have hpu := uintD hYn hYg
  rw [← hYd] at hX0 hr
  rw [← hN] at hX0 hc
  rw [if_pos hr] at hX0 hpu
  obtain ⟨U, hU0⟩ : ∃ U, U = natD Y.data.toList := ⟨_, rfl⟩
  rw [← hU0] at hX0 hpu hr
  clear hU0
  have hU := hr
  have Cp := Lib.hid (Tryz.strconv_ParseUint_10_at64_ok Y (by omega) U hpu (w.alloc (.cells #[.int .i64 0, .string ⟨#[]⟩, .int .i64 0, .int .i64 0] 35)))
  have HX := Lib.hid hX0
  have HN := Lib.hid hN
  have HY := Lib.hid hY
  have Hz := Lib.hid hzz
  have Hc := Lib.hid hc
  clear hX hX0 hN hd hz hzz hYd hYs hYn hYg hpu hY hg hr hc
  go_enter Tryz.func33, Tryz.ntmps33
  go_wp2_with fail
  go_loop [5] (fun nv => ∃ k : Nat, k ≤ N ∧ nv = .int .i64 k ∧ Hid (N = k + dlen (s.data.toList.drop k))) (fun nv => s.size - (intOf nv).toNat)
  case atStart => exact ⟨0, Nat.zero_le _, rfl, Lib.hid (by rw [List.drop_zero, HN.out]; omega)⟩
  case round =>
    obtain ⟨k, hkN, rfl, Hk⟩ := hrel
    by_cases hlt : k < s.size
    · cases hi : dg s[k] with
      | true =>
        have hst := dlen_in hlt hi
        have hk := Hk.out
        have Hn : Hid (N = (k + 1) + dlen (s.data.toList.drop (k + 1))) := Lib.hid (by omega)
        have hk1 : k + 1 ≤ N := by omega
        have H1 := Lib.hid hi
        clear hst hk hi
        go_wp2_with fail
        refine (isDigit_any s[k] _).mono ?_
        rintro _ wz ⟨rfl, rfl⟩
        rw [H1.out]
        go_wp2_with fail
        exact ⟨⟨k + 1, hk1, by go_num, Hn⟩, by simp [intOf]; omega⟩
      | false =>
        have hst := dlen_out hlt hi
        have hk := Hk.out
        have hkN2 : k = N := by omega
        have H1 := Lib.hid hi
        clear hst hk hi
        subst hkN2
        have hc2 : inn s[k] = false := Hc.out _ _ (drop_k hlt)
        have Hc2 := Lib.hid hc2
        clear hc2
        cases z0 with
        | true =>
          have d1 : decide ((1 : Int) < k) = false := decide_eq_false (by have := Hz.out rfl; omega)
          go_wp2_with fail
          refine (isDigit_any s[k] _).mono ?_
          rintro _ wz ⟨rfl, rfl⟩
          rw [H1.out]
          go_wp2_with fail
          refine (isInner_any s[k] _).mono ?_
          rintro _ wz ⟨rfl, rfl⟩
          rw [Hc2.out]
          go_wp2_with fail
          rw [← HY.out]
          refine Cp.out.mono ?_
          rintro _ w1 ⟨rfl, hb0⟩
          have hb : Below (w.alloc (.cells #[.int .i64 0, .string ⟨#[]⟩, .int .i64 0, .int .i64 0] 35)).heap.size (w.alloc (.cells #[.int .i64 0, .string ⟨#[]⟩, .int .i64 0, .int .i64 0] 35)) w1 := by
            rcases hb0 with rfl | rfl
            · exact Below.refl _ _
            · exact Lib.bytesWorld_below _ _ _
          clear hb0
          have B := (b4_new w (.int .i64 0) (.string ⟨#[]⟩) (.int .i64 0) (.int .i64 0) 35).below hb
          obtain ⟨_, p0, p1, p2, p3, pf⟩ := B
          have hb1 := ((Below.refl _ _).alloc (Nat.le_refl _) _).trans (hb.mono (by simp))
          clear hb
          have hwr := wrap_sI U hU
          generalize sI U = I at *
          go_wp2_with fail
          exact bodyPost_ret (v := .tuple #[.agg #[.int .i64 2, .string ⟨#[]⟩, .int .i64 I, .int .i64 0], .int .i64 k, .int .i64 0]) (by simp [results, Tryz.results33, go_sem, p0, p1, p2, p3]) rfl (rb_ok (n := k) HX.out rfl rfl rfl (by simp) (below4 hb1 (Nat.le_refl _) _ _ _ _))
        | false =>
          go_wp2_with fail
          refine (isDigit_any s[k] _).mono ?_
          rintro _ wz ⟨rfl, rfl⟩
          rw [H1.out]
          go_wp2_with fail
          refine (isInner_any s[k] _).mono ?_
          rintro _ wz ⟨rfl, rfl⟩
          rw [Hc2.out]
          go_wp2_with fail
          rw [← HY.out]
          refine Cp.out.mono ?_
          rintro _ w1 ⟨rfl, hb0⟩
          have hb : Below (w.alloc (.cells #[.int .i64 0, .string ⟨#[]⟩, .int .i64 0, .int .i64 0] 35)).heap.size (w.alloc (.cells #[.int .i64 0, .string ⟨#[]⟩, .int .i64 0, .int .i64 0] 35)) w1 := by
            rcases hb0 with rfl | rfl
            · exact Below.refl _ _
            · exact Lib.bytesWorld_below _ _ _
          clear hb0
          have B := (b4_new w (.int .i64 0) (.string ⟨#[]⟩) (.int .i64 0) (.int .i64 0) 35).below hb
          obtain ⟨_, p0, p1, p2, p3, pf⟩ := B
          have hb1 := ((Below.refl _ _).alloc (Nat.le_refl _) _).trans (hb.mono (by simp))
          clear hb
          have hwr := wrap_sI U hU
          generalize sI U = I at *
          go_wp2_with fail
          exact bodyPost_ret (v := .tuple #[.agg #[.int .i64 2, .string ⟨#[]⟩, .int .i64 I, .int .i64 0], .int .i64 k, .int .i64 0]) (by simp [results, Tryz.results33, go_sem, p0, p1, p2, p3]) rfl (rb_ok (n := k) HX.out rfl rfl rfl (by simp) (below4 hb1 (Nat.le_refl _) _ _ _ _))
    · have hkN2 : k = N := by
        have hk := Hk.out
        omega
      subst hkN2
      cases z0 with
      | true =>
        have d1 : decide ((1 : Int) < k) = false := decide_eq_false (by have := Hz.out rfl; omega)
        go_wp2_with fail
        rw [← HY.out]
        refine Cp.out.mono ?_
        rintro _ w1 ⟨rfl, hb0⟩
        have hb : Below (w.alloc (.cells #[.int .i64 0, .string ⟨#[]⟩, .int .i64 0, .int .i64 0] 35)).heap.size (w.alloc (.cells #[.int .i64 0, .string ⟨#[]⟩, .int .i64 0, .int .i64 0] 35)) w1 := by
          rcases hb0 with rfl | rfl
          · exact Below.refl _ _
          · exact Lib.bytesWorld_below _ _ _
        clear hb0
        have B := (b4_new w (.int .i64 0) (.string ⟨#[]⟩) (.int .i64 0) (.int .i64 0) 35).below hb
        obtain ⟨_, p0, p1, p2, p3, pf⟩ := B
        have hb1 := ((Below.refl _ _).alloc (Nat.le_refl _) _).trans (hb.mono (by simp))
        clear hb
        have hwr := wrap_sI U hU
        generalize sI U = I at *
        go_wp2_with fail
        exact bodyPost_ret (v := .tuple #[.agg #[.int .i64 2, .string ⟨#[]⟩, .int .i64 I, .int .i64 0], .int .i64 k, .int .i64 0]) (by simp [results, Tryz.results33, go_sem, p0, p1, p2, p3]) rfl (rb_ok (n := k) HX.out rfl rfl rfl (by simp) (below4 hb1 (Nat.le_refl _) _ _ _ _))
      | false =>
        go_wp2_with fail
        rw [← HY.out]
        refine Cp.out.mono ?_
        rintro _ w1 ⟨rfl, hb0⟩
        have hb : Below (w.alloc (.cells #[.int .i64 0, .string ⟨#[]⟩, .int .i64 0, .int .i64 0] 35)).heap.size (w.alloc (.cells #[.int .i64 0, .string ⟨#[]⟩, .int .i64 0, .int .i64 0] 35)) w1 := by
          rcases hb0 with rfl | rfl
          · exact Below.refl _ _
          · exact Lib.bytesWorld_below _ _ _
        clear hb0
        have B := (b4_new w (.int .i64 0) (.string ⟨#[]⟩) (.int .i64 0) (.int .i64 0) 35).below hb
        obtain ⟨_, p0, p1, p2, p3, pf⟩ := B
        have hb1 := ((Below.refl _ _).alloc (Nat.le_refl _) _).trans (hb.mono (by simp))
        clear hb
        have hwr := wrap_sI U hU
        generalize sI U = I at *
        go_wp2_with fail
        exact bodyPost_ret (v := .tuple #[.agg #[.int .i64 2, .string ⟨#[]⟩, .int .i64 I, .int .i64 0], .int .i64 k, .int .i64 0]) (by simp [results, Tryz.results33, go_sem, p0, p1, p2, p3]) rfl (rb_ok (n := k) HX.out rfl rfl rfl (by simp) (below4 hb1 (Nat.le_refl _) _ _ _ _))

set_option maxHeartbeats 2000000 in
set_option maxRecDepth 100000 in
theorem takeInt_rg (s : ByteArray) (b : UInt8) (t : List UInt8) (hs : s.size ≤ 16384) (hd : s.data.toList = b :: t) (hg : dg b = true) (hz : ¬ (b = 48 ∧ 1 < dlen (b :: t))) (hc : ∀ c r, s.data.toList.drop (dlen s.data.toList) = c :: r → inn c = false) (hr : ¬ natD (s.data.toList.take (dlen s.data.toList)) ≤ 18446744073709551615) (w : World) (hL : Tld.Ld w) :
    Calls Tryz.prog 33 #[.string s] w fun e w' => RB (intE s.data.toList) 0 w e w' := by
  have hX0 : intE s.data.toList = if natD (s.data.toList.take (dlen s.data.toList)) ≤ 18446744073709551615 then .ok (⟨2, [], sI (natD (s.data.toList.take (dlen s.data.toList)))⟩, dlen s.data.toList) else .error 6 := by
    rw [hd]
    rw [hd] at hc
    exact int_fine hg hz hc

  obtain ⟨X, hX⟩ : ∃ X, X = intE s.data.toList := ⟨_, rfl⟩
  rw [← hX] at hX0 ⊢
  obtain ⟨N, hN⟩ : ∃ N, N = dlen s.data.toList := ⟨_, rfl⟩
  have hle : N ≤ s.size := by rw [hN]; exact dlen_le _
  have hpos : 0 < s.size := by
    have h0 : s.data.toList.length = s.size := rfl
    rw [hd] at h0
    simp only [List.length_cons] at h0
    omega
  obtain ⟨z0, hz0⟩ : ∃ z0, ((s[0].toNat : Int) == 48) = z0 := ⟨_, rfl⟩
  have hzz : z0 = true → ¬ (1 < N) := by
    intro e h1
    rw [← hz0, show ((s[0].toNat : Int) == 48) = _ from eqb (b := s[0]) (n := 48) (by decide), decide_eq_true_eq] at e
    have h0 : s.data.toList[0]? = some s[0] := List.getElem?_eq_getElem (show 0 < s.data.toList.length from hpos)
    rw [hd] at h0
    have hb : b = s[0] := Option.some.inj h0
    exact hz ⟨hb.trans e, by rw [← hd, ← hN]; exact h1⟩

  obtain ⟨Y, hY⟩ : ∃ Y, Y = s.extract 0 N := ⟨_, rfl⟩
  have hYd : Y.data.toList = s.data.toList.take (dlen s.data.toList) := by rw [hY, take_k, hN]
  have hYs : Y.size ≤ 16384 := by rw [hY, ByteArray.size_extract]; omega
  have hYn : Y.data.toList ≠ [] := by
    rw [hYd, hd, dlen_take, List.takeWhile_cons_of_pos hg]; simp
  have hYg : Y.data.toList.all dg = true := by rw [hYd]; exact dlen_all _
  have hpu := uintD hYn hYg
  rw [← hYd] at hX0 hr
  rw [← hN] at hX0 hc
  rw [if_neg hr] at hX0 hpu
  have Cp : Hid (∀ (W : World), Tld.Ld W → Calls Tryz.prog 51 #[.string Y, .int .i64 10, .int .i64 64] W fun e w' => (∃ tp p, e = .returned (.tuple #[.int .u64 18446744073709551615, .iface tp p])) ∧ Below W.heap.size W w') := Lib.hid (fun W hW => by
    obtain ⟨tp, p, hv⟩ := hW.v.er
    refine (Tryz.strconv_ParseUint_10_at64_range_var Y (by omega) hpu tp p W hv).mono ?_
    rintro _ w1 ⟨N, rfl, hN, hc, hb1⟩
    exact ⟨⟨_, _, rfl⟩, hb1⟩)
  have HX := Lib.hid hX0
  have HN := Lib.hid hN
  have HY := Lib.hid hY
  have Hz := Lib.hid hzz
  have Hc := Lib.hid hc
  clear hX hX0 hN hd hz hzz hYd hYs hYn hYg hpu hY hg hr hc
  go_enter Tryz.func33, Tryz.ntmps33
  go_wp2_with fail
  go_loop [5] (fun nv => ∃ k : Nat, k ≤ N ∧ nv = .int .i64 k ∧ Hid (N = k + dlen (s.data.toList.drop k))) (fun nv => s.size - (intOf nv).toNat)
  case atStart => exact ⟨0, Nat.zero_le _, rfl, Lib.hid (by rw [List.drop_zero, HN.out]; omega)⟩
  case round =>
    obtain ⟨k, hkN, rfl, Hk⟩ := hrel
    by_cases hlt : k < s.size
    · cases hi : dg s[k] with
      | true =>
        have hst := dlen_in hlt hi
        have hk := Hk.out
        have Hn : Hid (N = (k + 1) + dlen (s.data.toList.drop (k + 1))) := Lib.hid (by omega)
        have hk1 : k + 1 ≤ N := by omega
        have H1 := Lib.hid hi
        clear hst hk hi
        go_wp2_with fail
        refine (isDigit_any s[k] _).mono ?_
        rintro _ wz ⟨rfl, rfl⟩
        rw [H1.out]
        go_wp2_with fail
        exact ⟨⟨k + 1, hk1, by go_num, Hn⟩, by simp [intOf]; omega⟩
      | false =>
        have hst := dlen_out hlt hi
        have hk := Hk.out
        have hkN2 : k = N := by omega
        have H1 := Lib.hid hi
        clear hst hk hi
        subst hkN2
        have hc2 : inn s[k] = false := Hc.out _ _ (drop_k hlt)
        have Hc2 := Lib.hid hc2
        clear hc2
        cases z0 with
        | true =>
          have d1 : decide ((1 : Int) < k) = false := decide_eq_false (by have := Hz.out rfl; omega)
          go_wp2_with fail
          refine (isDigit_any s[k] _).mono ?_
          rintro _ wz ⟨rfl, rfl⟩
          rw [H1.out]
          go_wp2_with fail
          refine (isInner_any s[k] _).mono ?_
          rintro _ wz ⟨rfl, rfl⟩
          rw [Hc2.out]
          go_wp2_with fail
          rw [← HY.out]
          refine (Cp.out _ (hL.alloc _)).mono ?_
          rintro _ w1 ⟨⟨tp, pp, rfl⟩, hb⟩
          have B := (b4_new w (.int .i64 0) (.string ⟨#[]⟩) (.int .i64 0) (.int .i64 0) 35).below hb
          obtain ⟨_, p0, p1, p2, p3, pf⟩ := B
          have hb1 := ((Below.refl _ _).alloc (Nat.le_refl _) _).trans (hb.mono (by simp))
          clear hb
          go_wp2_with fail
          exact bodyPost_ret (v := .tuple #[.agg #[.int .i64 0, .string ⟨#[]⟩, .int .i64 0, .int .i64 0], .int .i64 0, .int .i64 6]) (by simp [results, Tryz.results33, go_sem, p0, p1, p2, p3]) rfl (rb_err (er := 6) (n := 0) HX.out rfl (below4 hb1 (Nat.le_refl _) _ _ _ _))
        | false =>
          go_wp2_with fail
          refine (isDigit_any s[k] _).mono ?_
          rintro _ wz ⟨rfl, rfl⟩
          rw [H1.out]
          go_wp2_with fail
          refine (isInner_any s[k] _).mono ?_
          rintro _ wz ⟨rfl, rfl⟩
          rw [Hc2.out]
          go_wp2_with fail
          rw [← HY.out]
          refine (Cp.out _ (hL.alloc _)).mono ?_
          rintro _ w1 ⟨⟨tp, pp, rfl⟩, hb⟩
          have B := (b4_new w (.int .i64 0) (.string ⟨#[]⟩) (.int .i64 0) (.int .i64 0) 35).below hb
          obtain ⟨_, p0, p1, p2, p3, pf⟩ := B
          have hb1 := ((Below.refl _ _).alloc (Nat.le_refl _) _).trans (hb.mono (by simp))
          clear hb
          go_wp2_with fail
          exact bodyPost_ret (v := .tuple #[.agg #[.int .i64 0, .string ⟨#[]⟩, .int .i64 0, .int .i64 0], .int .i64 0, .int .i64 6]) (by simp [results, Tryz.results33, go_sem, p0, p1, p2, p3]) rfl (rb_err (er := 6) (n := 0) HX.out rfl (below4 hb1 (Nat.le_refl _) _ _ _ _))
    · have hkN2 : k = N := by
        have hk := Hk.out
        omega
      subst hkN2
      cases z0 with
      | true =>
        have d1 : decide ((1 : Int) < k) = false := decide_eq_false (by have := Hz.out rfl; omega)
        go_wp2_with fail
        rw [← HY.out]
        refine (Cp.out _ (hL.alloc _)).mono ?_
        rintro _ w1 ⟨⟨tp, pp, rfl⟩, hb⟩
        have B := (b4_new w (.int .i64 0) (.string ⟨#[]⟩) (.int .i64 0) (.int .i64 0) 35).below hb
        obtain ⟨_, p0, p1, p2, p3, pf⟩ := B
        have hb1 := ((Below.refl _ _).alloc (Nat.le_refl _) _).trans (hb.mono (by simp))
        clear hb
        go_wp2_with fail
        exact bodyPost_ret (v := .tuple #[.agg #[.int .i64 0, .string ⟨#[]⟩, .int .i64 0, .int .i64 0], .int .i64 0, .int .i64 6]) (by simp [results, Tryz.results33, go_sem, p0, p1, p2, p3]) rfl (rb_err (er := 6) (n := 0) HX.out rfl (below4 hb1 (Nat.le_refl _) _ _ _ _))
      | false =>
        go_wp2_with fail
        rw [← HY.out]
        refine (Cp.out _ (hL.alloc _)).mono ?_
        rintro _ w1 ⟨⟨tp, pp, rfl⟩, hb⟩
        have B := (b4_new w (.int .i64 0) (.string ⟨#[]⟩) (.int .i64 0) (.int .i64 0) 35).below hb
        obtain ⟨_, p0, p1, p2, p3, pf⟩ := B
        have hb1 := ((Below.refl _ _).alloc (Nat.le_refl _) _).trans (hb.mono (by simp))
        clear hb
        go_wp2_with fail
        exact bodyPost_ret (v := .tuple #[.agg #[.int .i64 0, .string ⟨#[]⟩, .int .i64 0, .int .i64 0], .int .i64 0, .int .i64 6]) (by simp [results, Tryz.results33, go_sem, p0, p1, p2, p3]) rfl (rb_err (er := 6) (n := 0) HX.out rfl (below4 hb1 (Nat.le_refl _) _ _ _ _))

theorem takeInt_any (s : ByteArray) (b : UInt8) (t : List UInt8) (hs : s.size ≤ 16384) (hd : s.data.toList = b :: t) (hg : dg b = true) (w : World) (hL : Tld.Ld w) :
    Calls Tryz.prog 33 #[.string s] w fun e w' => RB (intE s.data.toList) 0 w e w' := by
  by_cases hz : b = 48 ∧ 1 < dlen (b :: t)
  · exact takeInt_zero s b t hs hd hz.1 hz.2 w
  · have key : (∀ c r, s.data.toList.drop (dlen s.data.toList) = c :: r → inn c = false) → Calls Tryz.prog 33 #[.string s] w fun e w' => RB (intE s.data.toList) 0 w e w' := by
      intro hc
      by_cases hr : natD (s.data.toList.take (dlen s.data.toList)) ≤ 18446744073709551615
      · exact takeInt_ok s b t hs hd hg hz hc hr w hL
      · exact takeInt_rg s b t hs hd hg hz hc hr w hL
    cases e : s.data.toList.drop (dlen s.data.toList) with
    | nil => exact key (fun c r e2 => by rw [e] at e2; cases e2)
    | cons c r =>
      cases hc : inn c with
      | true => exact takeInt_next s b c t r hs hd hz e hc w
      | false => exact key (fun c2 r2 e2 => by rw [e] at e2; cases e2; exact hc)

set_option maxHeartbeats 2000000 in
set_option maxRecDepth 100000 in
theorem takeText_any (s : ByteArray) (t : List UInt8) (hs : s.size ≤ 16384) (hd : s.data.toList = 34 :: t) (w : World) :
    Calls Tryz.prog 34 #[.string s] w fun e w' => RB (one s.data.toList) 0 w e w' := by
  have hX0 : one s.data.toList = if (UtfQ.unquote s.data.toList).2.2 = 0 then .ok (⟨3, (UtfQ.unquote s.data.toList).1, 0⟩, (UtfQ.unquote s.data.toList).2.1) else .error 2 := by
    rw [hd]
    exact one_text (nm_zero t (by decide) (by decide))
  obtain ⟨X, hX⟩ : ∃ X, X = one s.data.toList := ⟨_, rfl⟩
  rw [← hX] at hX0 ⊢
  rcases UtfQ.unquote_cases s.data.toList with hu | ⟨x, n, hu, hn2, hnl, hqt⟩
  · rw [hu, if_neg (by simp)] at hX0
    have HX := Lib.hid hX0
    have Hu := Lib.hid hu
    clear hX hX0 hd hu
    go_enter Tryz.func34, Tryz.ntmps34
    go_wp2_with fail
    refine (UtfE.unquote_any s (by omega) _).mono ?_
    rintro _ w1 ⟨rfl, hb⟩
    rw [Hu.out]
    have B := (b4_new w (.int .i64 0) (.string ⟨#[]⟩) (.int .i64 0) (.int .i64 0) 35).below hb
    obtain ⟨_, p0, p1, p2, p3, pf⟩ := B
    have hb1 := ((Below.refl _ _).alloc (Nat.le_refl _) _).trans (hb.mono (by simp))
    clear hb
    go_wp2_with fail
    exact bodyPost_ret (v := .tuple #[.agg #[.int .i64 0, .string ⟨#[]⟩, .int .i64 0, .int .i64 0], .int .i64 0, .int .i64 2]) (by simp [results, Tryz.results34, go_sem, p0, p1, p2, p3]) rfl (rb_err (er := 2) (n := 0) HX.out rfl (below4 hb1 (Nat.le_refl _) _ _ _ _))

  · rw [hu, if_pos rfl] at hX0
    have HX := Lib.hid hX0
    have Hu := Lib.hid hu
    clear hX hX0 hd hu hqt
    go_enter Tryz.func34, Tryz.ntmps34
    go_wp2_with fail
    refine (UtfE.unquote_any s (by omega) _).mono ?_
    rintro _ w1 ⟨rfl, hb⟩
    rw [Hu.out]
    have B := (b4_new w (.int .i64 0) (.string ⟨#[]⟩) (.int .i64 0) (.int .i64 0) 35).below hb
    obtain ⟨_, p0, p1, p2, p3, pf⟩ := B
    have hb1 := ((Below.refl _ _).alloc (Nat.le_refl _) _).trans (hb.mono (by simp))
    clear hb
    go_wp2_with fail
    exact bodyPost_ret (v := .tuple #[.agg #[.int .i64 3, .string ⟨x.toArray⟩, .int .i64 0, .int .i64 0], .int .i64 n, .int .i64 0]) (by simp [results, Tryz.results34, go_sem, p0, p1, p2, p3]) rfl (rb_ok (n := n) HX.out rfl rfl rfl (by simp) (below4 hb1 (Nat.le_refl _) _ _ _ _))

end Go.Proofs.YtoinfjdhbopefaaGreatDoor.TkpB
