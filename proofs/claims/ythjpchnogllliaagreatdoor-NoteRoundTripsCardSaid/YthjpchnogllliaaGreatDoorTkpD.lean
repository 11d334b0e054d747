import Derived.Test.YthjpchnogllliaaGreatDoorTkpM
import Derived.Test.YthjpchnogllliaaGreatDoorIdpA
import Derived.Test.YthjpchnogllliaaGreatDoorUtfS
import Derived.Test.YthjpchnogllliaaGreatDoorTld
import Derived.Test.YthjpchnogllliaaGreatDoorTkrG
import Derived.Test.YthjpchnogllliaaGreatDoorUtfL
import Derived.Shelf.Pu.ErrVarParseUint
import Derived.Test.YthjpchnogllliaaGreatDoorTkrC
/- Package token of the program: bytes, dots, names, signs, what stands at the beginning of a text, comments. -/
set_option linter.unusedSimpArgs false
set_option linter.unusedVariables false
namespace Go.Proofs.YthjpchnogllliaaGreatDoor.TkpA
open Go.RowKit Nums IdnM IdnC TokM TokS TkpM

theorem ret_bool {a b : Bool} (h : a = b) : Ending.returned (.bool a) = .returned (.bool b) := by rw [h]
theorem ret_int {a b : Int} (h : a = b) : Ending.returned (.int .i64 a) = .returned (.int .i64 b) := by rw [h]
set_option maxHeartbeats 2000000 in
set_option maxRecDepth 100000 in
theorem isLetter_any (b : UInt8) (w : World) :
    Calls Tryz.prog 52 #[.int .u8 (b.toNat : Int)] w fun e w' => e = .returned (.bool (ltr b)) ∧ w = w' := by
  have hc : ltr b = ((decide (97 ≤ b.toNat) && decide (b.toNat ≤ 122)) || (decide (65 ≤ b.toNat) && decide (b.toNat ≤ 90))) := by simp [ltr, sm, cp]
  obtain ⟨n, hn⟩ : ∃ n, n = b.toNat := ⟨_, rfl⟩
  rw [← hn] at hc ⊢
  have Hc := Lib.hid hc
  clear hc hn
  go_enter Tryz.func52, Tryz.ntmps52
  go_wp2_with fail
  all_goals go_ret
  all_goals
    refine ⟨ret_bool ?_, rfl⟩
    rw [Hc.out]
    clear Hc
    try simp only [beq_iff_eq, decide_eq_true_eq, decide_eq_false_iff_not, Int.not_le, Bool.not_eq_true, ge_iff_le] at *
    rw [Bool.eq_iff_iff]
    simp only [Bool.and_eq_true, Bool.or_eq_true, decide_eq_true_eq]
    constructor <;> intros <;> first | omega | (exfalso; omega) | simp_all | (refine ⟨?_, ?_⟩ <;> omega)

set_option maxHeartbeats 2000000 in
set_option maxRecDepth 100000 in
theorem isDigit_any (b : UInt8) (w : World) :
    Calls Tryz.prog 54 #[.int .u8 (b.toNat : Int)] w fun e w' => e = .returned (.bool (dg b)) ∧ w = w' := by
  have hc : dg b = (decide (48 ≤ b.toNat) && decide (b.toNat ≤ 57)) := by rfl
  obtain ⟨n, hn⟩ : ∃ n, n = b.toNat := ⟨_, rfl⟩
  rw [← hn] at hc ⊢
  have Hc := Lib.hid hc
  clear hc hn
  go_enter Tryz.func54, Tryz.ntmps54
  go_wp2_with fail
  all_goals go_ret
  all_goals
    refine ⟨ret_bool ?_, rfl⟩
    rw [Hc.out]
    clear Hc
    try simp only [beq_iff_eq, decide_eq_true_eq, decide_eq_false_iff_not, Int.not_le, Bool.not_eq_true, ge_iff_le] at *
    rw [Bool.eq_iff_iff]
    simp only [Bool.and_eq_true, Bool.or_eq_true, decide_eq_true_eq]
    constructor <;> intros <;> first | omega | (exfalso; omega) | simp_all | (refine ⟨?_, ?_⟩ <;> omega)

theorem inn_of (b : UInt8) : inn b = (ltr b || (dg b || decide (b.toNat = 95))) := by
  unfold inn ltr us
  cases sm b <;> cases cp b <;> cases dg b <;> rfl
theorem beq_of {b : UInt8} {n : Nat} {v : Bool} (h : decide (b.toNat = n) = v) : ((b.toNat : Int) == (n : Int)) = v := by
  rw [← h, Bool.eq_iff_iff, beq_iff_eq, decide_eq_true_eq]
  omega
theorem eqb {b : UInt8} {n : Nat} (hn : n < 256) : ((b.toNat : Int) == (n : Int)) = decide (b = UInt8.ofNat n) := by
  rw [Bool.eq_iff_iff, beq_iff_eq, decide_eq_true_eq]
  constructor
  · intro h
    apply UInt8.toNat_inj.1
    rw [UInt8.toNat_ofNat']
    omega
  · rintro rfl
    rw [UInt8.toNat_ofNat']
    omega
set_option maxHeartbeats 2000000 in
set_option maxRecDepth 100000 in
theorem isInner_any (b : UInt8) (w : World) :
    Calls Tryz.prog 85 #[.int .u8 (b.toNat : Int)] w fun e w' => e = .returned (.bool (inn b)) ∧ w = w' := by
  have hi := inn_of b
  obtain ⟨B, hB⟩ : ∃ B, B = inn b := ⟨_, rfl⟩
  rw [← hB] at hi ⊢
  cases h1 : ltr b with
  | true =>
    rw [h1] at hi
    have HB := Lib.hid hi
    have H1 := Lib.hid h1
    clear hi hB h1
    go_enter Tryz.func85, Tryz.ntmps85
    go_wp2_with fail
    refine (isLetter_any b _).mono ?_
    rintro _ wz ⟨rfl, rfl⟩
    rw [H1.out]
    go_wp2_with fail
    go_ret
    exact ⟨by rw [HB.out]; rfl, rfl⟩
  | false =>
    cases h2 : dg b with
    | true =>
      rw [h1, h2] at hi
      have HB := Lib.hid hi
      have H1 := Lib.hid h1
      have H2 := Lib.hid h2
      clear hi hB h1 h2
      go_enter Tryz.func85, Tryz.ntmps85
      go_wp2_with fail
      refine (isLetter_any b _).mono ?_
      rintro _ wz ⟨rfl, rfl⟩
      rw [H1.out]
      go_wp2_with fail
      refine (isDigit_any b _).mono ?_
      rintro _ wz ⟨rfl, rfl⟩
      rw [H2.out]
      go_wp2_with fail
      go_ret
      exact ⟨by rw [HB.out]; rfl, rfl⟩
    | false =>
      cases h3 : decide (b.toNat = 95) with
      | true =>
        have t3 : ((b.toNat : Int) == 95) = true := beq_of (n := 95) h3
        rw [h1, h2, h3] at hi
        have HB := Lib.hid hi
        have H1 := Lib.hid h1
        have H2 := Lib.hid h2
        clear hi hB h1 h2 h3
        go_enter Tryz.func85, Tryz.ntmps85
        go_wp2_with fail
        refine (isLetter_any b _).mono ?_
        rintro _ wz ⟨rfl, rfl⟩
        rw [H1.out]
        go_wp2_with fail
        refine (isDigit_any b _).mono ?_
        rintro _ wz ⟨rfl, rfl⟩
        rw [H2.out]
        go_wp2_with fail
        go_ret
        exact ⟨by rw [HB.out]; rfl, rfl⟩
      | false =>
        have t3 : ((b.toNat : Int) == 95) = false := beq_of (n := 95) h3
        rw [h1, h2, h3] at hi
        have HB := Lib.hid hi
        have H1 := Lib.hid h1
        have H2 := Lib.hid h2
        clear hi hB h1 h2 h3
        go_enter Tryz.func85, Tryz.ntmps85
        go_wp2_with fail
        refine (isLetter_any b _).mono ?_
        rintro _ wz ⟨rfl, rfl⟩
        rw [H1.out]
        go_wp2_with fail
        refine (isDigit_any b _).mono ?_
        rintro _ wz ⟨rfl, rfl⟩
        rw [H2.out]
        go_wp2_with fail
        go_ret
        exact ⟨by rw [HB.out]; rfl, rfl⟩
theorem idot_short {s : ByteArray} (h : s.size ≤ 1) : idot s.data.toList = false := by
  have hl : s.data.toList.length ≤ 1 := h
  match s.data.toList, hl with
  | [], _ => rfl
  | [b], _ => rfl
  | _ :: _ :: _, hl => simp at hl
theorem idot_two {s : ByteArray} (h : 1 < s.size) : idot s.data.toList = (decide (s[0].toNat = 46) && ltr s[1]) := by
  have hl : 1 < s.data.toList.length := h
  match e : s.data.toList, hl with
  | b :: c :: r, _ =>
    have h0 : s.data.toList[0]? = some s[0] := List.getElem?_eq_getElem (show 0 < s.data.toList.length by omega)
    have h1 : s.data.toList[1]? = some s[1] := List.getElem?_eq_getElem (show 1 < s.data.toList.length from h)
    rw [e] at h0 h1
    have e0 : b = s[0] := Option.some.inj h0
    have e1 : c = s[1] := Option.some.inj h1
    show (decide (b = 46) && ltr c) = _
    rw [e0, e1]
    congr 1
    rw [Bool.eq_iff_iff, decide_eq_true_eq, decide_eq_true_eq]
    exact ⟨fun h => by rw [h]; rfl, fun h => UInt8.toNat_inj.1 h⟩
set_option maxHeartbeats 2000000 in
set_option maxRecDepth 100000 in
theorem isInnerDot_any (s : ByteArray) (w : World) :
    Calls Tryz.prog 53 #[.string s] w fun e w' => e = .returned (.bool (idot s.data.toList)) ∧ w = w' := by
  obtain ⟨B, hB⟩ : ∃ B, B = idot s.data.toList := ⟨_, rfl⟩
  rw [← hB]
  by_cases h1 : 1 < s.size
  · have d1 : decide ((1 : Int) < s.size) = true := decide_eq_true (by omega)
    rw [idot_two h1] at hB
    cases h2 : decide (s[0].toNat = 46) with
    | true =>
      have t2 : ((s[0].toNat : Int) == 46) = true := beq_of (n := 46) h2
      rw [h2, Bool.true_and] at hB
      have HB := Lib.hid hB
      clear hB h2
      go_enter Tryz.func53, Tryz.ntmps53
      go_wp2_with fail
      refine (isLetter_any s[1] _).mono ?_
      rintro _ wz ⟨rfl, rfl⟩
      go_wp2_with fail
      go_ret
      exact ⟨by rw [HB.out]; rfl, rfl⟩
    | false =>
      have t2 : ((s[0].toNat : Int) == 46) = false := beq_of (n := 46) h2
      rw [h2, Bool.false_and] at hB
      have HB := Lib.hid hB
      clear hB h2
      go_enter Tryz.func53, Tryz.ntmps53
      go_wp2_with fail
      go_ret
      exact ⟨by rw [HB.out]; rfl, rfl⟩
  · have d1 : decide ((1 : Int) < s.size) = false := decide_eq_false (by omega)
    rw [idot_short (by omega)] at hB
    have HB := Lib.hid hB
    clear hB
    go_enter Tryz.func53, Tryz.ntmps53
    go_wp2_with fail
    go_ret
    exact ⟨by rw [HB.out]; rfl, rfl⟩
theorem trim_fit (l : List UInt8) : full (Lib.trimPrefix l [46]) = fitN l := by
  cases l with
  | nil => rfl
  | cons c r =>
    show _ = if c = 46 then full r else full (c :: r)
    by_cases hc : c = 46
    · subst hc
      rw [if_pos rfl]
      simp [Lib.trimPrefix, Lib.hasPrefix, List.isPrefixOf]
    · rw [if_neg hc]
      simp [Lib.trimPrefix, Lib.hasPrefix, List.isPrefixOf, Ne.symm hc]
set_option maxHeartbeats 2000000 in
set_option maxRecDepth 100000 in
theorem isName_any (s : ByteArray) (w : World) (hL : Tld.Ld w) :
    Calls Tryz.prog 86 #[.string s] w fun e w' => e = .returned (.bool (fitN s.data.toList)) ∧ Below w.heap.size w w' := by
  obtain ⟨B, hB⟩ : ∃ B, B = fitN s.data.toList := ⟨_, rfl⟩
  rw [← hB]
  rw [← trim_fit] at hB
  have HB := Lib.hid hB
  clear hB
  go_enter Tryz.func86, Tryz.ntmps86
  go_wp2_with fail
  refine (Tryz.strings_TrimPrefix s ⟨#[46]⟩ _).mono ?_
  rintro _ w1 ⟨rfl, rfl⟩
  go_wp2_with fail
  refine (IdpA.isFull_any _ _ hL.u).mono ?_
  rintro _ w2 ⟨rfl, hb⟩
  go_wp2_with fail
  go_ret
  exact ⟨by rw [HB.out]; rfl, hb⟩
end Go.Proofs.YthjpchnogllliaaGreatDoor.TkpA

/- Package token of the program: taking a name, an integer, a text, a sign. -/
set_option linter.unusedSimpArgs false
set_option linter.unusedVariables false
namespace Go.Proofs.YthjpchnogllliaaGreatDoor.TkpB
open Go.RowKit Nums IdnM IdnC TokM TokD TokS TkrD TkpM TkpA Box4

theorem drop_k {s : ByteArray} {k : Nat} (h : k < s.size) : s.data.toList.drop k = s[k] :: s.data.toList.drop (k + 1) := List.drop_eq_getElem_cons (show k < s.data.toList.length from h)
theorem drop_no {s : ByteArray} {k : Nat} (h : s.size ≤ k) : s.data.toList.drop k = [] := List.drop_of_length_le (show s.data.toList.length ≤ k from h)
theorem take_k (s : ByteArray) (n : Nat) : (s.extract 0 n).data.toList = s.data.toList.take n := by simp
theorem rest_k (s : ByteArray) (k : Nat) : (s.extract k s.size).data.toList = s.data.toList.drop k := by
  simp
  rw [List.take_of_length_le (by simp)]
theorem wrap_sI (n : Nat) (h : n ≤ 18446744073709551615) : wrap64 (n : Int) = sI n := by
  unfold wrap64 sI
  split <;> omega

set_option maxHeartbeats 2000000 in
set_option maxRecDepth 100000 in
theorem takeName_any (s : ByteArray) (b : UInt8) (t : List UInt8) (hs : s.size ≤ 16384) (hd : s.data.toList = b :: t) (ha : atN b t = true) (w : World) (hL : Tld.Ld w) :
    Calls Tryz.prog 57 #[.string s] w fun e w' => RB (one s.data.toList) 0 w e w' := by
  obtain ⟨hpn, hnz⟩ := pn_nm ha
  have hone := one_name hnz
  rw [← hpn, ← hd] at hone
  clear hpn hnz
  obtain ⟨N, hN⟩ : ∃ N, N = pn s.data.toList := ⟨_, rfl⟩
  have hNle := pn_le s.data.toList
  rw [← hN] at hone hNle
  have hNs : N ≤ s.size := hNle
  obtain ⟨Y, hY⟩ : ∃ Y, Y = s.extract 0 N := ⟨_, rfl⟩
  have hYd : Y.data.toList = s.data.toList.take N := by rw [hY, take_k]
  obtain ⟨ft, hft⟩ : ∃ ft, fitN Y.data.toList = ft := ⟨_, rfl⟩
  obtain ⟨X, hX⟩ : ∃ X, X = one s.data.toList := ⟨_, rfl⟩
  rw [← hYd, ← hX, hft] at hone
  rw [← hX]
  have HN := Lib.hid hN
  have HY := Lib.hid hY
  have Hft := Lib.hid hft
  have Hone := Lib.hid hone
  clear hN hNle hY hYd hft hX hone hd ha
  go_enter Tryz.func57, Tryz.ntmps57
  go_wp2_with fail
  go_loop [5] (fun nv => ∃ k : Nat, k ≤ N ∧ nv = .int .i64 k ∧ Hid (N = k + pn (s.data.toList.drop k))) (fun nv => s.size - (intOf nv).toNat)
  case atStart => exact ⟨0, Nat.zero_le _, rfl, Lib.hid (by rw [List.drop_zero, HN.out]; omega)⟩
  case round =>
    obtain ⟨k, hkN, rfl, Hk⟩ := hrel
    by_cases hlt : k < s.size
    · have hdr := drop_k hlt
      have hk := Hk.out
      obtain ⟨Z, hZ⟩ : ∃ Z, Z = s.extract k s.size := ⟨_, rfl⟩
      have hZd : Z.data.toList = s.data.toList.drop k := by rw [hZ, rest_k]
      cases hi : inn s[k] with
      | true =>
        rw [hdr, pn_yes (by rw [hi]; rfl)] at hk
        have Hn : Hid (N = (k + 1) + pn (s.data.toList.drop (k + 1))) := Lib.hid (by omega)
        have hk1 : k + 1 ≤ N := by omega
        have H1 := Lib.hid hi
        clear hk hdr hi hZ hZd
        go_wp2_with fail
        refine (isInner_any s[k] _).mono ?_
        rintro _ wz ⟨rfl, rfl⟩
        rw [H1.out]
        go_wp2_with fail
        exact ⟨⟨k + 1, hk1, by go_num, Hn⟩, by simp [intOf]; omega⟩
      | false =>
        have HZ := Lib.hid hZ
        have HZd := Lib.hid hZd
        have H1 := Lib.hid hi
        cases hi2 : idot (s.data.toList.drop k) with
        | true =>
          have hi3 := hi2
          rw [hdr] at hk hi3
          rw [pn_yes (by rw [hi3, Bool.or_true])] at hk
          have Hn : Hid (N = (k + 1) + pn (s.data.toList.drop (k + 1))) := Lib.hid (by omega)
          have hk1 : k + 1 ≤ N := by omega
          have H2 := Lib.hid hi2
          clear hk hdr hi hi2 hi3 hZ hZd
          go_wp2_with fail
          refine (isInner_any s[k] _).mono ?_
          rintro _ wz ⟨rfl, rfl⟩
          rw [H1.out]
          go_wp2_with fail
          rw [← HZ.out]
          refine (isInnerDot_any Z _).mono ?_
          rintro _ wz ⟨rfl, rfl⟩
          rw [HZd.out, H2.out]
          go_wp2_with fail
          exact ⟨⟨k + 1, hk1, by go_num, Hn⟩, by simp [intOf]; omega⟩
        | false =>
          have hi3 := hi2
          rw [hdr] at hk hi3
          rw [pn_no (by rw [hi, hi3]; rfl)] at hk
          have hkN2 : k = N := by omega
          have H2 := Lib.hid hi2
          clear hk hdr hi hi2 hi3 hZ hZd
          subst hkN2
          go_wp2_with fail
          refine (isInner_any s[k] _).mono ?_
          rintro _ wz ⟨rfl, rfl⟩
          rw [H1.out]
          go_wp2_with fail
          rw [← HZ.out]
          refine (isInnerDot_any Z _).mono ?_
          rintro _ wz ⟨rfl, rfl⟩
          rw [HZd.out, H2.out]
          go_wp2_with fail
          go_wp2_with fail
          rw [← HY.out]
          refine (isName_any Y _ (hL.alloc _)).mono ?_
          rintro _ w1 ⟨rfl, hb⟩
          rw [Hft.out]
          have B := (b4_new w (.int .i64 0) (.string ⟨#[]⟩) (.int .i64 0) (.int .i64 0) 34).below hb
          obtain ⟨_, p0, p1, p2, p3, pf⟩ := B
          have hb1 := ((Below.refl _ _).alloc (Nat.le_refl _) _).trans (hb.mono (by simp))
          clear hb
          cases ft with
          | false =>
            go_wp2_with fail
            exact bodyPost_ret (v := .tuple #[.agg #[.int .i64 0, .string ⟨#[]⟩, .int .i64 0, .int .i64 0], .int .i64 0, .int .i64 8]) (by simp [results, Tryz.results57, go_sem, p0, p1, p2, p3]) rfl (rb_err (er := 8) (n := 0) Hone.out rfl (below4 hb1 (Nat.le_refl _) _ _ _ _))

          | true =>
            go_wp2_with fail
            rw [← HY.out]
            exact bodyPost_ret (v := .tuple #[.agg #[.int .i64 1, .string Y, .int .i64 0, .int .i64 0], .int .i64 k, .int .i64 0]) (by simp [results, Tryz.results57, go_sem, p0, p1, p2, p3]) rfl (rb_ok (n := k) Hone.out rfl rfl rfl (by simp) (below4 hb1 (Nat.le_refl _) _ _ _ _))
    · have hkN2 : k = N := by omega
      subst hkN2
      go_wp2_with fail
      go_wp2_with fail
      rw [← HY.out]
      refine (isName_any Y _ (hL.alloc _)).mono ?_
      rintro _ w1 ⟨rfl, hb⟩
      rw [Hft.out]
      have B := (b4_new w (.int .i64 0) (.string ⟨#[]⟩) (.int .i64 0) (.int .i64 0) 34).below hb
      obtain ⟨_, p0, p1, p2, p3, pf⟩ := B
      have hb1 := ((Below.refl _ _).alloc (Nat.le_refl _) _).trans (hb.mono (by simp))
      clear hb
      cases ft with
      | false =>
        go_wp2_with fail
        exact bodyPost_ret (v := .tuple #[.agg #[.int .i64 0, .string ⟨#[]⟩, .int .i64 0, .int .i64 0], .int .i64 0, .int .i64 8]) (by simp [results, Tryz.results57, go_sem, p0, p1, p2, p3]) rfl (rb_err (er := 8) (n := 0) Hone.out rfl (below4 hb1 (Nat.le_refl _) _ _ _ _))

      | true =>
        go_wp2_with fail
        rw [← HY.out]
        exact bodyPost_ret (v := .tuple #[.agg #[.int .i64 1, .string Y, .int .i64 0, .int .i64 0], .int .i64 k, .int .i64 0]) (by simp [results, Tryz.results57, go_sem, p0, p1, p2, p3]) rfl (rb_ok (n := k) Hone.out rfl rfl rfl (by simp) (below4 hb1 (Nat.le_refl _) _ _ _ _))

/-- What an integer that begins here gives. -/
theorem int_zero {b : UInt8} {t : List UInt8} (hz : b = 48) (h1 : 1 < dlen (b :: t)) : intE (b :: t) = .error 2 := by
  have hnum : number ((b :: t).take (dlen (b :: t))) = .error 2 := by
    have hle := dlen_le (b :: t)
    unfold number
    rw [if_pos]
    refine ⟨by rw [List.length_take]; omega, ?_⟩
    obtain ⟨m, hm⟩ : ∃ m, dlen (b :: t) = m + 1 := ⟨dlen (b :: t) - 1, by omega⟩
    rw [hm, List.take_succ_cons, hz]
    rfl
  cases e : (b :: t).drop (dlen (b :: t)) with
  | nil => rw [intE_num (fun c r e2 => by rw [e] at e2; cases e2), hnum]; rfl
  | cons c r =>
    cases hw : wch c with
    | true => exact intE_bad e hw
    | false => rw [intE_num (fun c2 r2 e2 => by rw [e] at e2; cases e2; exact hw), hnum]; rfl
theorem int_next {l r : List UInt8} {c : UInt8} (e : l.drop (dlen l) = c :: r) (h : inn c = true) : intE l = .error 2 :=
  intE_bad e (by rw [← wch_inn (dlen_drop l c r e)]; exact h)
theorem int_fine {b : UInt8} {t : List UInt8} (hd : dg b = true) (hz : ¬ (b = 48 ∧ 1 < dlen (b :: t))) (h : ∀ c r, (b :: t).drop (dlen (b :: t)) = c :: r → inn c = false) :
    intE (b :: t) = if natD ((b :: t).take (dlen (b :: t))) ≤ 18446744073709551615 then .ok (⟨2, [], sI (natD ((b :: t).take (dlen (b :: t))))⟩, dlen (b :: t)) else .error 6 := by
  rw [intE_num (fun c r e => by rw [← wch_inn (dlen_drop _ c r e)]; exact h c r e)]
  have hp : 1 ≤ dlen (b :: t) := by unfold dlen; rw [List.takeWhile_cons_of_pos hd]; simp
  have hle := dlen_le (b :: t)
  obtain ⟨m, hm⟩ : ∃ m, dlen (b :: t) = m + 1 := ⟨dlen (b :: t) - 1, by omega⟩
  unfold number
  rw [if_neg]
  · by_cases hr : natD ((b :: t).take (dlen (b :: t))) ≤ 18446744073709551615
    · rw [if_neg (by omega), if_pos hr]; rfl
    · rw [if_pos (by omega), if_neg hr]; rfl
  · intro ⟨c1, c2⟩
    rw [List.length_take] at c1
    rw [hm, List.take_succ_cons] at c2
    exact hz ⟨by simpa using c2, by omega⟩
theorem dlen_in {s : ByteArray} {k : Nat} (h : k < s.size) (hi : dg s[k] = true) : dlen (s.data.toList.drop k) = dlen (s.data.toList.drop (k + 1)) + 1 := by
  rw [drop_k h]
  unfold dlen
  rw [List.takeWhile_cons_of_pos hi]
  rfl
theorem dlen_out {s : ByteArray} {k : Nat} (h : k < s.size) (hi : dg s[k] = false) : dlen (s.data.toList.drop k) = 0 := by
  rw [drop_k h]
  unfold dlen
  rw [List.takeWhile_cons_of_neg (by rw [hi]; simp)]
  rfl

set_option maxHeartbeats 2000000 in
set_option maxRecDepth 100000 in
theorem takeInt_zero (s : ByteArray) (b : UInt8) (t : List UInt8) (hs : s.size ≤ 16384) (hd : s.data.toList = b :: t) (hz : b = 48) (h1 : 1 < dlen (b :: t)) (w : World) :
    Calls Tryz.prog 58 #[.string s] w fun e w' => RB (intE s.data.toList) 0 w e w' := by
  have hX0 := int_zero hz h1
  rw [← hd] at hX0 h1
  obtain ⟨X, hX⟩ : ∃ X, X = intE s.data.toList := ⟨_, rfl⟩
  rw [← hX] at hX0 ⊢
  obtain ⟨N, hN⟩ : ∃ N, N = dlen s.data.toList := ⟨_, rfl⟩
  rw [← hN] at h1
  have hle : N ≤ s.size := by rw [hN]; exact dlen_le _
  have hpos : 0 < s.size := by omega
  have e0 : ((s[0].toNat : Int) == 48) = true := by
    have h0 : s.data.toList[0]? = some s[0] := List.getElem?_eq_getElem (show 0 < s.data.toList.length from hpos)
    rw [hd] at h0
    have : b = s[0] := Option.some.inj h0
    rw [← this, hz]; rfl
  have HX := Lib.hid hX0
  have HN := Lib.hid hN
  clear hX hX0 hN hd hz
  go_enter Tryz.func58, Tryz.ntmps58
  go_wp2_with fail
  go_loop [5] (fun nv => ∃ k : Nat, k ≤ N ∧ nv = .int .i64 k ∧ Hid (N = k + dlen (s.data.toList.drop k))) (fun nv => s.size - (intOf nv).toNat)
  case atStart => exact ⟨0, Nat.zero_le _, rfl, Lib.hid (by rw [List.drop_zero, HN.out]; omega)⟩
  case round =>
    obtain ⟨k, hkN, rfl, Hk⟩ := hrel
    by_cases hlt : k < s.size
    · cases hi : dg s[k] with
      | true =>
        have hst := dlen_in hlt hi
        have hk := Hk.out
        have Hn : Hid (N = (k + 1) + dlen (s.data.toList.drop (k + 1))) := Lib.hid (by omega)
        have hk1 : k + 1 ≤ N := by omega
        have H1 := Lib.hid hi
        clear hst hk hi
        go_wp2_with fail
        refine (isDigit_any s[k] _).mono ?_
        rintro _ wz ⟨rfl, rfl⟩
        rw [H1.out]
        go_wp2_with fail
        exact ⟨⟨k + 1, hk1, by go_num, Hn⟩, by simp [intOf]; omega⟩
      | false =>
        have hst := dlen_out hlt hi
        have hk := Hk.out
        have hkN2 : k = N := by omega
        have H1 := Lib.hid hi
        clear hst hk hi
        subst hkN2
        have d1 : decide ((1 : Int) < k) = true := decide_eq_true (by omega)
        go_wp2_with fail
        refine (isDigit_any s[k] _).mono ?_
        rintro _ wz ⟨rfl, rfl⟩
        rw [H1.out]
        go_wp2_with fail
        exact bodyPost_ret (v := .tuple #[.agg #[.int .i64 0, .string ⟨#[]⟩, .int .i64 0, .int .i64 0], .int .i64 0, .int .i64 2]) (by simp [results, Tryz.results58, go_sem]) rfl (rb_err (er := 2) (n := 0) HX.out rfl ((Below.refl _ _).alloc (Nat.le_refl _) _))
    · have hkN2 : k = N := by
        have hk := Hk.out
        omega
      subst hkN2
      have d1 : decide ((1 : Int) < k) = true := decide_eq_true (by omega)
      go_wp2_with fail
      exact bodyPost_ret (v := .tuple #[.agg #[.int .i64 0, .string ⟨#[]⟩, .int .i64 0, .int .i64 0], .int .i64 0, .int .i64 2]) (by simp [results, Tryz.results58, go_sem]) rfl (rb_err (er := 2) (n := 0) HX.out rfl ((Below.refl _ _).alloc (Nat.le_refl _) _))

set_option maxHeartbeats 2000000 in
set_option maxRecDepth 100000 in
theorem takeInt_next (s : ByteArray) (b c : UInt8) (t r : List UInt8) (hs : s.size ≤ 16384) (hd : s.data.toList = b :: t) (hz : ¬ (b = 48 ∧ 1 < dlen (b :: t))) (he : s.data.toList.drop (dlen s.data.toList) = c :: r) (hc : inn c = true) (w : World) :
    Calls Tryz.prog 58 #[.string s] w fun e w' => RB (intE s.data.toList) 0 w e w' := by
  have hX0 := int_next he hc
  obtain ⟨X, hX⟩ : ∃ X, X = intE s.data.toList := ⟨_, rfl⟩
  rw [← hX] at hX0 ⊢
  obtain ⟨N, hN⟩ : ∃ N, N = dlen s.data.toList := ⟨_, rfl⟩
  have hle : N ≤ s.size := by rw [hN]; exact dlen_le _
  have hpos : 0 < s.size := by
    have h0 : s.data.toList.length = s.size := rfl
    rw [hd] at h0
    simp only [List.length_cons] at h0
    omega
  obtain ⟨z0, hz0⟩ : ∃ z0, ((s[0].toNat : Int) == 48) = z0 := ⟨_, rfl⟩
  have hzz : z0 = true → ¬ (1 < N) := by
    intro e h1
    rw [← hz0, show ((s[0].toNat : Int) == 48) = _ from eqb (b := s[0]) (n := 48) (by decide), decide_eq_true_eq] at e
    have h0 : s.data.toList[0]? = some s[0] := List.getElem?_eq_getElem (show 0 < s.data.toList.length from hpos)
    rw [hd] at h0
    have hb : b = s[0] := Option.some.inj h0
    exact hz ⟨hb.trans e, by rw [← hd, ← hN]; exact h1⟩

  rw [← hN] at he
  have HX := Lib.hid hX0
  have HN := Lib.hid hN
  have Hhe := Lib.hid he
  have Hz := Lib.hid hzz
  clear hX hX0 hN hd hz he hzz
  go_enter Tryz.func58, Tryz.ntmps58
  go_wp2_with fail
  go_loop [5] (fun nv => ∃ k : Nat, k ≤ N ∧ nv = .int .i64 k ∧ Hid (N = k + dlen (s.data.toList.drop k))) (fun nv => s.size - (intOf nv).toNat)
  case atStart => exact ⟨0, Nat.zero_le _, rfl, Lib.hid (by rw [List.drop_zero, HN.out]; omega)⟩
  case round =>
    obtain ⟨k, hkN, rfl, Hk⟩ := hrel
    by_cases hlt : k < s.size
    · cases hi : dg s[k] with
      | true =>
        have hst := dlen_in hlt hi
        have hk := Hk.out
        have Hn : Hid (N = (k + 1) + dlen (s.data.toList.drop (k + 1))) := Lib.hid (by omega)
        have hk1 : k + 1 ≤ N := by omega
        have H1 := Lib.hid hi
        clear hst hk hi
        go_wp2_with fail
        refine (isDigit_any s[k] _).mono ?_
        rintro _ wz ⟨rfl, rfl⟩
        rw [H1.out]
        go_wp2_with fail
        exact ⟨⟨k + 1, hk1, by go_num, Hn⟩, by simp [intOf]; omega⟩
      | false =>
        have hst := dlen_out hlt hi
        have hk := Hk.out
        have hkN2 : k = N := by omega
        have H1 := Lib.hid hi
        clear hst hk hi
        subst hkN2
        have hc2 : inn s[k] = true := by
          have := Hhe.out
          rw [drop_k hlt] at this
          injection this with e1 _
          rw [e1]; exact hc
        have Hc2 := Lib.hid hc2
        clear hc2
        cases z0 with
        | true =>
          have d1 : decide ((1 : Int) < k) = false := decide_eq_false (by have := Hz.out rfl; omega)
          go_wp2_with fail
          refine (isDigit_any s[k] _).mono ?_
          rintro _ wz ⟨rfl, rfl⟩
          rw [H1.out]
          go_wp2_with fail
          refine (isInner_any s[k] _).mono ?_
          rintro _ wz ⟨rfl, rfl⟩
          rw [Hc2.out]
          go_wp2_with fail
          exact bodyPost_ret (v := .tuple #[.agg #[.int .i64 0, .string ⟨#[]⟩, .int .i64 0, .int .i64 0], .int .i64 0, .int .i64 2]) (by simp [results, Tryz.results58, go_sem]) rfl (rb_err (er := 2) (n := 0) HX.out rfl ((Below.refl _ _).alloc (Nat.le_refl _) _))

        | false =>
          go_wp2_with fail
          refine (isDigit_any s[k] _).mono ?_
          rintro _ wz ⟨rfl, rfl⟩
          rw [H1.out]
          go_wp2_with fail
          refine (isInner_any s[k] _).mono ?_
          rintro _ wz ⟨rfl, rfl⟩
          rw [Hc2.out]
          go_wp2_with fail
          exact bodyPost_ret (v := .tuple #[.agg #[.int .i64 0, .string ⟨#[]⟩, .int .i64 0, .int .i64 0], .int .i64 0, .int .i64 2]) (by simp [results, Tryz.results58, go_sem]) rfl (rb_err (er := 2) (n := 0) HX.out rfl ((Below.refl _ _).alloc (Nat.le_refl _) _))
    · have hkN2 : k = N := by
        have hk := Hk.out
        omega
      subst hkN2
      exact absurd Hhe.out (by rw [drop_no (by omega)]; simp)

set_option maxHeartbeats 2000000 in
set_option maxRecDepth 100000 in
theorem takeInt_ok (s : ByteArray) (b : UInt8) (t : List UInt8) (hs : s.size ≤ 16384) (hd : s.data.toList = b :: t) (hg : dg b = true) (hz : ¬ (b = 48 ∧ 1 < dlen (b :: t))) (hc : ∀ c r, s.data.toList.drop (dlen s.data.toList) = c :: r → inn c = false) (hr : natD (s.data.toList.take (dlen s.data.toList)) ≤ 18446744073709551615) (w : World) (hL : Tld.Ld w) :
    Calls Tryz.prog 58 #[.string s] w fun e w' => RB (intE s.data.toList) 0 w e w' := by
  have hX0 : intE s.data.toList = if natD (s.data.toList.take (dlen s.data.toList)) ≤ 18446744073709551615 then .ok (⟨2, [], sI (natD (s.data.toList.take (dlen s.data.toList)))⟩, dlen s.data.toList) else .error 6 := by
    rw [hd]
    rw [hd] at hc
    exact int_fine hg hz hc

  obtain ⟨X, hX⟩ : ∃ X, X = intE s.data.toList := ⟨_, rfl⟩
  rw [← hX] at hX0 ⊢
  obtain ⟨N, hN⟩ : ∃ N, N = dlen s.data.toList := ⟨_, rfl⟩
  have hle : N ≤ s.size := by rw [hN]; exact dlen_le _
  have hpos : 0 < s.size := by
    have h0 : s.data.toList.length = s.size := rfl
    rw [hd] at h0
    simp only [List.length_cons] at h0
    omega
  obtain ⟨z0, hz0⟩ : ∃ z0, ((s[0].toNat : Int) == 48) = z0 := ⟨_, rfl⟩
  have hzz : z0 = true → ¬ (1 < N) := by
    intro e h1
    rw [← hz0, show ((s[0].toNat : Int) == 48) = _ from eqb (b := s[0]) (n := 48) (by decide), decide_eq_true_eq] at e
    have h0 : s.data.toList[0]? = some s[0] := List.getElem?_eq_getElem (show 0 < s.data.toList.length from hpos)
    rw [hd] at h0
    have hb : b = s[0] := Option.some.inj h0
    exact hz ⟨hb.trans e, by rw [← hd, ← hN]; exact h1⟩

  obtain ⟨Y, hY⟩ : ∃ Y, Y = s.extract 0 N := ⟨_, rfl⟩
  have hYd : Y.data.toList = s.data.toList.take (dlen s.data.toList) := by rw [hY, take_k, hN]
  have hYs : Y.size ≤ 16384 := by rw [hY, ByteArray.size_extract]; omega
  have hYn : Y.data.toList ≠ [] := by
    rw [hYd, hd, dlen_take, List.takeWhile_cons_of_pos hg]; simp
  have hYg : Y.data.toList.all dg = true := by rw [hYd]; exact dlen_all _
  have hpu := uintD hYn hYg
  rw [← hYd] at hX0 hr
  rw [← hN] at hX0 hc
  rw [if_pos hr] at hX0 hpu
  obtain ⟨U, hU0⟩ : ∃ U, U = natD Y.data.toList := ⟨_, rfl⟩
  rw [← hU0] at hX0 hpu hr
  clear hU0
  have hU := hr
  have Cp := Lib.hid (Tryz.strconv_ParseUint_10_at64_ok Y (by omega) U hpu (w.alloc (.cells #[.int .i64 0, .string ⟨#[]⟩, .int .i64 0, .int .i64 0] 34)))
  have HX := Lib.hid hX0
  have HN := Lib.hid hN
  have HY := Lib.hid hY
  have Hz := Lib.hid hzz
  have Hc := Lib.hid hc
  clear hX hX0 hN hd hz hzz hYd hYs hYn hYg hpu hY hg hr hc
  go_enter Tryz.func58, Tryz.ntmps58
  go_wp2_with fail
  go_loop [5] (fun nv => ∃ k : Nat, k ≤ N ∧ nv = .int .i64 k ∧ Hid (N = k + dlen (s.data.toList.drop k))) (fun nv => s.size - (intOf nv).toNat)
  case atStart => exact ⟨0, Nat.zero_le _, rfl, Lib.hid (by rw [List.drop_zero, HN.out]; omega)⟩
  case round =>
    obtain ⟨k, hkN, rfl, Hk⟩ := hrel
    by_cases hlt : k < s.size
    · cases hi : dg s[k] with
      | true =>
        have hst := dlen_in hlt hi
        have hk := Hk.out
        have Hn : Hid (N = (k + 1) + dlen (s.data.toList.drop (k + 1))) := Lib.hid (by omega)
        have hk1 : k + 1 ≤ N := by omega
        have H1 := Lib.hid hi
        clear hst hk hi
        go_wp2_with fail
        refine (isDigit_any s[k] _).mono ?_
        rintro _ wz ⟨rfl, rfl⟩
        rw [H1.out]
        go_wp2_with fail
        exact ⟨⟨k + 1, hk1, by go_num, Hn⟩, by simp [intOf]; omega⟩
      | false =>
        have hst := dlen_out hlt hi
        have hk := Hk.out
        have hkN2 : k = N := by omega
        have H1 := Lib.hid hi
        clear hst hk hi
        subst hkN2
        have hc2 : inn s[k] = false := Hc.out _ _ (drop_k hlt)
        have Hc2 := Lib.hid hc2
        clear hc2
        cases z0 with
        | true =>
          have d1 : decide ((1 : Int) < k) = false := decide_eq_false (by have := Hz.out rfl; omega)
          go_wp2_with fail
          refine (isDigit_any s[k] _).mono ?_
          rintro _ wz ⟨rfl, rfl⟩
          rw [H1.out]
          go_wp2_with fail
          refine (isInner_any s[k] _).mono ?_
          rintro _ wz ⟨rfl, rfl⟩
          rw [Hc2.out]
          go_wp2_with fail
          rw [← HY.out]
          refine Cp.out.mono ?_
          rintro _ w1 ⟨rfl, hb0⟩
          have hb : Below (w.alloc (.cells #[.int .i64 0, .string ⟨#[]⟩, .int .i64 0, .int .i64 0] 34)).heap.size (w.alloc (.cells #[.int .i64 0, .string ⟨#[]⟩, .int .i64 0, .int .i64 0] 34)) w1 := by
            rcases hb0 with rfl | rfl
            · exact Below.refl _ _
            · exact Lib.bytesWorld_below _ _ _
          clear hb0
          have B := (b4_new w (.int .i64 0) (.string ⟨#[]⟩) (.int .i64 0) (.int .i64 0) 34).below hb
          obtain ⟨_, p0, p1, p2, p3, pf⟩ := B
          have hb1 := ((Below.refl _ _).alloc (Nat.le_refl _) _).trans (hb.mono (by simp))
          clear hb
          have hwr := wrap_sI U hU
          generalize sI U = I at *
          go_wp2_with fail
          exact bodyPost_ret (v := .tuple #[.agg #[.int .i64 2, .string ⟨#[]⟩, .int .i64 I, .int .i64 0], .int .i64 k, .int .i64 0]) (by simp [results, Tryz.results58, go_sem, p0, p1, p2, p3]) rfl (rb_ok (n := k) HX.out rfl rfl rfl (by simp) (below4 hb1 (Nat.le_refl _) _ _ _ _))
        | false =>
          go_wp2_with fail
          refine (isDigit_any s[k] _).mono ?_
          rintro _ wz ⟨rfl, rfl⟩
          rw [H1.out]
          go_wp2_with fail
          refine (isInner_any s[k] _).mono ?_
          rintro _ wz ⟨rfl, rfl⟩
          rw [Hc2.out]
          go_wp2_with fail
          rw [← HY.out]
          refine Cp.out.mono ?_
          rintro _ w1 ⟨rfl, hb0⟩
          have hb : Below (w.alloc (.cells #[.int .i64 0, .string ⟨#[]⟩, .int .i64 0, .int .i64 0] 34)).heap.size (w.alloc (.cells #[.int .i64 0, .string ⟨#[]⟩, .int .i64 0, .int .i64 0] 34)) w1 := by
            rcases hb0 with rfl | rfl
            · exact Below.refl _ _
            · exact Lib.bytesWorld_below _ _ _
          clear hb0
          have B := (b4_new w (.int .i64 0) (.string ⟨#[]⟩) (.int .i64 0) (.int .i64 0) 34).below hb
          obtain ⟨_, p0, p1, p2, p3, pf⟩ := B
          have hb1 := ((Below.refl _ _).alloc (Nat.le_refl _) _).trans (hb.mono (by simp))
          clear hb
          have hwr := wrap_sI U hU
          generalize sI U = I at *
          go_wp2_with fail
          exact bodyPost_ret (v := .tuple #[.agg #[.int .i64 2, .string ⟨#[]⟩, .int .i64 I, .int .i64 0], .int .i64 k, .int .i64 0]) (by simp [results, Tryz.results58, go_sem, p0, p1, p2, p3]) rfl (rb_ok (n := k) HX.out rfl rfl rfl (by simp) (below4 hb1 (Nat.le_refl _) _ _ _ _))
    · have hkN2 : k = N := by
        have hk := Hk.out
        omega
      subst hkN2
      cases z0 with
      | true =>
        have d1 : decide ((1 : Int) < k) = false := decide_eq_false (by have := Hz.out rfl; omega)
        go_wp2_with fail
        rw [← HY.out]
        refine Cp.out.mono ?_
        rintro _ w1 ⟨rfl, hb0⟩
        have hb : Below (w.alloc (.cells #[.int .i64 0, .string ⟨#[]⟩, .int .i64 0, .int .i64 0] 34)).heap.size (w.alloc (.cells #[.int .i64 0, .string ⟨#[]⟩, .int .i64 0, .int .i64 0] 34)) w1 := by
          rcases hb0 with rfl | rfl
          · exact Below.refl _ _
          · exact Lib.bytesWorld_below _ _ _
        clear hb0
        have B := (b4_new w (.int .i64 0) (.string ⟨#[]⟩) (.int .i64 0) (.int .i64 0) 34).below hb
        obtain ⟨_, p0, p1, p2, p3, pf⟩ := B
        have hb1 := ((Below.refl _ _).alloc (Nat.le_refl _) _).trans (hb.mono (by simp))
        clear hb
        have hwr := wrap_sI U hU
        generalize sI U = I at *
        go_wp2_with fail
        exact bodyPost_ret (v := .tuple #[.agg #[.int .i64 2, .string ⟨#[]⟩, .int .i64 I, .int .i64 0], .int .i64 k, .int .i64 0]) (by simp [results, Tryz.results58, go_sem, p0, p1, p2, p3]) rfl (rb_ok (n := k) HX.out rfl rfl rfl (by simp) (below4 hb1 (Nat.le_refl _) _ _ _ _))
      | false =>
        go_wp2_with fail
        rw [← HY.out]
        refine Cp.out.mono ?_
        rintro _ w1 ⟨rfl, hb0⟩
        have hb : Below (w.alloc (.cells #[.int .i64 0, .string ⟨#[]⟩, .int .i64 0, .int .i64 0] 34)).heap.size (w.alloc (.cells #[.int .i64 0, .string ⟨#[]⟩, .int .i64 0, .int .i64 0] 34)) w1 := by
          rcases hb0 with rfl | rfl
          · exact Below.refl _ _
          · exact Lib.bytesWorld_below _ _ _
        clear hb0
        have B := (b4_new w (.int .i64 0) (.string ⟨#[]⟩) (.int .i64 0) (.int .i64 0) 34).below hb
        obtain ⟨_, p0, p1, p2, p3, pf⟩ := B
        have hb1 := ((Below.refl _ _).alloc (Nat.le_refl _) _).trans (hb.mono (by simp))
        clear hb
        have hwr := wrap_sI U hU
        generalize sI U = I at *
        go_wp2_with fail
        exact bodyPost_ret (v := .tuple #[.agg #[.int .i64 2, .string ⟨#[]⟩, .int .i64 I, .int .i64 0], .int .i64 k, .int .i64 0]) (by simp [results, Tryz.results58, go_sem, p0, p1, p2, p3]) rfl (rb_ok (n := k) HX.out rfl rfl rfl (by simp) (below4 hb1 (Nat.le_refl _) _ _ _ _))

set_option maxHeartbeats 2000000 in
set_option maxRecDepth 100000 in
theorem takeInt_rg (s : ByteArray) (b : UInt8) (t : List UInt8) (hs : s.size ≤ 16384) (hd : s.data.toList = b :: t) (hg : dg b = true) (hz : ¬ (b = 48 ∧ 1 < dlen (b :: t))) (hc : ∀ c r, s.data.toList.drop (dlen s.data.toList) = c :: r → inn c = false) (hr : ¬ natD (s.data.toList.take (dlen s.data.toList)) ≤ 18446744073709551615) (w : World) (hL : Tld.Ld w) :
    Calls Tryz.prog 58 #[.string s] w fun e w' => RB (intE s.data.toList) 0 w e w' := by
  have hX0 : intE s.data.toList = if natD (s.data.toList.take (dlen s.data.toList)) ≤ 18446744073709551615 then .ok (⟨2, [], sI (natD (s.data.toList.take (dlen s.data.toList)))⟩, dlen s.data.toList) else .error 6 := by
    rw [hd]
    rw [hd] at hc
    exact int_fine hg hz hc

  obtain ⟨X, hX⟩ : ∃ X, X = intE s.data.toList := ⟨_, rfl⟩
  rw [← hX] at hX0 ⊢
  obtain ⟨N, hN⟩ : ∃ N, N = dlen s.data.toList := ⟨_, rfl⟩
  have hle : N ≤ s.size := by rw [hN]; exact dlen_le _
  have hpos : 0 < s.size := by
    have h0 : s.data.toList.length = s.size := rfl
    rw [hd] at h0
    simp only [List.length_cons] at h0
    omega
  obtain ⟨z0, hz0⟩ : ∃ z0, ((s[0].toNat : Int) == 48) = z0 := ⟨_, rfl⟩
  have hzz : z0 = true → ¬ (1 < N) := by
    intro e h1
    rw [← hz0, show ((s[0].toNat : Int) == 48) = _ from eqb (b := s[0]) (n := 48) (by decide), decide_eq_true_eq] at e
    have h0 : s.data.toList[0]? = some s[0] := List.getElem?_eq_getElem (show 0 < s.data.toList.length from hpos)
    rw [hd] at h0
    have hb : b = s[0] := Option.some.inj h0
    exact hz ⟨hb.trans e, by rw [← hd, ← hN]; exact h1⟩

  obtain ⟨Y, hY⟩ : ∃ Y, Y = s.extract 0 N := ⟨_, rfl⟩
  have hYd : Y.data.toList = s.data.toList.take (dlen s.data.toList) := by rw [hY, take_k, hN]
  have hYs : Y.size ≤ 16384 := by rw [hY, ByteArray.size_extract]; omega
  have hYn : Y.data.toList ≠ [] := by
    rw [hYd, hd, dlen_take, List.takeWhile_cons_of_pos hg]; simp
  have hYg : Y.data.toList.all dg = true := by rw [hYd]; exact dlen_all _
  have hpu := uintD hYn hYg
  rw [← hYd] at hX0 hr
  rw [← hN] at hX0 hc
  rw [if_neg hr] at hX0 hpu
  have Cp : Hid (∀ (W : World), Tld.Ld W → Calls Tryz.prog 87 #[.string Y, .int .i64 10, .int .i64 64] W fun e w' => (∃ tp p, e = .returned (.tuple #[.int .u64 18446744073709551615, .iface tp p])) ∧ Below W.heap.size W w') := Lib.hid (fun W hW => by
    obtain ⟨tp, p, hv⟩ := hW.v.er
    refine (Tryz.strconv_ParseUint_10_at64_range_var Y (by omega) hpu tp p W hv).mono ?_
    rintro _ w1 ⟨N, rfl, hN, hc, hb1⟩
    exact ⟨⟨_, _, rfl⟩, hb1⟩)
  have HX := Lib.hid hX0
  have HN := Lib.hid hN
  have HY := Lib.hid hY
  have Hz := Lib.hid hzz
  have Hc := Lib.hid hc
  clear hX hX0 hN hd hz hzz hYd hYs hYn hYg hpu hY hg hr hc
  go_enter Tryz.func58, Tryz.ntmps58
  go_wp2_with fail
  go_loop [5] (fun nv => ∃ k : Nat, k ≤ N ∧ nv = .int .i64 k ∧ Hid (N = k + dlen (s.data.toList.drop k))) (fun nv => s.size - (intOf nv).toNat)
  case atStart => exact ⟨0, Nat.zero_le _, rfl, Lib.hid (by rw [List.drop_zero, HN.out]; omega)⟩
  case round =>
    obtain ⟨k, hkN, rfl, Hk⟩ := hrel
    by_cases hlt : k < s.size
    · cases hi : dg s[k] with
      | true =>
        have hst := dlen_in hlt hi
        have hk := Hk.out
        have Hn : Hid (N = (k + 1) + dlen (s.data.toList.drop (k + 1))) := Lib.hid (by omega)
        have hk1 : k + 1 ≤ N := by omega
        have H1 := Lib.hid hi
        clear hst hk hi
        go_wp2_with fail
        refine (isDigit_any s[k] _).mono ?_
        rintro _ wz ⟨rfl, rfl⟩
        rw [H1.out]
        go_wp2_with fail
        exact ⟨⟨k + 1, hk1, by go_num, Hn⟩, by simp [intOf]; omega⟩
      | false =>
        have hst := dlen_out hlt hi
        have hk := Hk.out
        have hkN2 : k = N := by omega
        have H1 := Lib.hid hi
        clear hst hk hi
        subst hkN2
        have hc2 : inn s[k] = false := Hc.out _ _ (drop_k hlt)
        have Hc2 := Lib.hid hc2
        clear hc2
        cases z0 with
        | true =>
          have d1 : decide ((1 : Int) < k) = false := decide_eq_false (by have := Hz.out rfl; omega)
          go_wp2_with fail
          refine (isDigit_any s[k] _).mono ?_
          rintro _ wz ⟨rfl, rfl⟩
          rw [H1.out]
          go_wp2_with fail
          refine (isInner_any s[k] _).mono ?_
          rintro _ wz ⟨rfl, rfl⟩
          rw [Hc2.out]
          go_wp2_with fail
          rw [← HY.out]
          refine (Cp.out _ (hL.alloc _)).mono ?_
          rintro _ w1 ⟨⟨tp, pp, rfl⟩, hb⟩
          have B := (b4_new w (.int .i64 0) (.string ⟨#[]⟩) (.int .i64 0) (.int .i64 0) 34).below hb
          obtain ⟨_, p0, p1, p2, p3, pf⟩ := B
          have hb1 := ((Below.refl _ _).alloc (Nat.le_refl _) _).trans (hb.mono (by simp))
          clear hb
          go_wp2_with fail
          exact bodyPost_ret (v := .tuple #[.agg #[.int .i64 0, .string ⟨#[]⟩, .int .i64 0, .int .i64 0], .int .i64 0, .int .i64 6]) (by simp [results, Tryz.results58, go_sem, p0, p1, p2, p3]) rfl (rb_err (er := 6) (n := 0) HX.out rfl (below4 hb1 (Nat.le_refl _) _ _ _ _))
        | false =>
          go_wp2_with fail
          refine (isDigit_any s[k] _).mono ?_
          rintro _ wz ⟨rfl, rfl⟩
          rw [H1.out]
          go_wp2_with fail
          refine (isInner_any s[k] _).mono ?_
          rintro _ wz ⟨rfl, rfl⟩
          rw [Hc2.out]
          go_wp2_with fail
          rw [← HY.out]
          refine (Cp.out _ (hL.alloc _)).mono ?_
          rintro _ w1 ⟨⟨tp, pp, rfl⟩, hb⟩
          have B := (b4_new w (.int .i64 0) (.string ⟨#[]⟩) (.int .i64 0) (.int .i64 0) 34).below hb
          obtain ⟨_, p0, p1, p2, p3, pf⟩ := B
          have hb1 := ((Below.refl _ _).alloc (Nat.le_refl _) _).trans (hb.mono (by simp))
          clear hb
          go_wp2_with fail
          exact bodyPost_ret (v := .tuple #[.agg #[.int .i64 0, .string ⟨#[]⟩, .int .i64 0, .int .i64 0], .int .i64 0, .int .i64 6]) (by simp [results, Tryz.results58, go_sem, p0, p1, p2, p3]) rfl (rb_err (er := 6) (n := 0) HX.out rfl (below4 hb1 (Nat.le_refl _) _ _ _ _))
    · have hkN2 : k = N := by
        have hk := Hk.out
        omega
      subst hkN2
      cases z0 with
      | true =>
        have d1 : decide ((1 : Int) < k) = false := decide_eq_false (by have := Hz.out rfl; omega)
        go_wp2_with fail
        rw [← HY.out]
        refine (Cp.out _ (hL.alloc _)).mono ?_
        rintro _ w1 ⟨⟨tp, pp, rfl⟩, hb⟩
        have B := (b4_new w (.int .i64 0) (.string ⟨#[]⟩) (.int .i64 0) (.int .i64 0) 34).below hb
        obtain ⟨_, p0, p1, p2, p3, pf⟩ := B
        have hb1 := ((Below.refl _ _).alloc (Nat.le_refl _) _).trans (hb.mono (by simp))
        clear hb
        go_wp2_with fail
        exact bodyPost_ret (v := .tuple #[.agg #[.int .i64 0, .string ⟨#[]⟩, .int .i64 0, .int .i64 0], .int .i64 0, .int .i64 6]) (by simp [results, Tryz.results58, go_sem, p0, p1, p2, p3]) rfl (rb_err (er := 6) (n := 0) HX.out rfl (below4 hb1 (Nat.le_refl _) _ _ _ _))
      | false =>
        go_wp2_with fail
        rw [← HY.out]
        refine (Cp.out _ (hL.alloc _)).mono ?_
        rintro _ w1 ⟨⟨tp, pp, rfl⟩, hb⟩
        have B := (b4_new w (.int .i64 0) (.string ⟨#[]⟩) (.int .i64 0) (.int .i64 0) 34).below hb
        obtain ⟨_, p0, p1, p2, p3, pf⟩ := B
        have hb1 := ((Below.refl _ _).alloc (Nat.le_refl _) _).trans (hb.mono (by simp))
        clear hb
        go_wp2_with fail
        exact bodyPost_ret (v := .tuple #[.agg #[.int .i64 0, .string ⟨#[]⟩, .int .i64 0, .int .i64 0], .int .i64 0, .int .i64 6]) (by simp [results, Tryz.results58, go_sem, p0, p1, p2, p3]) rfl (rb_err (er := 6) (n := 0) HX.out rfl (below4 hb1 (Nat.le_refl _) _ _ _ _))

theorem takeInt_any (s : ByteArray) (b : UInt8) (t : List UInt8) (hs : s.size ≤ 16384) (hd : s.data.toList = b :: t) (hg : dg b = true) (w : World) (hL : Tld.Ld w) :
    Calls Tryz.prog 58 #[.string s] w fun e w' => RB (intE s.data.toList) 0 w e w' := by
  by_cases hz : b = 48 ∧ 1 < dlen (b :: t)
  · exact takeInt_zero s b t hs hd hz.1 hz.2 w
  · have key : (∀ c r, s.data.toList.drop (dlen s.data.toList) = c :: r → inn c = false) → Calls Tryz.prog 58 #[.string s] w fun e w' => RB (intE s.data.toList) 0 w e w' := by
      intro hc
      by_cases hr : natD (s.data.toList.take (dlen s.data.toList)) ≤ 18446744073709551615
      · exact takeInt_ok s b t hs hd hg hz hc hr w hL
      · exact takeInt_rg s b t hs hd hg hz hc hr w hL
    cases e : s.data.toList.drop (dlen s.data.toList) with
    | nil => exact key (fun c r e2 => by rw [e] at e2; cases e2)
    | cons c r =>
      cases hc : inn c with
      | true => exact takeInt_next s b c t r hs hd hz e hc w
      | false => exact key (fun c2 r2 e2 => by rw [e] at e2; cases e2; exact hc)

set_option maxHeartbeats 2000000 in
set_option maxRecDepth 100000 in
theorem takeText_any (s : ByteArray) (t : List UInt8) (hs : s.size ≤ 16384) (hd : s.data.toList = 34 :: t) (w : World) :
    Calls Tryz.prog 59 #[.string s] w fun e w' => RB (one s.data.toList) 0 w e w' := by
  have hX0 : one s.data.toList = if (UtfQ.unquote s.data.toList).2.2 = 0 then .ok (⟨3, (UtfQ.unquote s.data.toList).1, 0⟩, (UtfQ.unquote s.data.toList).2.1) else .error 2 := by
    rw [hd]
    exact one_text (nm_zero t (by decide) (by decide))
  obtain ⟨X, hX⟩ : ∃ X, X = one s.data.toList := ⟨_, rfl⟩
  rw [← hX] at hX0 ⊢
  rcases UtfQ.unquote_cases s.data.toList with hu | ⟨x, n, hu, hn2, hnl, hqt⟩
  · rw [hu, if_neg (by simp)] at hX0
    have HX := Lib.hid hX0
    have Hu := Lib.hid hu
    clear hX hX0 hd hu
    go_enter Tryz.func59, Tryz.ntmps59
    go_wp2_with fail
    refine (UtfE.unquote_any s (by omega) _).mono ?_
    rintro _ w1 ⟨rfl, hb⟩
    rw [Hu.out]
    have B := (b4_new w (.int .i64 0) (.string ⟨#[]⟩) (.int .i64 0) (.int .i64 0) 34).below hb
    obtain ⟨_, p0, p1, p2, p3, pf⟩ := B
    have hb1 := ((Below.refl _ _).alloc (Nat.le_refl _) _).trans (hb.mono (by simp))
    clear hb
    go_wp2_with fail
    exact bodyPost_ret (v := .tuple #[.agg #[.int .i64 0, .string ⟨#[]⟩, .int .i64 0, .int .i64 0], .int .i64 0, .int .i64 2]) (by simp [results, Tryz.results59, go_sem, p0, p1, p2, p3]) rfl (rb_err (er := 2) (n := 0) HX.out rfl (below4 hb1 (Nat.le_refl _) _ _ _ _))

  · rw [hu, if_pos rfl] at hX0
    have HX := Lib.hid hX0
    have Hu := Lib.hid hu
    clear hX hX0 hd hu hqt
    go_enter Tryz.func59, Tryz.ntmps59
    go_wp2_with fail
    refine (UtfE.unquote_any s (by omega) _).mono ?_
    rintro _ w1 ⟨rfl, hb⟩
    rw [Hu.out]
    have B := (b4_new w (.int .i64 0) (.string ⟨#[]⟩) (.int .i64 0) (.int .i64 0) 34).below hb
    obtain ⟨_, p0, p1, p2, p3, pf⟩ := B
    have hb1 := ((Below.refl _ _).alloc (Nat.le_refl _) _).trans (hb.mono (by simp))
    clear hb
    go_wp2_with fail
    exact bodyPost_ret (v := .tuple #[.agg #[.int .i64 3, .string ⟨x.toArray⟩, .int .i64 0, .int .i64 0], .int .i64 n, .int .i64 0]) (by simp [results, Tryz.results59, go_sem, p0, p1, p2, p3]) rfl (rb_ok (n := n) HX.out rfl rfl rfl (by simp) (below4 hb1 (Nat.le_refl _) _ _ _ _))

end Go.Proofs.YthjpchnogllliaaGreatDoor.TkpB

/- Package token of the program: what stands at the beginning of a text, comments, taking a token. -/
set_option linter.unusedSimpArgs false
set_option linter.unusedVariables false
namespace Go.Proofs.YthjpchnogllliaaGreatDoor.TkpC
open Go.RowKit Nums IdnM IdnC TokM TokD TokS TkrD TkpM TkpA TkpB Box4

theorem index_one (c : UInt8) : ∀ l : List UInt8, decide (0 ≤ Lib.index l [c]) = l.contains c
  | [] => rfl
  | b :: t => by
    by_cases h : b = c
    · subst h
      rw [index_cons_eq]
      simp
    · have ih := index_one c t
      have hc : (b :: t).contains c = t.contains c := by simp [h, Ne.symm h]
      rw [index_cons_ne t h, hc, ← ih]
      by_cases h1 : Lib.index t [c] = -1
      · rw [if_pos (by rw [beq_iff_eq]; exact h1), h1]
      · rw [if_neg (by rw [beq_iff_eq]; exact h1)]
        have hge := Lib.index_ge t [c]
        rw [Bool.eq_iff_iff, decide_eq_true_eq, decide_eq_true_eq]
        omega
theorem contains_one (l : List UInt8) (c : UInt8) : Lib.contains l [c] = l.contains c := index_one c l
theorem sgn_data : (⟨#[123, 125, 91, 93, 40, 41, 60, 62, 61, 59, 44, 64, 45]⟩ : ByteArray).data.toList = signs := rfl
theorem one_data {s : ByteArray} (h : s.size = 1) : s.data.toList = [s[0]'(by omega)] := by
  have hl : s.data.toList.length = 1 := h
  match e : s.data.toList, hl with
  | [b], _ =>
    have h1 : s.data.toList[0]? = some (s[0]'(by omega)) := List.getElem?_eq_getElem (show 0 < s.data.toList.length by omega)
    rw [e] at h1
    rw [Option.some.inj h1]
set_option maxHeartbeats 2000000 in
set_option maxRecDepth 100000 in
theorem isSign_any (s : ByteArray) (w : World) (hL : Tld.Ld w) :
    Calls Tryz.prog 55 #[.string s] w fun e w' => e = .returned (.bool (TkrA.signB s.data.toList)) ∧ w = w' := by
  obtain ⟨m, hm⟩ := hL.u.mx
  obtain ⟨B, hB⟩ : ∃ B, B = TkrA.signB s.data.toList := ⟨_, rfl⟩
  rw [← hB]
  by_cases h1 : s.size = 1
  · have d1 : ((s.size : Int) == 1) = true := by rw [beq_iff_eq]; omega
    have hB2 : Lib.contains (⟨#[123, 125, 91, 93, 40, 41, 60, 62, 61, 59, 44, 64, 45]⟩ : ByteArray).data.toList s.data.toList = B := by
      rw [sgn_data, one_data h1, contains_one, hB, TkrA.signB_one h1]
    have HB := Lib.hid hB2
    clear hB hB2
    go_enter Tryz.func55, Tryz.ntmps55
    go_wp2_with fail
    refine (Tryz.strings_Contains ⟨#[123, 125, 91, 93, 40, 41, 60, 62, 61, 59, 44, 64, 45]⟩ s m _ (by decide) hm).mono ?_
    rintro _ w1 ⟨rfl, rfl⟩
    rw [HB.out]
    go_wp2_with fail
    go_ret
    exact ⟨rfl, rfl⟩
  · have d1 : ((s.size : Int) == 1) = false := by rw [beq_eq_false_iff_ne]; omega
    have HB := Lib.hid (show B = false by rw [hB]; exact TkrA.signB_len h1)
    clear hB
    go_enter Tryz.func55, Tryz.ntmps55
    go_wp2_with fail
    go_ret
    exact ⟨by rw [HB.out]; rfl, rfl⟩

/-- How long the comment is that a text begins with. -/
def clen (l : List UInt8) : Nat := (l.takeWhile fun c => decide (c ≠ 10)).length
theorem clen_le (l : List UInt8) : clen l ≤ l.length := (List.takeWhile_prefix _).length_le
theorem clen_skip (l : List UInt8) : l.drop (clen l) = skipc l := by
  unfold clen skipc
  induction l with
  | nil => rfl
  | cons b t ih =>
    by_cases hb : b = 10
    · rw [List.takeWhile_cons_of_neg (by simp [hb]), List.dropWhile_cons_of_neg (by simp [hb])]; rfl
    · rw [List.takeWhile_cons_of_pos (by simpa using hb), List.dropWhile_cons_of_pos (by simpa using hb), List.length_cons, List.drop_succ_cons]
      exact ih
theorem ix_10 : ∀ l : List UInt8, (Lib.indexByte l 10 = -1 ∧ clen l = l.length) ∨ Lib.indexByte l 10 = (clen l : Int)
  | [] => .inl ⟨rfl, rfl⟩
  | b :: t => by
    by_cases hb : b = 10
    · right
      unfold clen
      rw [List.takeWhile_cons_of_neg (by simp [hb]), Lib.indexByte, if_pos (by rw [hb]; rfl)]
      rfl
    · have hc : clen (b :: t) = clen t + 1 := by
        unfold clen
        rw [List.takeWhile_cons_of_pos (by simpa using hb)]; rfl
      rw [Lib.indexByte, if_neg (by rw [beq_iff_eq]; exact hb), hc]
      rcases ix_10 t with ⟨h1, h2⟩ | h1
      · left
        rw [if_pos (by rw [h1]; rfl), h2]
        exact ⟨rfl, rfl⟩
      · right
        rw [if_neg (by rw [h1, beq_iff_eq]; omega), h1]
        omega
set_option maxHeartbeats 2000000 in
set_option maxRecDepth 100000 in
theorem commentLength_any (s : ByteArray) (w : World) :
    Calls Tryz.prog 28 #[.string s] w fun e w' => e = .returned (.int .i64 (clen s.data.toList : Int)) ∧ w = w' := by
  obtain ⟨C, hC⟩ : ∃ C, C = clen s.data.toList := ⟨_, rfl⟩
  rw [← hC]
  rcases ix_10 s.data.toList with ⟨h1, h2⟩ | h1
  · have HC := Lib.hid (show C = s.size by rw [hC, h2]; rfl)
    have H1 := Lib.hid h1
    clear hC h1 h2
    go_enter Tryz.func28, Tryz.ntmps28
    go_wp2_with fail
    refine (UtfS.indexByte s 10 _ rfl _).mono ?_
    rintro _ wz ⟨rfl, rfl⟩
    rw [H1.out]
    go_wp2_with fail
    go_ret
    exact ⟨ret_int (by rw [HC.out]), rfl⟩
  · rw [← hC] at h1
    have d0 : decide ((0 : Int) ≤ (C : Int)) = true := decide_eq_true (by omega)
    have H1 := Lib.hid h1
    clear hC h1
    go_enter Tryz.func28, Tryz.ntmps28
    go_wp2_with fail
    refine (UtfS.indexByte s 10 _ rfl _).mono ?_
    rintro _ wz ⟨rfl, rfl⟩
    rw [H1.out]
    go_wp2_with fail
    go_ret
    exact ⟨rfl, rfl⟩

theorem stP_cases (b : UInt8) (t : List UInt8) : (ws b = true ∧ stP b t = 0) ∨ (ws b = false ∧ ((b = 10 ∧ stP b t = 1) ∨ (b ≠ 10 ∧ (((b = 47 ∧ t.head? = some 47) ∧ stP b t = 2) ∨ (¬ (b = 47 ∧ t.head? = some 47) ∧
    ((atN b t = true ∧ stP b t = 3) ∨ (atN b t = false ∧ ((dg b = true ∧ stP b t = 4) ∨ (dg b = false ∧ ((b = 34 ∧ stP b t = 5) ∨ (b ≠ 34 ∧ ((signs.contains b = true ∧ stP b t = 6) ∨ (signs.contains b = false ∧ stP b t = 7)))))))))))) ) := by
  unfold stP
  cases h1 : ws b with
  | true => left; exact ⟨rfl, if_pos rfl⟩
  | false =>
    right
    refine ⟨rfl, ?_⟩
    rw [if_neg (by simp)]
    by_cases h2 : b = 10
    · left; exact ⟨h2, if_pos h2⟩
    · right
      refine ⟨h2, ?_⟩
      rw [if_neg h2]
      by_cases h3 : b = 47 ∧ t.head? = some 47
      · left; exact ⟨h3, if_pos h3⟩
      · right
        refine ⟨h3, ?_⟩
        rw [if_neg h3]
        cases h4 : atN b t with
        | true => left; exact ⟨rfl, if_pos rfl⟩
        | false =>
          right
          refine ⟨rfl, ?_⟩
          rw [if_neg (by simp)]
          cases h5 : dg b with
          | true => left; exact ⟨rfl, if_pos rfl⟩
          | false =>
            right
            refine ⟨rfl, ?_⟩
            rw [if_neg (by simp)]
            by_cases h6 : b = 34
            · left; exact ⟨h6, if_pos h6⟩
            · right
              refine ⟨h6, ?_⟩
              rw [if_neg h6]
              cases h7 : signs.contains b with
              | true => left; exact ⟨rfl, if_pos rfl⟩
              | false => right; exact ⟨rfl, if_neg (by simp)⟩
theorem pre_47 (b : UInt8) (t : List UInt8) : Lib.hasPrefix (b :: t) [47, 47] = decide (b = 47 ∧ t.head? = some 47) := by
  unfold Lib.hasPrefix
  cases t with
  | nil => simp [List.isPrefixOf]
  | cons c r =>
    by_cases h : b = 47
    · by_cases h2 : c = 47
      · simp [List.isPrefixOf, h, h2]
      · simp [List.isPrefixOf, h, h2, Ne.symm h2]
    · simp [List.isPrefixOf, h, Ne.symm h]
theorem first_b {s : ByteArray} {b : UInt8} {t : List UInt8} (hd : s.data.toList = b :: t) : ∃ h : 0 < s.size, s[0] = b := by
  have hp : 0 < s.size := by
    have h0 : s.data.toList.length = s.size := rfl
    rw [hd] at h0
    simp only [List.length_cons] at h0
    omega
  refine ⟨hp, ?_⟩
  have h0 : s.data.toList[0]? = some s[0] := List.getElem?_eq_getElem (show 0 < s.data.toList.length from hp)
  rw [hd] at h0
  exact (Option.some.inj h0).symm
set_option maxHeartbeats 2000000 in
set_option maxRecDepth 100000 in
theorem stateAt_any (s : ByteArray) (b : UInt8) (t : List UInt8) (hs : s.size ≤ 16384) (hd : s.data.toList = b :: t) (w : World) (hL : Tld.Ld w) :
    Calls Tryz.prog 27 #[.string s] w fun e w' => e = .returned (.int .i64 (stP b t : Int)) ∧ w = w' := by
  obtain ⟨hp, hb0⟩ := first_b hd
  obtain ⟨S, hS⟩ : ∃ S, S = stP b t := ⟨_, rfl⟩
  rw [← hS]
  have hcm : Lib.hasPrefix s.data.toList (⟨#[47, 47]⟩ : ByteArray).data.toList = decide (b = 47 ∧ t.head? = some 47) := by rw [hd]; exact pre_47 b t
  have hid : idot s.data.toList = idot (b :: t) := by rw [hd]
  obtain ⟨Y, hY⟩ : ∃ Y, Y = s.extract 0 1 := ⟨_, rfl⟩
  have hYd : Y.data.toList = [b] := by rw [hY, take_k, hd]; rfl
  have hsg : TkrA.signB Y.data.toList = signs.contains b := by rw [hYd]; rfl
  have t10 : ((s[0].toNat : Int) == 10) = decide (b = 10) := by rw [hb0]; exact eqb (n := 10) (by decide)
  have t32 : ((s[0].toNat : Int) == 32) = decide (b = 32) := by rw [hb0]; exact eqb (n := 32) (by decide)
  have t9 : ((s[0].toNat : Int) == 9) = decide (b = 9) := by rw [hb0]; exact eqb (n := 9) (by decide)
  have t13 : ((s[0].toNat : Int) == 13) = decide (b = 13) := by rw [hb0]; exact eqb (n := 13) (by decide)
  have t34 : ((s[0].toNat : Int) == 34) = decide (b = 34) := by rw [hb0]; exact eqb (n := 34) (by decide)
  have HY := Lib.hid hY
  have Hb0 := Lib.hid hb0
  clear hY hYd hb0 hd
  have hst := stP_cases b t
  rw [← hS] at hst
  clear hS
  rcases hst with ⟨hw, hS⟩ | ⟨hw, hst⟩
  · have HS := Lib.hid hS
    simp only [ws, Bool.or_eq_true, decide_eq_true_eq] at hw
    clear hcm hid hsg t10 t34 hS
    by_cases h32 : b = 32
    · rw [decide_eq_true h32] at t32
      clear hw h32 t9 t13
      go_enter Tryz.func27, Tryz.ntmps27
      go_wp2_with fail
      go_ret
      exact ⟨by rw [HS.out]; rfl, rfl⟩
    · rw [decide_eq_false h32] at t32
      by_cases h9 : b = 9
      · rw [decide_eq_true h9] at t9
        clear hw h32 h9 t13
        go_enter Tryz.func27, Tryz.ntmps27
        go_wp2_with fail
        go_ret
        exact ⟨by rw [HS.out]; rfl, rfl⟩
      · rw [decide_eq_false h9] at t9
        have h13 : b = 13 := by
          rcases hw with (h | h) | h
          · exact absurd h h32
          · exact absurd h h9
          · exact h
        rw [decide_eq_true h13] at t13
        clear hw h32 h9 h13
        go_enter Tryz.func27, Tryz.ntmps27
        go_wp2_with fail
        go_ret
        exact ⟨by rw [HS.out]; rfl, rfl⟩
  · simp only [ws, Bool.or_eq_false_iff, decide_eq_false_iff_not] at hw
    obtain ⟨⟨h32, h9⟩, h13⟩ := hw
    rw [decide_eq_false h32] at t32
    rw [decide_eq_false h9] at t9
    rw [decide_eq_false h13] at t13
    clear h32 h9 h13
    rcases hst with ⟨h10, hS⟩ | ⟨h10, hst⟩
    · have HS := Lib.hid hS
      rw [decide_eq_true h10] at t10
      clear hcm hid hsg t34 hS h10
      go_enter Tryz.func27, Tryz.ntmps27
      go_wp2_with fail
      go_ret
      exact ⟨by rw [HS.out]; rfl, rfl⟩
    · rw [decide_eq_false h10] at t10
      clear h10
      rcases hst with ⟨hc, hS⟩ | ⟨hc, hst⟩
      · have HS := Lib.hid hS
        have Hcm := Lib.hid (hcm.trans (decide_eq_true hc))
        clear hcm hid hsg t34 hS hc
        go_enter Tryz.func27, Tryz.ntmps27
        go_wp2_with fail
        refine (UtfS.hasPrefix s ⟨#[47, 47]⟩ _).mono ?_
        rintro _ wz ⟨rfl, rfl⟩
        rw [Hcm.out]
        go_wp2_with fail
        go_ret
        exact ⟨by rw [HS.out]; rfl, rfl⟩
      · have Hcm := Lib.hid (hcm.trans (decide_eq_false hc))
        clear hcm hc
        rcases hst with ⟨ha, hS⟩ | ⟨ha, hst⟩
        · have HS := Lib.hid hS
          unfold atN at ha
          cases hl : ltr b with
          | true =>
            have H1 := Lib.hid (show ltr s[0] = true by rw [Hb0.out]; exact hl)
            clear hid hsg t34 hS ha hl
            go_enter Tryz.func27, Tryz.ntmps27
            go_wp2_with fail
            refine (UtfS.hasPrefix s ⟨#[47, 47]⟩ _).mono ?_
            rintro _ wz ⟨rfl, rfl⟩
            rw [Hcm.out]
            go_wp2_with fail
            refine (isLetter_any s[0] _).mono ?_
            rintro _ wz ⟨rfl, rfl⟩
            rw [H1.out]
            go_wp2_with fail
            go_ret
            exact ⟨by rw [HS.out]; rfl, rfl⟩
          | false =>
            rw [hl, Bool.false_or] at ha
            have H1 := Lib.hid (show ltr s[0] = false by rw [Hb0.out]; exact hl)
            have H2 := Lib.hid (hid.trans ha)
            clear hid hsg t34 hS ha hl
            go_enter Tryz.func27, Tryz.ntmps27
            go_wp2_with fail
            refine (UtfS.hasPrefix s ⟨#[47, 47]⟩ _).mono ?_
            rintro _ wz ⟨rfl, rfl⟩
            rw [Hcm.out]
            go_wp2_with fail
            refine (isLetter_any s[0] _).mono ?_
            rintro _ wz ⟨rfl, rfl⟩
            rw [H1.out]
            go_wp2_with fail
            refine (isInnerDot_any s _).mono ?_
            rintro _ wz ⟨rfl, rfl⟩
            rw [H2.out]
            go_wp2_with fail
            go_ret
            exact ⟨by rw [HS.out]; rfl, rfl⟩
        · unfold atN at ha
          rw [Bool.or_eq_false_iff] at ha
          have H1 := Lib.hid (show ltr s[0] = false by rw [Hb0.out]; exact ha.1)
          have H2 := Lib.hid (hid.trans ha.2)
          clear hid ha
          rcases hst with ⟨hg, hS⟩ | ⟨hg, hst⟩
          · have HS := Lib.hid hS
            have H3 := Lib.hid (show dg s[0] = true by rw [Hb0.out]; exact hg)
            clear hsg t34 hS hg
            go_enter Tryz.func27, Tryz.ntmps27
            go_wp2_with fail
            refine (UtfS.hasPrefix s ⟨#[47, 47]⟩ _).mono ?_
            rintro _ wz ⟨rfl, rfl⟩
            rw [Hcm.out]
            go_wp2_with fail
            refine (isLetter_any s[0] _).mono ?_
            rintro _ wz ⟨rfl, rfl⟩
            rw [H1.out]
            go_wp2_with fail
            refine (isInnerDot_any s _).mono ?_
            rintro _ wz ⟨rfl, rfl⟩
            rw [H2.out]
            go_wp2_with fail
            refine (isDigit_any s[0] _).mono ?_
            rintro _ wz ⟨rfl, rfl⟩
            rw [H3.out]
            go_wp2_with fail
            go_ret
            exact ⟨by rw [HS.out]; rfl, rfl⟩
          · have H3 := Lib.hid (show dg s[0] = false by rw [Hb0.out]; exact hg)
            clear hg
            rcases hst with ⟨h34, hS⟩ | ⟨h34, hst⟩
            · have HS := Lib.hid hS
              rw [decide_eq_true h34] at t34
              clear hsg hS h34
              go_enter Tryz.func27, Tryz.ntmps27
              go_wp2_with fail
              refine (UtfS.hasPrefix s ⟨#[47, 47]⟩ _).mono ?_
              rintro _ wz ⟨rfl, rfl⟩
              rw [Hcm.out]
              go_wp2_with fail
              refine (isLetter_any s[0] _).mono ?_
              rintro _ wz ⟨rfl, rfl⟩
              rw [H1.out]
              go_wp2_with fail
              refine (isInnerDot_any s _).mono ?_
              rintro _ wz ⟨rfl, rfl⟩
              rw [H2.out]
              go_wp2_with fail
              refine (isDigit_any s[0] _).mono ?_
              rintro _ wz ⟨rfl, rfl⟩
              rw [H3.out]
              go_wp2_with fail
              go_ret
              exact ⟨by rw [HS.out]; rfl, rfl⟩
            · rw [decide_eq_false h34] at t34
              clear h34
              rcases hst with ⟨hsc, hS⟩ | ⟨hsc, hS⟩
              · have HS := Lib.hid hS
                have H4 := Lib.hid (hsg.trans hsc)
                clear hsg hS hsc
                go_enter Tryz.func27, Tryz.ntmps27
                go_wp2_with fail
                refine (UtfS.hasPrefix s ⟨#[47, 47]⟩ _).mono ?_
                rintro _ wz ⟨rfl, rfl⟩
                rw [Hcm.out]
                go_wp2_with fail
                refine (isLetter_any s[0] _).mono ?_
                rintro _ wz ⟨rfl, rfl⟩
                rw [H1.out]
                go_wp2_with fail
                refine (isInnerDot_any s _).mono ?_
                rintro _ wz ⟨rfl, rfl⟩
                rw [H2.out]
                go_wp2_with fail
                refine (isDigit_any s[0] _).mono ?_
                rintro _ wz ⟨rfl, rfl⟩
                rw [H3.out]
                go_wp2_with fail
                rw [← HY.out]
                refine (isSign_any Y _ hL).mono ?_
                rintro _ wz ⟨rfl, rfl⟩
                rw [H4.out]
                go_wp2_with fail
                go_ret
                exact ⟨by rw [HS.out]; rfl, rfl⟩
              · have HS := Lib.hid hS
                have H4 := Lib.hid (hsg.trans hsc)
                clear hsg hS hsc
                go_enter Tryz.func27, Tryz.ntmps27
                go_wp2_with fail
                refine (UtfS.hasPrefix s ⟨#[47, 47]⟩ _).mono ?_
                rintro _ wz ⟨rfl, rfl⟩
                rw [Hcm.out]
                go_wp2_with fail
                refine (isLetter_any s[0] _).mono ?_
                rintro _ wz ⟨rfl, rfl⟩
                rw [H1.out]
                go_wp2_with fail
                refine (isInnerDot_any s _).mono ?_
                rintro _ wz ⟨rfl, rfl⟩
                rw [H2.out]
                go_wp2_with fail
                refine (isDigit_any s[0] _).mono ?_
                rintro _ wz ⟨rfl, rfl⟩
                rw [H3.out]
                go_wp2_with fail
                rw [← HY.out]
                refine (isSign_any Y _ hL).mono ?_
                rintro _ wz ⟨rfl, rfl⟩
                rw [H4.out]
                go_wp2_with fail
                go_ret
                exact ⟨by rw [HS.out]; rfl, rfl⟩

set_option maxHeartbeats 2000000 in
set_option maxRecDepth 100000 in
theorem take_3 (s : ByteArray) (b : UInt8) (t : List UInt8) (hs : s.size ≤ 16384) (hd : s.data.toList = b :: t) (ha : atN b t = true) (w : World) (hL : Tld.Ld w) :
    Calls Tryz.prog 29 #[.int .i64 3, .string s] w fun e w' => RB (one s.data.toList) 0 w e w' := by
  have hone : one s.data.toList = one s.data.toList := rfl
  have Hone := Lib.hid hone
  obtain ⟨X, hX⟩ : ∃ X, X = one s.data.toList := ⟨_, rfl⟩
  rw [← hX]
  have HX := Lib.hid hX
  clear hX hone
  go_enter Tryz.func29, Tryz.ntmps29
  go_wp2_with fail
  refine (takeName_any s b t hs hd ha _ (hL.alloc _)).mono ?_
  rintro _ w1 ⟨v, rfl, ⟨k, n, er, rfl, hsp⟩, hb⟩
  have Hsp := Lib.hid hsp
  clear hsp
  have B := (b4_new w (.int .i64 0) (.string ⟨#[]⟩) (.int .i64 0) (.int .i64 0) 34).below hb
  obtain ⟨_, p0, p1, p2, p3, pf⟩ := B
  have hb1 := ((Below.refl _ _).alloc (Nat.le_refl _) _).trans (hb.mono (by simp))
  clear hb
  unfold tv
  rw [Nat.zero_add]
  go_wp2_with fail
  exact bodyPost_ret (v := .tuple #[.agg #[.int .i64 k.kind, .string ⟨k.text.toArray⟩, .int .i64 k.num, .int .i64 0], .int .i64 n, .int .i64 er]) (by simp [results, Tryz.results29, go_sem, p0, p1, p2, p3]) rfl (rb_raw (n := n) (by rw [HX.out]; exact Hsp.out) (by simp) (below4 hb1 (Nat.le_refl _) _ _ _ _))

set_option maxHeartbeats 2000000 in
set_option maxRecDepth 100000 in
theorem take_4 (s : ByteArray) (b : UInt8) (t : List UInt8) (hs : s.size ≤ 16384) (hd : s.data.toList = b :: t) (ha : atN b t = false) (hg : dg b = true) (w : World) (hL : Tld.Ld w) :
    Calls Tryz.prog 29 #[.int .i64 4, .string s] w fun e w' => RB (one s.data.toList) 0 w e w' := by
  have hone : one s.data.toList = intE s.data.toList := by rw [hd]; exact one_intE (nm_none ha) hg
  have Hone := Lib.hid hone
  obtain ⟨X, hX⟩ : ∃ X, X = one s.data.toList := ⟨_, rfl⟩
  rw [← hX]
  have HX := Lib.hid hX
  clear hX hone
  go_enter Tryz.func29, Tryz.ntmps29
  go_wp2_with fail
  refine (takeInt_any s b t hs hd hg _ (hL.alloc _)).mono ?_
  rintro _ w1 ⟨v, rfl, ⟨k, n, er, rfl, hsp⟩, hb⟩
  have Hsp := Lib.hid hsp
  clear hsp
  have B := (b4_new w (.int .i64 0) (.string ⟨#[]⟩) (.int .i64 0) (.int .i64 0) 34).below hb
  obtain ⟨_, p0, p1, p2, p3, pf⟩ := B
  have hb1 := ((Below.refl _ _).alloc (Nat.le_refl _) _).trans (hb.mono (by simp))
  clear hb
  unfold tv
  rw [Nat.zero_add]
  go_wp2_with fail
  exact bodyPost_ret (v := .tuple #[.agg #[.int .i64 k.kind, .string ⟨k.text.toArray⟩, .int .i64 k.num, .int .i64 0], .int .i64 n, .int .i64 er]) (by simp [results, Tryz.results29, go_sem, p0, p1, p2, p3]) rfl (rb_raw (n := n) (by rw [HX.out, Hone.out]; exact Hsp.out) (by simp) (below4 hb1 (Nat.le_refl _) _ _ _ _))

set_option maxHeartbeats 2000000 in
set_option maxRecDepth 100000 in
theorem take_5 (s : ByteArray) (b : UInt8) (t : List UInt8) (hs : s.size ≤ 16384) (hd : s.data.toList = b :: t) (hq : b = 34) (w : World) (hL : Tld.Ld w) :
    Calls Tryz.prog 29 #[.int .i64 5, .string s] w fun e w' => RB (one s.data.toList) 0 w e w' := by
  have hone : one s.data.toList = one s.data.toList := rfl
  have Hone := Lib.hid hone
  obtain ⟨X, hX⟩ : ∃ X, X = one s.data.toList := ⟨_, rfl⟩
  rw [← hX]
  have HX := Lib.hid hX
  clear hX hone
  go_enter Tryz.func29, Tryz.ntmps29
  go_wp2_with fail
  refine (takeText_any s t hs (by rw [hd, hq]) _).mono ?_
  rintro _ w1 ⟨v, rfl, ⟨k, n, er, rfl, hsp⟩, hb⟩
  have Hsp := Lib.hid hsp
  clear hsp
  have B := (b4_new w (.int .i64 0) (.string ⟨#[]⟩) (.int .i64 0) (.int .i64 0) 34).below hb
  obtain ⟨_, p0, p1, p2, p3, pf⟩ := B
  have hb1 := ((Below.refl _ _).alloc (Nat.le_refl _) _).trans (hb.mono (by simp))
  clear hb
  unfold tv
  rw [Nat.zero_add]
  go_wp2_with fail
  exact bodyPost_ret (v := .tuple #[.agg #[.int .i64 k.kind, .string ⟨k.text.toArray⟩, .int .i64 k.num, .int .i64 0], .int .i64 n, .int .i64 er]) (by simp [results, Tryz.results29, go_sem, p0, p1, p2, p3]) rfl (rb_raw (n := n) (by rw [HX.out]; exact Hsp.out) (by simp) (below4 hb1 (Nat.le_refl _) _ _ _ _))

set_option maxHeartbeats 2000000 in
set_option maxRecDepth 100000 in
theorem take_6 (s : ByteArray) (b : UInt8) (t : List UInt8) (hs : s.size ≤ 16384) (hd : s.data.toList = b :: t) (ha : atN b t = false) (hg : dg b = false) (hq : b ≠ 34) (hc : signs.contains b = true) (w : World) :
    Calls Tryz.prog 29 #[.int .i64 6, .string s] w fun e w' => RB (one s.data.toList) 0 w e w' := by
  have hX0 : one s.data.toList = .ok (⟨4, [b], 0⟩, 1) := by rw [hd, one_sign (nm_none ha) hg hq, if_pos hc]
  obtain ⟨hp, hb0⟩ := first_b hd
  obtain ⟨Y, hY⟩ : ∃ Y, Y = s.extract 0 1 := ⟨_, rfl⟩
  have hYd : Y.data.toList = [b] := by rw [hY, take_k, hd]; rfl
  obtain ⟨X, hX⟩ : ∃ X, X = one s.data.toList := ⟨_, rfl⟩
  rw [← hX] at hX0 ⊢
  have hp1 : (1 : Int) ≤ s.size := by omega
  have HX := Lib.hid hX0
  have HY := Lib.hid hY
  have HYd := Lib.hid hYd
  clear hX hX0 hY hYd hd ha hg hq hc hb0
  go_enter Tryz.func29, Tryz.ntmps29
  go_wp2_with fail
  rw [← HY.out]
  exact bodyPost_ret (v := .tuple #[.agg #[.int .i64 4, .string Y, .int .i64 0, .int .i64 0], .int .i64 1, .int .i64 0]) (by simp [results, Tryz.results29, go_sem]) rfl (rb_ok (n := 1) HX.out rfl (by rw [HYd.out]) rfl rfl ((Below.refl _ _).alloc (Nat.le_refl _) _))
set_option maxHeartbeats 2000000 in
set_option maxRecDepth 100000 in
theorem take_7 (s : ByteArray) (b : UInt8) (t : List UInt8) (hs : s.size ≤ 16384) (hd : s.data.toList = b :: t) (ha : atN b t = false) (hg : dg b = false) (hq : b ≠ 34) (hc : signs.contains b = false) (w : World) :
    Calls Tryz.prog 29 #[.int .i64 7, .string s] w fun e w' => RB (one s.data.toList) 0 w e w' := by
  have hX0 : one s.data.toList = .error 2 := by rw [hd, one_sign (nm_none ha) hg hq, if_neg (by rw [hc]; simp)]
  obtain ⟨X, hX⟩ : ∃ X, X = one s.data.toList := ⟨_, rfl⟩
  rw [← hX] at hX0 ⊢
  have HX := Lib.hid hX0
  clear hX hX0 hd ha hg hq hc
  go_enter Tryz.func29, Tryz.ntmps29
  go_wp2_with fail
  exact bodyPost_ret (v := .tuple #[.agg #[.int .i64 0, .string ⟨#[]⟩, .int .i64 0, .int .i64 0], .int .i64 0, .int .i64 2]) (by simp [results, Tryz.results29, go_sem]) rfl (rb_err (er := 2) (n := 0) HX.out rfl ((Below.refl _ _).alloc (Nat.le_refl _) _))
theorem take_any (s : ByteArray) (b : UInt8) (t : List UInt8) (hs : s.size ≤ 16384) (hd : s.data.toList = b :: t) (h1 : ws b = false) (h2 : b ≠ 10) (h3 : ¬ (b = 47 ∧ t.head? = some 47)) (q : Nat) (hq : q = stP b t) (w : World) (hL : Tld.Ld w) :
    Calls Tryz.prog 29 #[.int .i64 q, .string s] w fun e w' => RB (one s.data.toList) 0 w e w' := by
  rcases stP_cases b t with ⟨hw, _⟩ | ⟨_, ⟨h, _⟩ | ⟨_, ⟨h, _⟩ | ⟨_, ⟨ha, hS⟩ | ⟨ha, ⟨hg, hS⟩ | ⟨hg, ⟨h34, hS⟩ | ⟨h34, ⟨hc, hS⟩ | ⟨hc, hS⟩⟩⟩⟩⟩⟩⟩
  · rw [h1] at hw; cases hw
  · exact absurd h h2
  · exact absurd h h3
  all_goals
    rw [hS] at hq
    subst hq
  · exact take_3 s b t hs hd ha w hL
  · exact take_4 s b t hs hd ha hg w hL
  · exact take_5 s b t hs hd h34 w hL
  · exact take_6 s b t hs hd ha hg h34 hc w
  · exact take_7 s b t hs hd ha hg h34 hc w
end Go.Proofs.YthjpchnogllliaaGreatDoor.TkpC

/- Package token of the program: dividing a text into tokens. -/
set_option linter.unusedSimpArgs false
set_option linter.unusedVariables false
namespace Go.Proofs.YthjpchnogllliaaGreatDoor.TkpD
open Go.RowKit Nums IdnM IdnC TokM TokD TokS TokT TokU TkrD TkrF OwnT TkrH TkpM TkpB TkpC Box4

def strZ : Value → Nat
  | .string s => s.size
  | _ => 0
theorem stP_ge {b : UInt8} {t : List UInt8} (h1 : ws b = false) (h2 : b ≠ 10) (h3 : ¬ (b = 47 ∧ t.head? = some 47)) : 3 ≤ stP b t := by
  rcases stP_cases b t with ⟨hw, _⟩ | ⟨_, ⟨h, _⟩ | ⟨_, ⟨h, _⟩ | ⟨_, ⟨ha, hS⟩ | ⟨ha, ⟨hg, hS⟩ | ⟨hg, ⟨h34, hS⟩ | ⟨h34, ⟨hc, hS⟩ | ⟨hc, hS⟩⟩⟩⟩⟩⟩⟩
  · rw [h1] at hw; cases hw
  · exact absurd h h2
  · exact absurd h h3
  all_goals omega
set_option maxHeartbeats 2000000 in
set_option maxRecDepth 100000 in
theorem pscan (s : ByteArray) (hs0 : s.size ≤ 140737488351232) (w : World) (hL : Tld.Ld w) :
    Calls Tryz.prog 11 #[.string s] w fun e w' => SB s w e w' := by
  obtain ⟨i0, hi, hz0, hz1, hz2⟩ := info_parts infoT
  by_cases hbig : 16384 < s.size
  · have d1 : decide ((16384 : Int) < s.size) = true := decide_eq_true (by omega)
    have Hbig := Lib.hid hbig
    clear hbig
    go_enter Tryz.func11, Tryz.ntmps11
    go_wp2_with fail
    go_ret3
    exact ⟨_, _, _, rfl, by unfold SR; rw [if_pos Hbig.out]; exact ⟨known_nil _, rfl, rfl⟩, Below.refl _ _⟩
  · have d1 : decide ((16384 : Int) < s.size) = false := decide_eq_false (by omega)
    have hs : s.size ≤ 16384 := by omega
    obtain ⟨X, hX⟩ : ∃ X, X = scanT 1 s.data.toList := ⟨_, rfl⟩
    have HX := Lib.hid hX
    have Hbig := Lib.hid hbig
    clear hbig hX
    go_enter Tryz.func11, Tryz.ntmps11
    go_wp2_with fail
    go_loopw [5, 6, 7] (fun lv nv rv wr => ∃ (k ln : Nat) (v : Value) (R : ByteArray) (P : List (Tok × Nat)), k + R.size = s.size ∧ ln ≤ k + 1 ∧ P.length ≤ k ∧ k ≤ 16384 ∧ lv = v ∧ nv = .int .i64 ln ∧ rv = .string R ∧ Hid (OwnT wr w.heap.size v (P.map mk)) ∧ Hid (Below w.heap.size w wr) ∧ Hid (X = pre P (scanT ln R.data.toList)) ∧ Hid (∀ p ∈ P, (mk p).ok)) (fun _ _ rv _ => strZ rv)
    case atStart =>
      refine ⟨0, 1, _, s, [], by omega, by omega, by simp, by omega, rfl, rfl, rfl, Lib.hid (OwnT.nil _ _), Lib.hid (Below.refl _ _), Lib.hid ?_, Lib.hid (by simp)⟩
      rw [← HX.out]
      cases X <;> rfl
    case round =>
      obtain ⟨k, ln, v, R, P, hk, hln, hP, hk2, rfl, rfl, rfl, HO, HB, Hs, Hok⟩ := hrel
      by_cases hR : R.size = 0
      · have he : R.toList.isEmpty = true := empty_yes hR
        have hXe : X = .ok P := by
          rw [Hs.out, show R.data.toList = [] from List.length_eq_zero_iff.1 hR, TokS.scan_nil]
          simp [pre, Except.map]
        have HXe := Lib.hid hXe
        clear hXe hR
        go_wp2_with fail
        go_ret3
        refine ⟨_, _, _, rfl, ?_, HB.out⟩
        unfold SR
        rw [if_neg Hbig.out, ← HX.out, HXe.out]
        exact ⟨rfl, rfl, HO.out.known, Hok.out⟩
      · have he : R.toList.isEmpty = false := empty_no hR
        obtain ⟨b, t, hbt⟩ : ∃ b t, R.data.toList = b :: t := List.exists_cons_of_length_pos (show 0 < R.data.toList.length from by have h0 : R.data.toList.length = R.size := rfl; omega)
        have hRs : R.size ≤ 16384 := by omega
        have hRt : t.length + 1 = R.size := by
          have h0 : R.data.toList.length = R.size := rfl
          rw [hbt] at h0
          exact h0
        have HLr := Lib.hid (hL.below (HB.out.mono (Nat.le_refl _)))
        have hsc := Hs.out
        rw [hbt] at hsc
        have hst := stateAt_any R b t hRs hbt
        obtain ⟨q, hq⟩ : ∃ q, q = stP b t := ⟨_, rfl⟩
        have hcs := stP_cases b t
        rw [← hq] at hst hcs
        have Hst := Lib.hid hst
        obtain ⟨Z, hZ⟩ : ∃ Z, Z = R.extract 1 R.size := ⟨_, rfl⟩
        have hZd : Z.data.toList = t := by rw [hZ, rest_k, hbt]; rfl
        have hZs : Z.size + 1 = R.size := by
          have h0 : Z.data.toList.length = Z.size := rfl
          rw [hZd] at h0
          omega
        have hR1 : (1 : Int) ≤ R.size := by omega
        clear hst
        rcases hcs with ⟨hw, hS⟩ | ⟨hw, hcs⟩
        · rw [scan_ws _ _ hw, ← hZd] at hsc
          have Hsc := Lib.hid hsc
          have HZ := Lib.hid hZ
          subst hS
          clear hsc hZ hZd hq hbt hw
          go_wp2_with fail
          refine (Hst.out _ HLr.out).mono ?_
          rintro _ wz ⟨rfl, rfl⟩
          go_wp2_with fail
          rw [← HZ.out]
          exact ⟨⟨k + 1, ln, _, Z, P, by omega, by omega, by omega, by omega, rfl, rfl, rfl, HO, HB, Hsc, Hok⟩, by simp [strZ]; omega⟩
        · rcases hcs with ⟨h10, hS⟩ | ⟨h10, hcs⟩
          · rw [h10, scan_lf, ← hZd] at hsc
            have Hsc := Lib.hid hsc
            have HZ := Lib.hid hZ
            subst hS
            clear hsc hZ hZd hq hbt hw h10
            go_wp2_with fail
            refine (Hst.out _ HLr.out).mono ?_
            rintro _ wz ⟨rfl, rfl⟩
            go_wp2_with fail
            rw [← HZ.out]
            exact ⟨⟨k + 1, ln + 1, _, Z, P, by omega, by omega, by omega, by omega, rfl, by go_num, rfl, HO, HB, Hsc, Hok⟩, by simp [strZ]; omega⟩
          · rcases hcs with ⟨hcm, hS⟩ | ⟨hcm, hcs⟩
            · have hlt := skipc_lt (b := b) t h10
              rw [scan_com _ _ hcm, ← hbt, ← clen_skip] at hsc
              rw [← hbt, ← clen_skip, List.length_drop] at hlt
              have hcl := clen_le R.data.toList
              have hRl : R.data.toList.length = R.size := rfl
              rw [hRl] at hlt hcl
              obtain ⟨n, hn⟩ : ∃ n, n = clen R.data.toList := ⟨_, rfl⟩
              rw [← hn] at hsc hlt hcl
              obtain ⟨Q, hQ⟩ : ∃ Q, Q = R.extract n R.size := ⟨_, rfl⟩
              have hQd : Q.data.toList = R.data.toList.drop n := by rw [hQ, rest_k]
              rw [← hQd] at hsc
              have hQs : Q.size + n = R.size := by
                have h0 : Q.data.toList.length = Q.size := rfl
                rw [hQd, List.length_drop, hRl] at h0
                omega
              have Hsc := Lib.hid hsc
              have HQ := Lib.hid hQ
              have Hn := Lib.hid hn
              subst hS
              have hn2 : (n : Int) ≤ R.size := by omega
              clear hsc hZ hZd hq hbt hw h10 hcm hQ hQd hn hRl
              go_wp2_with fail
              refine (Hst.out _ HLr.out).mono ?_
              rintro _ wz ⟨rfl, rfl⟩
              go_wp2_with fail
              refine (commentLength_any R _).mono ?_
              rintro _ wz ⟨rfl, rfl⟩
              rw [← Hn.out]
              go_wp2_with fail
              rw [← HQ.out]
              exact ⟨⟨k + n, ln, _, Q, P, by omega, by omega, by omega, by omega, rfl, rfl, rfl, HO, HB, Hsc, Hok⟩, by simp [strZ]; omega⟩
            · have hq3 := stP_ge hw h10 hcm
              rw [← hq] at hq3
              have e0 : ((q : Int) == 0) = false := by rw [beq_eq_false_iff_ne]; omega
              have e1 : ((q : Int) == 1) = false := by rw [beq_eq_false_iff_ne]; omega
              have e2 : ((q : Int) == 2) = false := by rw [beq_eq_false_iff_ne]; omega
              have htk := take_any R b t hRs hbt hw h10 hcm q hq
              have Htk := Lib.hid htk
              have Hne10 := Lib.hid h10
              have Hws := Lib.hid hw
              have Hcm := Lib.hid hcm
              have Hdr := Lib.hid hbt
              have Hsc := Lib.hid hsc
              clear hsc hZ hZd hq hcs htk h10 hw hcm hbt
              go_wp2_with fail
              refine (Hst.out _ HLr.out).mono ?_
              rintro _ wz ⟨rfl, rfl⟩
              go_wp2_with fail
              refine (Htk.out _ HLr.out).mono ?_
              rintro _ w1 ⟨vv, rfl, ⟨kk, n, er, rfl, hsp⟩, hb1⟩
              rw [Nat.zero_add]
              have Hb1 := Lib.hid (HB.out.trans (hb1.mono HB.out.size))
              have HO1 := Lib.hid (HO.out.below hb1)
              have hwr := HB.out.size
              have hw1 := hb1.size
              clear hb1
              rcases hsp with ⟨m, hm, rfl, rfl⟩ | herr
              · have Hone := Lib.hid hm
                have hwn := one_wrtn hm
                have hRl : R.data.toList.length = R.size := rfl
                have hn1 : 1 ≤ n := hwn.2.1
                have hn2 : n ≤ R.size := by have := hwn.2.2; omega
                have hn3 : (n : Int) ≤ R.size := by omega
                have hmk := mk_ok (ln := ln) hm (by omega) (by omega)
                have Hmk := Lib.hid hmk
                obtain ⟨Q, hQ⟩ : ∃ Q, Q = R.extract n R.size := ⟨_, rfl⟩
                have hQd : Q.data.toList = R.data.toList.drop n := by rw [hQ, rest_k]
                have hQs : Q.size + n = R.size := by
                  have h0 : Q.data.toList.length = Q.size := rfl
                  rw [hQd, List.length_drop, hRl] at h0
                  omega
                have HQ := Lib.hid hQ
                have HQd := Lib.hid hQd
                clear hm hwn hmk hQ hQd hRl
                unfold tv
                go_wp2_with (at_builtin; refine wpList_append_own _ rfl _ _ 22 rfl w.heap.size 34 i0 (.agg #[.int .i64 0, .string ByteArray.empty, .int .i64 0, .int .i64 0]) 4 40 Tryz.underlying22 hi hz0 hz1 hz2 rfl (by decide) _ (P.map mk).length _ rfl (World.ownsRow.alloc (World.ownsRow.alloc HO1.out _) _) ⟨w1.heap.size + 1, 0, none⟩ 1 1 [.int .i64 kk.kind, .string ⟨kk.text.toArray⟩, .int .i64 kk.num, .int .i64 ln] rfl rfl ?c1 ?c2 ?c3 ?c4 ?c5 ?_)
                case c1 =>
                  intro j u hj
                  have hc := Lib.cell_of_heap (heap_alloc_new (w1.alloc (.cells #[.int .i64 kk.kind, .string ⟨kk.text.toArray⟩, .int .i64 kk.num, .int .i64 ln] 34)) (.cells #[.int .i64 kk.kind, .string ⟨kk.text.toArray⟩, .int .i64 kk.num, .int .i64 ln] 34))
                  have hsz : (w1.alloc (.cells #[.int .i64 kk.kind, .string ⟨kk.text.toArray⟩, .int .i64 kk.num, .int .i64 ln] 34)).heap.size = w1.heap.size + 1 := by simp
                  rw [hsz] at hc
                  have hadd : (⟨w1.heap.size + 1, 0, none⟩ : Addr).add j = ⟨w1.heap.size + 1, j, none⟩ := by
                    unfold Addr.add
                    split
                    · rename_i h; rw [h]
                    · simp
                  rw [hadd, hc j]
                  match j, hj with
                  | 0, hj => exact hj
                  | 1, hj => exact hj
                  | 2, hj => exact hj
                  | 3, hj => exact hj
                  | j + 4, hj => simp at hj
                case c2 =>
                  intro u hu
                  simp only [List.mem_cons, List.not_mem_nil, or_false] at hu
                  rcases hu with rfl | rfl | rfl | rfl <;> rfl
                case c3 => unfold maxLen; rw [List.length_map]; omega
                case c4 => rw [List.length_map]; omega
                case c5 => simp; omega
                intro v' w2 hown' hgrow _
                have hb2 : Below w.heap.size w w2 := ((Hb1.out.alloc (by omega) _).alloc (by simp; omega) _).grown hgrow (by simp; omega) (fun g hg => (HO1.out.lt g hg).1)
                have Hb2 := Lib.hid hb2
                have HO2 : Hid (OwnT w2 w.heap.size v' ((P ++ [(kk, ln)]).map mk)) := Lib.hid (by
                  unfold OwnT
                  rw [List.map_append, List.length_append, List.flatMap_append, List.length_map]
                  exact hown')
                have Hs2 : Hid (X = pre (P ++ [(kk, ln)]) (scanT ln Q.data.toList)) := Lib.hid (by
                  have h1 := Hsc.out
                  rw [← Hdr.out, scan_one Hone.out, pre_cons, ← HQd.out] at h1
                  exact h1)
                have Hok2 : Hid (∀ p ∈ P ++ [(kk, ln)], (mk p).ok) := Lib.hid (fun p hp => by
                  rcases List.mem_append.1 hp with hp | hp
                  · exact Hok.out p hp
                  · simp at hp; subst hp; exact Hmk.out)
                clear hown' hb2
                go_wp2_with fail
                rw [← HQ.out]
                exact ⟨⟨k + n, ln, _, Q, P ++ [(kk, ln)], by omega, by omega, by rw [List.length_append]; simp; omega, by omega, rfl, rfl, rfl, HO2, Hb2, Hs2, Hok2⟩, by simp [strZ]; omega⟩
              · have her : er ≠ 0 := by
                  rw [Hdr.out] at herr
                  exact one_err herr
                have hne : ((er : Int) != 0) = true := by
                  rw [bne_iff_ne]
                  omega
                have hXe : X = .error (ln, er) := by
                  rw [Hsc.out, scan_err Hne10.out Hws.out Hcm.out (by rw [← Hdr.out]; exact herr)]
                  rfl
                have HXe := Lib.hid hXe
                clear hXe herr her
                unfold tv
                go_wp2_with fail
                go_ret3
                refine ⟨_, _, _, rfl, ?_, Hb1.out.alloc (by omega) _⟩
                unfold SR
                rw [if_neg Hbig.out, ← HX.out, HXe.out]
                exact ⟨known_nil _, rfl, rfl⟩
end Go.Proofs.YthjpchnogllliaaGreatDoor.TkpD
