/- Package token of the program: bytes, dots, names, signs, what stands at the beginning of a text, comments. -/
import Derived.Test.YtoinfjdhbopefaaGreatDoorTkpM
import Derived.Test.YtoinfjdhbopefaaGreatDoorIdpA
import Derived.Test.YtoinfjdhbopefaaGreatDoorUtfS
import Derived.Test.YtoinfjdhbopefaaGreatDoorTld
set_option linter.unusedSimpArgs false
set_option linter.unusedVariables false
namespace Go.Proofs.YtoinfjdhbopefaaGreatDoor.TkpA
open Go.RowKit Nums IdnM IdnC TokM TokS TkpM

theorem ret_bool {a b : Bool} (h : a = b) : Ending.returned (.bool a) = .returned (.bool b) := by rw [h]
theorem ret_int {a b : Int} (h : a = b) : Ending.returned (.int .i64 a) = .returned (.int .i64 b) := by rw [h]
set_option maxHeartbeats 2000000 in
set_option maxRecDepth 100000 in
theorem isLetter_any (b : UInt8) (w : World) :
    Calls Tryz.prog 27 #[.int .u8 (b.toNat : Int)] w fun e w' => e = .returned (.bool (ltr b)) ∧ w = w' := by
  have hc : ltr b = ((decide (97 ≤ b.toNat) && decide (b.toNat ≤ 122)) || (decide (65 ≤ b.toNat) && decide (b.toNat ≤ 90))) := by simp [ltr, sm, cp]
  obtain ⟨n, hn⟩ : ∃ n, n = b.toNat := ⟨_, rfl⟩
  rw [← hn] at hc ⊢
  have Hc := Lib.hid hc
  clear hc hn
  go_enter Tryz.func27, Tryz.ntmps27
  go_wp2_with fail
  all_goals go_ret
  all_goals
    refine ⟨ret_bool ?_, rfl⟩
    rw [Hc.out]
    clear Hc
    try simp only [beq_iff_eq, decide_eq_true_eq, decide_eq_false_iff_not, Int.not_le, Bool.not_eq_true, ge_iff_le] at *
    rw [Bool.eq_iff_iff]
    simp only [Bool.and_eq_true, Bool.or_eq_true, decide_eq_true_eq]
    constructor <;> intros <;> first | omega | (exfalso; omega) | simp_all | (refine ⟨?_, ?_⟩ <;> omega)

set_option maxHeartbeats 2000000 in
set_option maxRecDepth 100000 in
theorem isDigit_any (b : UInt8) (w : World) :
    Calls Tryz.prog 29 #[.int .u8 (b.toNat : Int)] w fun e w' => e = .returned (.bool (dg b)) ∧ w = w' := by
  have hc : dg b = (decide (48 ≤ b.toNat) && decide (b.toNat ≤ 57)) := by rfl
  obtain ⟨n, hn⟩ : ∃ n, n = b.toNat := ⟨_, rfl⟩
  rw [← hn] at hc ⊢
  have Hc := Lib.hid hc
  clear hc hn
  go_enter Tryz.func29, Tryz.ntmps29
  go_wp2_with fail
  all_goals go_ret
  all_goals
    refine ⟨ret_bool ?_, rfl⟩
    rw [Hc.out]
    clear Hc
    try simp only [beq_iff_eq, decide_eq_true_eq, decide_eq_false_iff_not, Int.not_le, Bool.not_eq_true, ge_iff_le] at *
    rw [Bool.eq_iff_iff]
    simp only [Bool.and_eq_true, Bool.or_eq_true, decide_eq_true_eq]
    constructor <;> intros <;> first | omega | (exfalso; omega) | simp_all | (refine ⟨?_, ?_⟩ <;> omega)

theorem inn_of (b : UInt8) : inn b = (ltr b || (dg b || decide (b.toNat = 95))) := by
  unfold inn ltr us
  cases sm b <;> cases cp b <;> cases dg b <;> rfl
theorem beq_of {b : UInt8} {n : Nat} {v : Bool} (h : decide (b.toNat = n) = v) : ((b.toNat : Int) == (n : Int)) = v := by
  rw [← h, Bool.eq_iff_iff, beq_iff_eq, decide_eq_true_eq]
  omega
theorem eqb {b : UInt8} {n : Nat} (hn : n < 256) : ((b.toNat : Int) == (n : Int)) = decide (b = UInt8.ofNat n) := by
  rw [Bool.eq_iff_iff, beq_iff_eq, decide_eq_true_eq]
  constructor
  · intro h
    apply UInt8.toNat_inj.1
    rw [UInt8.toNat_ofNat']
    omega
  · rintro rfl
    rw [UInt8.toNat_ofNat']
    omega
set_option maxHeartbeats 2000000 in
set_option maxRecDepth 100000 in
theorem isInner_any (b : UInt8) (w : World) :
    Calls Tryz.prog 50 #[.int .u8 (b.toNat : Int)] w fun e w' => e = .returned (.bool (inn b)) ∧ w = w' := by
  have hi := inn_of b
  obtain ⟨B, hB⟩ : ∃ B, B = inn b := ⟨_, rfl⟩
  rw [← hB] at hi ⊢
  cases h1 : ltr b with
  | true =>
    rw [h1] at hi
    have HB := Lib.hid hi
    have H1 := Lib.hid h1
    clear hi hB h1
    go_enter Tryz.func50, Tryz.ntmps50
    go_wp2_with fail
    refine (isLetter_any b _).mono ?_
    rintro _ wz ⟨rfl, rfl⟩
    rw [H1.out]
    go_wp2_with fail
    go_ret
    exact ⟨by rw [HB.out]; rfl, rfl⟩
  | false =>
    cases h2 : dg b with
    | true =>
      rw [h1, h2] at hi
      have HB := Lib.hid hi
      have H1 := Lib.hid h1
      have H2 := Lib.hid h2
      clear hi hB h1 h2
      go_enter Tryz.func50, Tryz.ntmps50
      go_wp2_with fail
      refine (isLetter_any b _).mono ?_
      rintro _ wz ⟨rfl, rfl⟩
      rw [H1.out]
      go_wp2_with fail
      refine (isDigit_any b _).mono ?_
      rintro _ wz ⟨rfl, rfl⟩
      rw [H2.out]
      go_wp2_with fail
      go_ret
      exact ⟨by rw [HB.out]; rfl, rfl⟩
    | false =>
      cases h3 : decide (b.toNat = 95) with
      | true =>
        have t3 : ((b.toNat : Int) == 95) = true := beq_of (n := 95) h3
        rw [h1, h2, h3] at hi
        have HB := Lib.hid hi
        have H1 := Lib.hid h1
        have H2 := Lib.hid h2
        clear hi hB h1 h2 h3
        go_enter Tryz.func50, Tryz.ntmps50
        go_wp2_with fail
        refine (isLetter_any b _).mono ?_
        rintro _ wz ⟨rfl, rfl⟩
        rw [H1.out]
        go_wp2_with fail
        refine (isDigit_any b _).mono ?_
        rintro _ wz ⟨rfl, rfl⟩
        rw [H2.out]
        go_wp2_with fail
        go_ret
        exact ⟨by rw [HB.out]; rfl, rfl⟩
      | false =>
        have t3 : ((b.toNat : Int) == 95) = false := beq_of (n := 95) h3
        rw [h1, h2, h3] at hi
        have HB := Lib.hid hi
        have H1 := Lib.hid h1
        have H2 := Lib.hid h2
        clear hi hB h1 h2 h3
        go_enter Tryz.func50, Tryz.ntmps50
        go_wp2_with fail
        refine (isLetter_any b _).mono ?_
        rintro _ wz ⟨rfl, rfl⟩
        rw [H1.out]
        go_wp2_with fail
        refine (isDigit_any b _).mono ?_
        rintro _ wz ⟨rfl, rfl⟩
        rw [H2.out]
        go_wp2_with fail
        go_ret
        exact ⟨by rw [HB.out]; rfl, rfl⟩
theorem idot_short {s : ByteArray} (h : s.size ≤ 1) : idot s.data.toList = false := by
  have hl : s.data.toList.length ≤ 1 := h
  match s.data.toList, hl with
  | [], _ => rfl
  | [b], _ => rfl
  | _ :: _ :: _, hl => simp at hl
theorem idot_two {s : ByteArray} (h : 1 < s.size) : idot s.data.toList = (decide (s[0].toNat = 46) && ltr s[1]) := by
  have hl : 1 < s.data.toList.length := h
  match e : s.data.toList, hl with
  | b :: c :: r, _ =>
    have h0 : s.data.toList[0]? = some s[0] := List.getElem?_eq_getElem (show 0 < s.data.toList.length by omega)
    have h1 : s.data.toList[1]? = some s[1] := List.getElem?_eq_getElem (show 1 < s.data.toList.length from h)
    rw [e] at h0 h1
    have e0 : b = s[0] := Option.some.inj h0
    have e1 : c = s[1] := Option.some.inj h1
    show (decide (b = 46) && ltr c) = _
    rw [e0, e1]
    congr 1
    rw [Bool.eq_iff_iff, decide_eq_true_eq, decide_eq_true_eq]
    exact ⟨fun h => by rw [h]; rfl, fun h => UInt8.toNat_inj.1 h⟩
set_option maxHeartbeats 2000000 in
set_option maxRecDepth 100000 in
theorem isInnerDot_any (s : ByteArray) (w : World) :
    Calls Tryz.prog 28 #[.string s] w fun e w' => e = .returned (.bool (idot s.data.toList)) ∧ w = w' := by
  obtain ⟨B, hB⟩ : ∃ B, B = idot s.data.toList := ⟨_, rfl⟩
  rw [← hB]
  by_cases h1 : 1 < s.size
  · have d1 : decide ((1 : Int) < s.size) = true := decide_eq_true (by omega)
    rw [idot_two h1] at hB
    cases h2 : decide (s[0].toNat = 46) with
    | true =>
      have t2 : ((s[0].toNat : Int) == 46) = true := beq_of (n := 46) h2
      rw [h2, Bool.true_and] at hB
      have HB := Lib.hid hB
      clear hB h2
      go_enter Tryz.func28, Tryz.ntmps28
      go_wp2_with fail
      refine (isLetter_any s[1] _).mono ?_
      rintro _ wz ⟨rfl, rfl⟩
      go_wp2_with fail
      go_ret
      exact ⟨by rw [HB.out]; rfl, rfl⟩
    | false =>
      have t2 : ((s[0].toNat : Int) == 46) = false := beq_of (n := 46) h2
      rw [h2, Bool.false_and] at hB
      have HB := Lib.hid hB
      clear hB h2
      go_enter Tryz.func28, Tryz.ntmps28
      go_wp2_with fail
      go_ret
      exact ⟨by rw [HB.out]; rfl, rfl⟩
  · have d1 : decide ((1 : Int) < s.size) = false := decide_eq_false (by omega)
    rw [idot_short (by omega)] at hB
    have HB := Lib.hid hB
    clear hB
    go_enter Tryz.func28, Tryz.ntmps28
    go_wp2_with fail
    go_ret
    exact ⟨by rw [HB.out]; rfl, rfl⟩
theorem trim_fit (l : List UInt8) : full (Lib.trimPrefix l [46]) = fitN l := by
  cases l with
  | nil => rfl
  | cons c r =>
    show _ = if c = 46 then full r else full (c :: r)
    by_cases hc : c = 46
    · subst hc
      rw [if_pos rfl]
      simp [Lib.trimPrefix, Lib.hasPrefix, List.isPrefixOf]
    · rw [if_neg hc]
      simp [Lib.trimPrefix, Lib.hasPrefix, List.isPrefixOf, Ne.symm hc]
set_option maxHeartbeats 2000000 in
set_option maxRecDepth 100000 in
theorem isName_any (s : ByteArray) (w : World) (hL : Tld.Ld w) :
    Calls Tryz.prog 42 #[.string s] w fun e w' => e = .returned (.bool (fitN s.data.toList)) ∧ Below w.heap.size w w' := by
  obtain ⟨B, hB⟩ : ∃ B, B = fitN s.data.toList := ⟨_, rfl⟩
  rw [← hB]
  rw [← trim_fit] at hB
  have HB := Lib.hid hB
  clear hB
  go_enter Tryz.func42, Tryz.ntmps42
  go_wp2_with fail
  refine (Tryz.strings_TrimPrefix s ⟨#[46]⟩ _).mono ?_
  rintro _ w1 ⟨rfl, rfl⟩
  go_wp2_with fail
  refine (IdpA.isFull_any _ _ hL.u).mono ?_
  rintro _ w2 ⟨rfl, hb⟩
  go_wp2_with fail
  go_ret
  exact ⟨by rw [HB.out]; rfl, hb⟩
end Go.Proofs.YtoinfjdhbopefaaGreatDoor.TkpA
