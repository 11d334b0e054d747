/- The contract of Parse of the reference of package scalar, from a contract of double. -/
import Derived.Test.YtgjbpadhdnclnaaGreatDoorScaW
set_option linter.unusedSimpArgs false
set_option linter.unusedVariables false
namespace Go.Proofs.YtgjbpadhdnclnaaGreatDoor.ScaY
open Go.RowKit Nums Byt UtfM UtfQ UtfH UtfS ScaM ScaV ScaA ScaB ScaC ScaD ScaN ScaT ScaW UtfR UtfB UtfK UtfL

def trueL : List UInt8 := [116, 114, 117, 101]
def falseL : List UInt8 := [102, 97, 108, 115, 101]
def boolS (k : Int) (l : List UInt8) : SV × Int := if l = trueL then (nv k 1, 0) else if l = falseL then (nv k 0, 0) else (zv 0, 2)
def bytesS (k : Int) (l : List UInt8) : SV × Int := if l.head? = some 120 then textS k (l.drop 1) else (zv 0, 2)
def parseS (D : List UInt8 → SV × Int) (k : Int) (l : List UInt8) : SV × Int :=
  if isB k = false then (zv 0, 1) else if k = 1 then boolS k l else if k = 6 then D l else if k = 7 then textS k l else if k = 8 then bytesS k l else wholeS k l
/-- What the contract of double says. -/
def DoubleHas (D : List UInt8 → SV × Int) : Prop := ∀ (s : ByteArray), s.size ≤ 35184372088000 → ∀ w : World,
  Calls Tryz.prog 36 #[.string s] w fun e w' => e = .returned (.tuple #[vv (D s.data.toList).1, .int .i64 (D s.data.toList).2]) ∧ Below w.heap.size w w'

set_option maxHeartbeats 4000000 in
set_option maxRecDepth 100000 in
theorem parse_of {D : List UInt8 → SV × Int} (hD : DoubleHas D) (k : Int) (s : ByteArray) (hs : s.size ≤ 35184372088000) (w : World) : Calls Tryz.prog 11 #[.int .i64 k, .string s] w fun e w' => e = .returned (.tuple #[vv (parseS D k s.data.toList).1, .int .i64 (parseS D k s.data.toList).2]) ∧ Below w.heap.size w w' := by
  have hsi : (s.size : Int) ≤ 35184372088000 := by omega
  cases h1 : isB k with
  | false =>
    have hf : parseS D k s.data.toList = (zv 0, 1) := by unfold parseS; rw [if_pos h1]
    have Hf := Lib.hid hf
    have H1 := Lib.hid h1
    clear hf h1 hD
    go_enter Tryz.func11, Tryz.ntmps11
    go_wp2_with fail
    refine (is_any _ _).mono ?_
    rintro _ w1 ⟨rfl, rfl⟩
    rw [H1.out]
    go_wp2_with fail
    exact bodyPost_ret (v := .tuple #[.agg #[.int .i64 0, .int .u64 0, .string ⟨#[]⟩, .slice none 0 0, .slice none 0 0, .slice none 0 0, .slice none 0 0], .int .i64 1]) (by simp [results, Tryz.results11, go_sem]) rfl ⟨ret_ve (by rw [Hf.out]; rfl) (by rw [Hf.out]), below_box _ _⟩
  | true =>
    have H1 := Lib.hid h1
    have hn1 : ¬ isB k = false := by rw [h1]; simp
    clear h1
    by_cases k1 : k = 1
    · have b1 : (k == 1) = true := by rw [k1]; rfl
      have hx : parseS D k s.data.toList = boolS k s.data.toList := by unfold parseS; rw [if_neg hn1, if_pos k1]
      by_cases ht : s.data.toList = trueL
      · have t1 : (s.toList == [116, 114, 117, 101]) = true := by rw [ByteArray.toList_eq, ht]; rfl
        have hf : parseS D k s.data.toList = (nv k 1, 0) := by rw [hx]; unfold boolS; rw [if_pos ht]
        have Hf := Lib.hid hf
        clear hf hx ht k1 hn1 hD
        go_enter Tryz.func11, Tryz.ntmps11
        go_wp2_with fail
        refine (is_any _ _).mono ?_
        rintro _ w1 ⟨rfl, rfl⟩
        rw [H1.out]
        go_wp2_with fail
        exact bodyPost_ret (v := .tuple #[.agg #[.int .i64 k, .int .u64 1, .string ⟨#[]⟩, .slice none 0 0, .slice none 0 0, .slice none 0 0, .slice none 0 0], .int .i64 0]) (by simp [results, Tryz.results11, go_sem]) rfl ⟨ret_ve (by rw [Hf.out]; rfl) (by rw [Hf.out]), below_box _ _⟩
      · have t1 : (s.toList == [116, 114, 117, 101]) = false := by rw [ByteArray.toList_eq, beq_eq_false_iff_ne]; exact ht
        by_cases hg : s.data.toList = falseL
        · have t2 : (s.toList == [102, 97, 108, 115, 101]) = true := by rw [ByteArray.toList_eq, hg]; rfl
          have hf : parseS D k s.data.toList = (nv k 0, 0) := by rw [hx]; unfold boolS; rw [if_neg ht, if_pos hg]
          have Hf := Lib.hid hf
          clear hf hx ht hg k1 hn1 hD
          go_enter Tryz.func11, Tryz.ntmps11
          go_wp2_with fail
          refine (is_any _ _).mono ?_
          rintro _ w1 ⟨rfl, rfl⟩
          rw [H1.out]
          go_wp2_with fail
          exact bodyPost_ret (v := .tuple #[.agg #[.int .i64 k, .int .u64 0, .string ⟨#[]⟩, .slice none 0 0, .slice none 0 0, .slice none 0 0, .slice none 0 0], .int .i64 0]) (by simp [results, Tryz.results11, go_sem]) rfl ⟨ret_ve (by rw [Hf.out]; rfl) (by rw [Hf.out]), below_box _ _⟩
        · have t2 : (s.toList == [102, 97, 108, 115, 101]) = false := by rw [ByteArray.toList_eq, beq_eq_false_iff_ne]; exact hg
          have hf : parseS D k s.data.toList = (zv 0, 2) := by rw [hx]; unfold boolS; rw [if_neg ht, if_neg hg]
          have Hf := Lib.hid hf
          clear hf hx ht hg k1 hn1 hD
          go_enter Tryz.func11, Tryz.ntmps11
          go_wp2_with fail
          refine (is_any _ _).mono ?_
          rintro _ w1 ⟨rfl, rfl⟩
          rw [H1.out]
          go_wp2_with fail
          exact bodyPost_ret (v := .tuple #[.agg #[.int .i64 0, .int .u64 0, .string ⟨#[]⟩, .slice none 0 0, .slice none 0 0, .slice none 0 0, .slice none 0 0], .int .i64 2]) (by simp [results, Tryz.results11, go_sem]) rfl ⟨ret_ve (by rw [Hf.out]; rfl) (by rw [Hf.out]), below_box _ _⟩
    · have b1 : (k == 1) = false := by rw [beq_eq_false_iff_ne]; exact k1
      by_cases k6 : k = 6
      · have b6 : (k == 6) = true := by rw [k6]; rfl
        have hf : parseS D k s.data.toList = D s.data.toList := by unfold parseS; rw [if_neg hn1, if_neg k1, if_pos k6]
        clear k1 k6 hn1
        have hq := hD s hs
        obtain ⟨⟨vk, vb, vt, a1, l1, c1, a2, l2, c2, a3, l3, c3, a4, l4, c4⟩, E, hE⟩ : ∃ V E, D s.data.toList = (V, E) := ⟨_, _, rfl⟩
        rw [hE] at hq hf
        simp only [vv] at hq
        have Hf := Lib.hid hf
        clear hf hE
        go_enter Tryz.func11, Tryz.ntmps11
        go_wp2_with fail
        refine (is_any _ _).mono ?_
        rintro _ w1 ⟨rfl, rfl⟩
        rw [H1.out]
        go_wp2_with fail
        refine (hq _).mono ?_
        rintro _ w2 ⟨rfl, hb2⟩
        obtain ⟨⟨q0, q1, q2, q3, q4, q5, q6⟩, qf, qs, hb0⟩ := cells0 hb2
        clear hb2
        go_wp2_with fail
        exact bodyPost_ret (v := .tuple #[.agg #[.int .i64 vk, .int .u64 vb, .string vt, .slice a1 l1 c1, .slice a2 l2 c2, .slice a3 l3 c3, .slice a4 l4 c4], .int .i64 E]) (by simp [results, Tryz.results11, go_sem, q0, q1, q2, q3, q4, q5, q6]) rfl ⟨ret_ve (by rw [Hf.out]; rfl) (by rw [Hf.out]), below7 hb0 (Nat.le_refl _) _ _ _ _ _ _ _⟩
      · have b6 : (k == 6) = false := by rw [beq_eq_false_iff_ne]; exact k6
        clear hD
        by_cases k7 : k = 7
        · have b7 : (k == 7) = true := by rw [k7]; rfl
          have hf : parseS D k s.data.toList = textS k s.data.toList := by unfold parseS; rw [if_neg hn1, if_neg k1, if_neg k6, if_pos k7]
          clear k1 k6 k7 hn1
          have hq := text_any k s hs
          obtain ⟨⟨vk, vb, vt, a1, l1, c1, a2, l2, c2, a3, l3, c3, a4, l4, c4⟩, E, hE⟩ : ∃ V E, textS k s.data.toList = (V, E) := ⟨_, _, rfl⟩
          rw [hE] at hq hf
          simp only [vv] at hq
          have Hf := Lib.hid hf
          clear hf hE
          go_enter Tryz.func11, Tryz.ntmps11
          go_wp2_with fail
          refine (is_any _ _).mono ?_
          rintro _ w1 ⟨rfl, rfl⟩
          rw [H1.out]
          go_wp2_with fail
          refine (hq _).mono ?_
          rintro _ w2 ⟨rfl, hb2⟩
          obtain ⟨⟨q0, q1, q2, q3, q4, q5, q6⟩, qf, qs, hb0⟩ := cells0 hb2
          clear hb2
          go_wp2_with fail
          exact bodyPost_ret (v := .tuple #[.agg #[.int .i64 vk, .int .u64 vb, .string vt, .slice a1 l1 c1, .slice a2 l2 c2, .slice a3 l3 c3, .slice a4 l4 c4], .int .i64 E]) (by simp [results, Tryz.results11, go_sem, q0, q1, q2, q3, q4, q5, q6]) rfl ⟨ret_ve (by rw [Hf.out]; rfl) (by rw [Hf.out]), below7 hb0 (Nat.le_refl _) _ _ _ _ _ _ _⟩
        · have b7 : (k == 7) = false := by rw [beq_eq_false_iff_ne]; exact k7
          by_cases k8 : k = 8
          · have b8 : (k == 8) = true := by rw [k8]; rfl
            have hx : parseS D k s.data.toList = bytesS k s.data.toList := by unfold parseS; rw [if_neg hn1, if_neg k1, if_neg k6, if_neg k7, if_pos k8]
            by_cases hz : s.size = 0
            · have he := empty_yes hz
              have hf : parseS D k s.data.toList = (zv 0, 2) := by rw [hx]; unfold bytesS; rw [if_neg (by rw [List.eq_nil_of_length_eq_zero (show s.data.toList.length = 0 from hz)]; simp)]
              have Hf := Lib.hid hf
              clear hf hx hz k1 k6 k7 k8 hn1
              go_enter Tryz.func11, Tryz.ntmps11
              go_wp2_with fail
              refine (is_any _ _).mono ?_
              rintro _ w1 ⟨rfl, rfl⟩
              rw [H1.out]
              go_wp2_with fail
              exact bodyPost_ret (v := .tuple #[.agg #[.int .i64 0, .int .u64 0, .string ⟨#[]⟩, .slice none 0 0, .slice none 0 0, .slice none 0 0, .slice none 0 0], .int .i64 2]) (by simp [results, Tryz.results11, go_sem]) rfl ⟨ret_ve (by rw [Hf.out]; rfl) (by rw [Hf.out]), below_box _ _⟩
            · have he := empty_no hz
              have h0s : 0 < s.size := by omega
              have h1s : (1 : Int) ≤ s.size := by omega
              have hhead : s.data.toList.head? = some s[0] := by rw [List.head?_eq_getElem?]; exact lget h0s
              by_cases hc : s[0] = 120
              · have e1 : ((s[0].toNat : Int) == 120) = true := beq_yes hc
                have hDd : (s.extract 1 s.size).data.toList = s.data.toList.drop 1 := drop_data _ _
                have hf : parseS D k s.data.toList = textS k (s.data.toList.drop 1) := by rw [hx]; unfold bytesS; rw [if_pos (by rw [hhead, hc])]
                rw [← hDd] at hf
                clear hx hz k1 k6 k7 k8 hn1 hhead hc hDd
                have hq := text_any k (s.extract 1 s.size) (by rw [ByteArray.size_extract]; omega)
                obtain ⟨⟨vk, vb, vt, a1, l1, c1, a2, l2, c2, a3, l3, c3, a4, l4, c4⟩, E, hE⟩ : ∃ V E, textS k (s.extract 1 s.size).data.toList = (V, E) := ⟨_, _, rfl⟩
                rw [hE] at hq hf
                simp only [vv] at hq
                have Hf := Lib.hid hf
                clear hf hE
                go_enter Tryz.func11, Tryz.ntmps11
                go_wp2_with fail
                refine (is_any _ _).mono ?_
                rintro _ w1 ⟨rfl, rfl⟩
                rw [H1.out]
                go_wp2_with fail
                refine (hq _).mono ?_
                rintro _ w2 ⟨rfl, hb2⟩
                obtain ⟨⟨q0, q1, q2, q3, q4, q5, q6⟩, qf, qs, hb0⟩ := cells0 hb2
                clear hb2
                go_wp2_with fail
                exact bodyPost_ret (v := .tuple #[.agg #[.int .i64 vk, .int .u64 vb, .string vt, .slice a1 l1 c1, .slice a2 l2 c2, .slice a3 l3 c3, .slice a4 l4 c4], .int .i64 E]) (by simp [results, Tryz.results11, go_sem, q0, q1, q2, q3, q4, q5, q6]) rfl ⟨ret_ve (by rw [Hf.out]; rfl) (by rw [Hf.out]), below7 hb0 (Nat.le_refl _) _ _ _ _ _ _ _⟩
              · have e1 : ((s[0].toNat : Int) == 120) = false := beq_no hc
                have hf : parseS D k s.data.toList = (zv 0, 2) := by rw [hx]; unfold bytesS; rw [if_neg (by rw [hhead]; intro h; injection h with h; exact hc h)]
                have Hf := Lib.hid hf
                clear hf hx hz k1 k6 k7 k8 hn1 hhead hc
                go_enter Tryz.func11, Tryz.ntmps11
                go_wp2_with fail
                refine (is_any _ _).mono ?_
                rintro _ w1 ⟨rfl, rfl⟩
                rw [H1.out]
                go_wp2_with fail
                exact bodyPost_ret (v := .tuple #[.agg #[.int .i64 0, .int .u64 0, .string ⟨#[]⟩, .slice none 0 0, .slice none 0 0, .slice none 0 0, .slice none 0 0], .int .i64 2]) (by simp [results, Tryz.results11, go_sem]) rfl ⟨ret_ve (by rw [Hf.out]; rfl) (by rw [Hf.out]), below_box _ _⟩
          · have b8 : (k == 8) = false := by rw [beq_eq_false_iff_ne]; exact k8
            have hf : parseS D k s.data.toList = wholeS k s.data.toList := by unfold parseS; rw [if_neg hn1, if_neg k1, if_neg k6, if_neg k7, if_neg k8]
            clear k1 k6 k7 k8 hn1
            have hq := whole_any k s hs
            obtain ⟨⟨vk, vb, vt, a1, l1, c1, a2, l2, c2, a3, l3, c3, a4, l4, c4⟩, E, hE⟩ : ∃ V E, wholeS k s.data.toList = (V, E) := ⟨_, _, rfl⟩
            rw [hE] at hq hf
            simp only [vv] at hq
            have Hf := Lib.hid hf
            clear hf hE
            go_enter Tryz.func11, Tryz.ntmps11
            go_wp2_with fail
            refine (is_any _ _).mono ?_
            rintro _ w1 ⟨rfl, rfl⟩
            rw [H1.out]
            go_wp2_with fail
            refine (hq _).mono ?_
            rintro _ w2 ⟨rfl, hb2⟩
            obtain ⟨⟨q0, q1, q2, q3, q4, q5, q6⟩, qf, qs, hb0⟩ := cells0 hb2
            clear hb2
            go_wp2_with fail
            exact bodyPost_ret (v := .tuple #[.agg #[.int .i64 vk, .int .u64 vb, .string vt, .slice a1 l1 c1, .slice a2 l2 c2, .slice a3 l3 c3, .slice a4 l4 c4], .int .i64 E]) (by simp [results, Tryz.results11, go_sem, q0, q1, q2, q3, q4, q5, q6]) rfl ⟨ret_ve (by rw [Hf.out]; rfl) (by rw [Hf.out]), below7 hb0 (Nat.le_refl _) _ _ _ _ _ _ _⟩
end Go.Proofs.YtgjbpadhdnclnaaGreatDoor.ScaY
