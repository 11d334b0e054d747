/- The reference of stage 6: the two spellings. -/
import Derived.Test.YtpgikodjfidkkaaDoorIdrA
import Derived.Test.YtpgikodjfidkkaaDoorBytT
set_option linter.unusedSimpArgs false
set_option linter.unusedVariables false
namespace Go.Proofs.YtpgikodjfidkkaaDoor.IdrC
open Go.RowKit Nums IdnM IdnC Uld IdpA IdrA Byt

theorem conv_z (W : World) (z : Int) (c : UInt8) (hz : z = c.toNat) : (convert 44 9 (.slice (some ⟨W.heap.size, 0, none⟩) 1 1)).run Tryd.prog (W.alloc (.cells #[.int .u8 z] 5)) = .ok (.string ⟨#[c]⟩) (W.alloc (.cells #[.int .u8 z] 5)) := by
  subst hz
  exact conv_cells BytT.bytesT Tryd.underlying9 W.heap.size 1 1 [c] rfl (fun i hi => by
    obtain rfl : i = 0 := by simp at hi; omega
    rw [World.cell?_alloc_at _ _ _ _ rfl]; rfl)
theorem one_data (c : UInt8) : (⟨#[c]⟩ : ByteArray).data.toList = [c] := rfl
theorem add_one_size (T : ByteArray) (c : UInt8) : (T ++ (⟨#[c]⟩ : ByteArray)).size = T.size + 1 := by rw [ByteArray.size_append]; rfl
theorem cp_add2 {b : UInt8} (h : cp b = true) : ((b.toNat : Int) - 65 + 97) = ((b + 32).toNat : Int) := by
  simp only [cp, Bool.and_eq_true, decide_eq_true_eq] at h
  rw [UInt8.toNat_add]
  have : (32 : UInt8).toNat = 32 := rfl
  rw [this]
  omega
/-- A byte that begins a piece. -/
def stAt (l : List UInt8) (k : Nat) : Bool := k == 0 || l[k - 1]? == some 95

set_option maxHeartbeats 2000000 in
set_option maxRecDepth 100000 in
theorem camel_def (s : ByteArray) (w : World) :
    Calls Tryd.prog 27 #[.string s] w fun e w' => e = .returned (.string ⟨(camel s.data.toList).toArray⟩) ∧ Below w.heap.size w w' := by
  have hsl : s.data.toList.length = s.size := rfl
  obtain ⟨l, hl⟩ : ∃ l, l = camel s.data.toList := ⟨_, rfl⟩
  rw [← hl]
  cases hn : nmp s.data.toList with
  | false =>
    have hl2 : l = [] := by rw [hl, camel, hn]; rfl
    have Hn := Lib.hid hn
    have Hl := Lib.hid hl2
    clear hn hl hl2
    go_enter Tryd.func27, Tryd.ntmps27
    go_wp2_with fail
    refine (isPart_def s _).mono ?_
    rintro _ w2 ⟨rfl, rfl⟩
    rw [Hn.out]
    go_wp2_with fail
    go_ret
    refine ⟨?_, Below.refl _ _⟩
    rw [Hl.out]
    rfl
  | true =>
    have hs40 : s.size ≤ 40 := nmp_len hn
    have hl2 : l = cam true s.data.toList := by rw [hl, camel, hn]; rfl
    have Hl := Lib.hid hl2
    have Hn := Lib.hid hn
    clear hn hl hl2
    go_enter Tryd.func27, Tryd.ntmps27
    go_wp2_with fail
    refine (isPart_def s _).mono ?_
    rintro _ w2 ⟨rfl, rfl⟩
    rw [Hn.out]
    go_wp2_with fail
    go_loopw [3, 4] (fun tv iv wr => ∃ (k : Nat) (T : ByteArray), k ≤ s.size ∧ T.size ≤ k ∧ tv = .string T ∧ iv = .int .i64 k ∧ Hid (T.data.toList ++ cam (stAt s.data.toList k) (s.data.toList.drop k) = l) ∧ Hid (Below w.heap.size w wr)) (fun _ iv _ => s.size - (intOf iv).toNat)
    case atStart => exact ⟨0, ⟨#[]⟩, by omega, Nat.le_refl _, rfl, rfl, Lib.hid (by rw [Hl.out]; rfl), Lib.hid (Below.refl _ _)⟩
    case round =>
      obtain ⟨k, T, hk, hT, rfl, rfl, HC, HB⟩ := hrel
      by_cases hlt : k < s.size
      · have hdr : s.data.toList.drop k = s[k] :: s.data.toList.drop (k + 1) := List.drop_eq_getElem_cons (show k < s.data.toList.length from hlt)
        have hgk : s.data.toList[k]? = some s[k] := List.getElem?_eq_getElem (show k < s.data.toList.length from hlt)
        have hC := HC.out
        rw [hdr, cam] at hC
        have hst1 : stAt s.data.toList (k + 1) = decide (s[k] = 95) := by
          rw [stAt, Nat.add_sub_cancel, hgk]
          by_cases h : s[k] = 95 <;> simp [h]
        clear HC
        have hkk : (k : Int) + 1 ≤ s.size := by omega
        have hkk2 : (k : Int) ≤ s.size := by omega
        by_cases hb : s[k] = 95
        · have hbn : ((s[k].toNat : Int) == 95) = true := by rw [hb]; rfl
          rw [if_pos hb] at hC
          have HC : Hid (T.data.toList ++ cam (stAt s.data.toList (k + 1)) (s.data.toList.drop (k + 1)) = l) := Lib.hid (by rw [hst1, ← hC, hb]; rfl)
          have HTs : Hid (T.size ≤ k + 1) := Lib.hid (by omega)
          clear hC hst1 hb hdr hgk
          go_wp2_with fail
          exact ⟨⟨k + 1, _, by omega, HTs.out, rfl, by go_num, HC, HB⟩, by simp [intOf]; omega⟩
        · have hbn : ((s[k].toNat : Int) == 95) = false := by
            rw [beq_eq_false_iff_ne]
            intro e
            exact hb (UInt8.toNat_inj.1 (show s[k].toNat = 95 by omega))
          have hst2 : stAt s.data.toList (k + 1) = false := by rw [hst1]; simp [hb]
          rw [if_neg hb] at hC
          have hT1 : T.size + 1 ≤ 9223372036854775807 := by omega
          cases hsm : sm s[k] with
          | false =>
            rw [hsm, Bool.and_false, if_neg (by simp)] at hC
            have hxs : (s.extract k (k + 1)).size = 1 := by rw [ByteArray.size_extract]; omega
            have hsum : T.size + (s.extract k (k + 1)).size ≤ 9223372036854775807 := by omega
            have HC : Hid ((T ++ s.extract k (k + 1)).data.toList ++ cam (stAt s.data.toList (k + 1)) (s.data.toList.drop (k + 1)) = l) := Lib.hid (by rw [hst2, append_toList, ext_one hlt, ← hC]; simp)
            have HTs : Hid ((T ++ s.extract k (k + 1)).size ≤ k + 1) := Lib.hid (by rw [ByteArray.size_append]; omega)
            have HS := Lib.hid hsm
            clear hC hst2 hdr hb hgk hst1 hsm
            go_wp2_with fail
            refine (small_any s[k] _).mono ?_
            rintro _ w2 ⟨rfl, rfl⟩
            rw [HS.out]
            go_wp2_with fail
            exact ⟨⟨k + 1, _, by omega, HTs.out, rfl, by go_num, HC, HB⟩, by simp [intOf]; omega⟩
          | true =>
            rw [hsm, Bool.and_true] at hC
            by_cases hk0 : k = 0
            · have t0 : ((k : Int) == 0) = true := by rw [hk0]; rfl
              have hst : stAt s.data.toList k = true := by rw [hk0]; rfl
              rw [hst, if_pos rfl] at hC
              clear hst hk0
              have hsub := sm_sub hsm
              have hsm2 := hsm
              simp only [sm, Bool.and_eq_true, decide_eq_true_eq] at hsm2
              have hz : (s[k].toNat : Int) - 97 + 65 = ((s[k] - 32).toNat : Int) := by rw [hsub]; omega
              have hcv := fun W => conv_z W _ _ hz
              have hxs : (⟨#[s[k] - 32]⟩ : ByteArray).size = 1 := rfl
              have hsum : T.size + (⟨#[s[k] - 32]⟩ : ByteArray).size ≤ 9223372036854775807 := by omega
              have HC : Hid ((T ++ (⟨#[s[k] - 32]⟩ : ByteArray)).data.toList ++ cam (stAt s.data.toList (k + 1)) (s.data.toList.drop (k + 1)) = l) := Lib.hid (by rw [hst2, append_toList, one_data, ← hC]; simp)
              have HTs : Hid ((T ++ (⟨#[s[k] - 32]⟩ : ByteArray)).size ≤ k + 1) := Lib.hid (by rw [add_one_size]; omega)
              have HS := Lib.hid hsm
              clear hC hst2 hdr hb hgk hst1 hsm hsub hz
              go_wp2_with fail
              refine (small_any s[k] _).mono ?_
              rintro _ w2 ⟨rfl, rfl⟩
              rw [HS.out]
              go_wp2_with fail
              exact ⟨⟨k + 1, _, by omega, HTs.out, rfl, by go_num, HC, Lib.hid (HB.out.alloc HB.out.size _)⟩, by simp [intOf]; omega⟩
            · have t0 : ((k : Int) == 0) = false := by rw [beq_eq_false_iff_ne]; omega
              have hkm : k - 1 < s.size := by omega
              have hkc : ((k : Int) - 1) = ((k - 1 : Nat) : Int) := by omega
              have hgm : s.data.toList[k - 1]? = some s[k - 1] := List.getElem?_eq_getElem (show k - 1 < s.data.toList.length from hkm)
              have hst : stAt s.data.toList k = decide (s[k - 1] = 95) := by
                rw [stAt, hgm]
                by_cases h : s[k - 1] = 95 <;> simp [h, hk0]
              by_cases hb1 : s[k - 1] = 95
              · have t1 : ((s[k - 1].toNat : Int) == 95) = true := by rw [hb1]; rfl
                rw [hst, hb1] at hC
                rw [if_pos (by simp)] at hC
                clear hgm hst hb1
                have hsub := sm_sub hsm
                have hsm2 := hsm
                simp only [sm, Bool.and_eq_true, decide_eq_true_eq] at hsm2
                have hz : (s[k].toNat : Int) - 97 + 65 = ((s[k] - 32).toNat : Int) := by rw [hsub]; omega
                have hcv := fun W => conv_z W _ _ hz
                have hxs : (⟨#[s[k] - 32]⟩ : ByteArray).size = 1 := rfl
                have hsum : T.size + (⟨#[s[k] - 32]⟩ : ByteArray).size ≤ 9223372036854775807 := by omega
                have HC : Hid ((T ++ (⟨#[s[k] - 32]⟩ : ByteArray)).data.toList ++ cam (stAt s.data.toList (k + 1)) (s.data.toList.drop (k + 1)) = l) := Lib.hid (by rw [hst2, append_toList, one_data, ← hC]; simp)
                have HTs : Hid ((T ++ (⟨#[s[k] - 32]⟩ : ByteArray)).size ≤ k + 1) := Lib.hid (by rw [add_one_size]; omega)
                have HS := Lib.hid hsm
                clear hC hst2 hdr hb hgk hst1 hsm hsub hz
                go_wp2_with fail
                refine (small_any s[k] _).mono ?_
                rintro _ w2 ⟨rfl, rfl⟩
                rw [HS.out]
                go_wp2_with fail
                exact ⟨⟨k + 1, _, by omega, HTs.out, rfl, by go_num, HC, Lib.hid (HB.out.alloc HB.out.size _)⟩, by simp [intOf]; omega⟩
              · have t1 : ((s[k - 1].toNat : Int) == 95) = false := by
                  rw [beq_eq_false_iff_ne]
                  intro e
                  exact hb1 (UInt8.toNat_inj.1 (show s[k - 1].toNat = 95 by omega))
                rw [hst, if_neg (by simp [hb1])] at hC
                clear hgm hst hb1
                have hxs : (s.extract k (k + 1)).size = 1 := by rw [ByteArray.size_extract]; omega
                have hsum : T.size + (s.extract k (k + 1)).size ≤ 9223372036854775807 := by omega
                have HC : Hid ((T ++ s.extract k (k + 1)).data.toList ++ cam (stAt s.data.toList (k + 1)) (s.data.toList.drop (k + 1)) = l) := Lib.hid (by rw [hst2, append_toList, ext_one hlt, ← hC]; simp)
                have HTs : Hid ((T ++ s.extract k (k + 1)).size ≤ k + 1) := Lib.hid (by rw [ByteArray.size_append]; omega)
                have HS := Lib.hid hsm
                clear hC hst2 hdr hb hgk hst1 hsm
                go_wp2_with fail
                refine (small_any s[k] _).mono ?_
                rintro _ w2 ⟨rfl, rfl⟩
                rw [HS.out]
                go_wp2_with fail
                exact ⟨⟨k + 1, _, by omega, HTs.out, rfl, by go_num, HC, HB⟩, by simp [intOf]; omega⟩
      · obtain rfl : k = s.size := by omega
        have hl2 : l = T.data.toList := by
          rw [← HC.out, List.drop_of_length_le (Nat.le_of_eq hsl)]
          simp [cam]
        have Hl2 := Lib.hid hl2
        clear hl2
        go_wp2_with fail
        go_ret
        refine ⟨?_, HB.out⟩
        rw [Hl2.out]
        rfl

set_option maxHeartbeats 2000000 in
set_option maxRecDepth 100000 in
theorem snake_def (s : ByteArray) (w : World) :
    Calls Tryd.prog 29 #[.string s] w fun e w' => e = .returned (.string ⟨(snake s.data.toList).toArray⟩) ∧ Below w.heap.size w w' := by
  have hsl : s.data.toList.length = s.size := rfl
  obtain ⟨l, hl⟩ : ∃ l, l = snake s.data.toList := ⟨_, rfl⟩
  rw [← hl]
  cases hn : nmp s.data.toList with
  | false =>
    have hl2 : l = [] := by rw [hl, snake, hn]; rfl
    have Hn := Lib.hid hn
    have Hl := Lib.hid hl2
    clear hn hl hl2
    go_enter Tryd.func29, Tryd.ntmps29
    go_wp2_with fail
    refine (isPart_def s _).mono ?_
    rintro _ w2 ⟨rfl, rfl⟩
    rw [Hn.out]
    go_wp2_with fail
    go_ret
    refine ⟨?_, Below.refl _ _⟩
    rw [Hl.out]
    rfl
  | true =>
    have hs40 : s.size ≤ 40 := nmp_len hn
    have hl2 : l = snk true s.data.toList := by rw [hl, snake, hn]; rfl
    have Hl := Lib.hid hl2
    have Hn := Lib.hid hn
    clear hn hl hl2
    go_enter Tryd.func29, Tryd.ntmps29
    go_wp2_with fail
    refine (isPart_def s _).mono ?_
    rintro _ w2 ⟨rfl, rfl⟩
    rw [Hn.out]
    go_wp2_with fail
    go_loopw [3, 4] (fun tv iv wr => ∃ (k : Nat) (T : ByteArray), k ≤ s.size ∧ T.size ≤ 2 * k ∧ tv = .string T ∧ iv = .int .i64 k ∧ Hid (T.data.toList ++ snk (k == 0) (s.data.toList.drop k) = l) ∧ Hid (Below w.heap.size w wr)) (fun _ iv _ => s.size - (intOf iv).toNat)
    case atStart => exact ⟨0, ⟨#[]⟩, by omega, Nat.le_refl _, rfl, rfl, Lib.hid (by rw [Hl.out]; rfl), Lib.hid (Below.refl _ _)⟩
    case round =>
      obtain ⟨k, T, hk, hT, rfl, rfl, HC, HB⟩ := hrel
      by_cases hlt : k < s.size
      · have hdr : s.data.toList.drop k = s[k] :: s.data.toList.drop (k + 1) := List.drop_eq_getElem_cons (show k < s.data.toList.length from hlt)
        have hC := HC.out
        rw [hdr, snk] at hC
        have hst2 : ((k + 1 : Nat) == 0) = false := by simp
        clear HC
        have hkk : (k : Int) + 1 ≤ s.size := by omega
        have hkk2 : (k : Int) ≤ s.size := by omega
        have hT1 : T.size + 1 ≤ 9223372036854775807 := by omega
        cases hcp : cp s[k] with
        | false =>
          rw [hcp, if_neg (by simp)] at hC
          have hxs : (s.extract k (k + 1)).size = 1 := by rw [ByteArray.size_extract]; omega
          have hsum : T.size + (s.extract k (k + 1)).size ≤ 9223372036854775807 := by omega
          have HC : Hid ((T ++ s.extract k (k + 1)).data.toList ++ snk ((k + 1 : Nat) == 0) (s.data.toList.drop (k + 1)) = l) := Lib.hid (by rw [hst2, append_toList, ext_one hlt, ← hC]; simp)
          have HTs : Hid ((T ++ s.extract k (k + 1)).size ≤ 2 * (k + 1)) := Lib.hid (by rw [ByteArray.size_append]; omega)
          have HS := Lib.hid hcp
          clear hC hst2 hdr hcp
          go_wp2_with fail
          refine (capital_any s[k] _).mono ?_
          rintro _ w2 ⟨rfl, rfl⟩
          rw [HS.out]
          go_wp2_with fail
          exact ⟨⟨k + 1, _, by omega, HTs.out, rfl, by go_num, HC, HB⟩, by simp [intOf]; omega⟩
        | true =>
          rw [hcp, if_pos rfl] at hC
          by_cases hk0 : k = 0
          · have d0 : decide (0 < k) = false := decide_eq_false (by omega)
            rw [show (k == 0) = true by rw [hk0]; rfl, if_pos rfl] at hC
            clear hk0
            have hadd := cp_add2 hcp
            have hcp2 := hcp
            simp only [cp, Bool.and_eq_true, decide_eq_true_eq] at hcp2
            have hcv := fun W => conv_z W _ _ hadd
            have hxs : (⟨#[s[k] + 32]⟩ : ByteArray).size = 1 := rfl
            have hxs2 : (⟨#[95]⟩ : ByteArray).size = 1 := rfl

            have hsum : T.size + (⟨#[s[k] + 32]⟩ : ByteArray).size ≤ 9223372036854775807 := by omega
            have HC : Hid ((T ++ (⟨#[s[k] + 32]⟩ : ByteArray)).data.toList ++ snk ((k + 1 : Nat) == 0) (s.data.toList.drop (k + 1)) = l) := Lib.hid (by rw [hst2, append_toList, one_data, ← hC]; simp)
            have HTs : Hid ((T ++ (⟨#[s[k] + 32]⟩ : ByteArray)).size ≤ 2 * (k + 1)) := Lib.hid (by rw [add_one_size]; omega)
            have HS := Lib.hid hcp
            clear hC hst2 hdr hcp hadd
            go_wp2_with fail
            refine (capital_any s[k] _).mono ?_
            rintro _ w2 ⟨rfl, rfl⟩
            rw [HS.out]
            go_wp2_with fail
            exact ⟨⟨k + 1, _, by omega, HTs.out, rfl, by go_num, HC, Lib.hid (HB.out.alloc HB.out.size _)⟩, by simp [intOf]; omega⟩
          · have d0 : decide (0 < k) = true := decide_eq_true (by omega)
            rw [show (k == 0) = false by simp [hk0], if_neg (by simp)] at hC
            clear hk0
            have hadd := cp_add2 hcp
            have hcp2 := hcp
            simp only [cp, Bool.and_eq_true, decide_eq_true_eq] at hcp2
            have hcv := fun W => conv_z W _ _ hadd
            have hxs : (⟨#[s[k] + 32]⟩ : ByteArray).size = 1 := rfl
            have hxs2 : (⟨#[95]⟩ : ByteArray).size = 1 := rfl
            have hsum0 : T.size + (⟨#[95]⟩ : ByteArray).size ≤ 9223372036854775807 := by omega
            have hsum : (T ++ (⟨#[95]⟩ : ByteArray)).size + (⟨#[s[k] + 32]⟩ : ByteArray).size ≤ 9223372036854775807 := by rw [ByteArray.size_append]; omega
            have HC : Hid (((T ++ (⟨#[95]⟩ : ByteArray)) ++ (⟨#[s[k] + 32]⟩ : ByteArray)).data.toList ++ snk ((k + 1 : Nat) == 0) (s.data.toList.drop (k + 1)) = l) := Lib.hid (by rw [hst2, append_toList, one_data, append_toList, one_data, ← hC]; simp)
            have HTs : Hid (((T ++ (⟨#[95]⟩ : ByteArray)) ++ (⟨#[s[k] + 32]⟩ : ByteArray)).size ≤ 2 * (k + 1)) := Lib.hid (by rw [add_one_size, add_one_size]; omega)
            have HS := Lib.hid hcp
            clear hC hst2 hdr hcp hadd
            go_wp2_with fail
            refine (capital_any s[k] _).mono ?_
            rintro _ w2 ⟨rfl, rfl⟩
            rw [HS.out]
            go_wp2_with fail
            exact ⟨⟨k + 1, _, by omega, HTs.out, rfl, by go_num, HC, Lib.hid (HB.out.alloc HB.out.size _)⟩, by simp [intOf]; omega⟩
      · obtain rfl : k = s.size := by omega
        have hl2 : l = T.data.toList := by
          rw [← HC.out, List.drop_of_length_le (Nat.le_of_eq hsl)]
          simp [snk]
        have Hl2 := Lib.hid hl2
        clear hl2
        go_wp2_with fail
        go_ret
        refine ⟨?_, HB.out⟩
        rw [Hl2.out]
        rfl

end Go.Proofs.YtpgikodjfidkkaaDoor.IdrC
