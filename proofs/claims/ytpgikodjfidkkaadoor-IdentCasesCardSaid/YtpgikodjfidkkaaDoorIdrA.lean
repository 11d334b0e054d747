/- The reference of stage 6: letters, parts, full names. -/
import Derived.Test.YtpgikodjfidkkaaDoorIdpA
set_option linter.unusedSimpArgs false
set_option linter.unusedVariables false
namespace Go.Proofs.YtpgikodjfidkkaaDoor.IdrA
open Go.RowKit Nums IdnM IdnC Uld IdpA

set_option maxHeartbeats 2000000 in
set_option maxRecDepth 100000 in
theorem small_any (b : UInt8) (w : World) :
    Calls Tryd.prog 32 #[.int .u8 (b.toNat : Int)] w fun e w' => e = .returned (.bool (sm b)) ∧ w = w' := by
  have hc : sm b = (decide (97 ≤ b.toNat) && decide (b.toNat ≤ 122)) := rfl
  obtain ⟨n, hn⟩ : ∃ n, n = b.toNat := ⟨_, rfl⟩
  rw [← hn] at hc ⊢
  have Hc := Lib.hid hc
  clear hc hn
  go_enter Tryd.func32, Tryd.ntmps32
  go_wp2_with fail
  all_goals go_ret
  all_goals
    refine ⟨ret_bool ?_, rfl⟩
    rw [Hc.out]
    clear Hc
    try simp only [beq_iff_eq, decide_eq_true_eq, decide_eq_false_iff_not, Int.not_le, Bool.not_eq_true, ge_iff_le] at *
    rw [Bool.eq_iff_iff]
    simp only [Bool.and_eq_true, decide_eq_true_eq]
    constructor <;> intros <;> first | omega | (exfalso; omega) | simp_all | (refine ⟨?_, ?_⟩ <;> omega)

set_option maxHeartbeats 2000000 in
set_option maxRecDepth 100000 in
theorem capital_any (b : UInt8) (w : World) :
    Calls Tryd.prog 33 #[.int .u8 (b.toNat : Int)] w fun e w' => e = .returned (.bool (cp b)) ∧ w = w' := by
  have hc : cp b = (decide (65 ≤ b.toNat) && decide (b.toNat ≤ 90)) := rfl
  obtain ⟨n, hn⟩ : ∃ n, n = b.toNat := ⟨_, rfl⟩
  rw [← hn] at hc ⊢
  have Hc := Lib.hid hc
  clear hc hn
  go_enter Tryd.func33, Tryd.ntmps33
  go_wp2_with fail
  all_goals go_ret
  all_goals
    refine ⟨ret_bool ?_, rfl⟩
    rw [Hc.out]
    clear Hc
    try simp only [beq_iff_eq, decide_eq_true_eq, decide_eq_false_iff_not, Int.not_le, Bool.not_eq_true, ge_iff_le] at *
    rw [Bool.eq_iff_iff]
    simp only [Bool.and_eq_true, decide_eq_true_eq]
    constructor <;> intros <;> first | omega | (exfalso; omega) | simp_all | (refine ⟨?_, ?_⟩ <;> omega)

theorem inn_parts (b : UInt8) : inn b = (sm b || cp b || us b || dg b) := by
  unfold inn
  cases sm b <;> cases cp b <;> cases dg b <;> cases us b <;> rfl
theorem n95 {b : UInt8} {v : Bool} (h : us b = v) : ((b.toNat : Int) != 95) = !v := by
  rw [← h, us, Bool.eq_iff_iff, bne_iff_ne, Bool.not_eq_true', decide_eq_false_iff_not]
  omega
theorem t95 {b : UInt8} {v : Bool} (h : us b = v) : ((b.toNat : Int) == 95) = v := by
  rw [← h, us, Bool.eq_iff_iff, beq_iff_eq, decide_eq_true_eq]
  omega
set_option maxHeartbeats 2000000 in
set_option maxRecDepth 100000 in
theorem isPart_def (s : ByteArray) (w : World) :
    Calls Tryd.prog 12 #[.string s] w fun e w' => e = .returned (.bool (nmp s.data.toList)) ∧ w = w' := by
  have hsl : s.data.toList.length = s.size := rfl
  obtain ⟨p, hp⟩ : ∃ p, p = nmp s.data.toList := ⟨_, rfl⟩
  rw [← hp]
  by_cases h0 : s.size = 0
  · have he : ((s.size : Int) == 0) = true := by rw [h0]; rfl
    have hpf : p = false := by
      rw [hp]
      have : s.data.toList = [] := List.length_eq_zero_iff.1 (by omega)
      rw [this]; rfl
    clear hp
    subst hpf
    go_enter Tryd.func12, Tryd.ntmps12
    go_wp2_with fail
    go_ret
    exact ⟨rfl, rfl⟩
  · have he : ((s.size : Int) == 0) = false := by rw [beq_eq_false_iff_ne]; omega
    by_cases h40 : 40 < s.size
    · have hd : decide ((40 : Int) < s.size) = true := decide_eq_true (by omega)
      have hpf : p = false := by rw [hp]; exact nmp_long (by omega)
      clear hp
      subst hpf
      go_enter Tryd.func12, Tryd.ntmps12
      go_wp2_with fail
      go_ret
      exact ⟨rfl, rfl⟩
    · have hd : decide ((40 : Int) < s.size) = false := decide_eq_false (by omega)
      have hpos : 0 < s.size := by omega
      have hg0 : s.data.toList[0]'(by omega) = s[0] := rfl
      cases hs0 : sm s[0] with
      | false =>
        cases hc0 : cp s[0] with
        | false =>
          have hpf : p = false := by
            rw [hp]
            exact nmp_bad (k := 0) hpos (by rw [hg0, okAt, if_pos rfl, ltr, hs0, hc0]; rfl)
          have Hs := Lib.hid hs0
          have Hc := Lib.hid hc0
          clear hp hs0 hc0 hg0
          subst hpf
          go_enter Tryd.func12, Tryd.ntmps12
          go_wp2_with fail
          refine (small_any s[0] _).mono ?_
          rintro _ w2 ⟨rfl, rfl⟩
          rw [Hs.out]
          go_wp2_with fail
          refine (capital_any s[0] _).mono ?_
          rintro _ w2 ⟨rfl, rfl⟩
          rw [Hc.out]
          go_wp2_with fail
          go_ret
          exact ⟨rfl, rfl⟩
        | true =>
          have hok0 : okAt 0 s[0] = true := by rw [okAt, if_pos rfl, ltr, hs0, hc0]; rfl
          have Hok0 := Lib.hid hok0
          have Hs := Lib.hid hs0
          have Hc := Lib.hid hc0
          have Hp := Lib.hid hp
          clear hp hs0 hc0 hg0 hok0
          go_enter Tryd.func12, Tryd.ntmps12
          go_wp2_with fail
          refine (small_any s[0] _).mono ?_
          rintro _ w2 ⟨rfl, rfl⟩
          rw [Hs.out]
          go_wp2_with fail
          refine (capital_any s[0] _).mono ?_
          rintro _ w2 ⟨rfl, rfl⟩
          rw [Hc.out]
          go_wp2_with fail
          go_loop [3] (fun i => ∃ k : Nat, k ≤ s.size ∧ 1 ≤ k ∧ i = .int .i64 k ∧ Hid (∀ (j : Nat) (h : j < s.data.toList.length), j < k → okAt j s.data.toList[j] = true)) (fun i => s.size - (intOf i).toNat)
          case atStart => exact ⟨1, by omega, Nat.le_refl _, rfl, Lib.hid (fun j h hj => by
            obtain rfl : j = 0 := by omega
            exact Hok0.out)⟩
          case round =>
            obtain ⟨k, hk, hk1, rfl, Hk⟩ := hrel
            by_cases hlt : k < s.size
            · have hin : inn s[k] = (sm s[k] || cp s[k] || us s[k] || dg s[k]) := inn_parts _
              have hgk : s.data.toList[k]'hlt = s[k] := rfl
              have hokk : okAt k s[k] = inn s[k] := by rw [okAt, if_neg (by omega)]
              have hnext : inn s[k] = true → ∀ (j : Nat) (h : j < s.data.toList.length), j < k + 1 → okAt j s.data.toList[j] = true := by
                intro hi j h hj
                rcases Nat.lt_or_ge j k with h5 | h5
                · exact Hk.out j h h5
                · obtain rfl : j = k := by omega
                  exact hokk.trans hi
              cases h1 : sm s[k] with
              | true =>
                have Hn := Lib.hid (hnext (by rw [hin, h1]; rfl))
                have H1 := Lib.hid h1
                clear hin hgk hokk hnext h1
                go_wp2_with fail
                refine (small_any s[k] _).mono ?_
                rintro _ w2 ⟨rfl, rfl⟩
                rw [H1.out]
                go_wp2_with fail
                exact ⟨⟨k + 1, by omega, by omega, by go_num, Hn⟩, by simp [intOf]; omega⟩
              | false =>
                cases h2 : cp s[k] with
                | true =>
                  have Hn := Lib.hid (hnext (by rw [hin, h1, h2]; rfl))
                  have H1 := Lib.hid h1
                  have H2 := Lib.hid h2
                  clear hin hgk hokk hnext h1 h2
                  go_wp2_with fail
                  refine (small_any s[k] _).mono ?_
                  rintro _ w2 ⟨rfl, rfl⟩
                  rw [H1.out]
                  go_wp2_with fail
                  refine (capital_any s[k] _).mono ?_
                  rintro _ w2 ⟨rfl, rfl⟩
                  rw [H2.out]
                  go_wp2_with fail
                  exact ⟨⟨k + 1, by omega, by omega, by go_num, Hn⟩, by simp [intOf]; omega⟩
                | false =>
                  cases h3 : us s[k] with
                  | true =>
                    have Hn := Lib.hid (hnext (by rw [hin, h1, h2, h3]; rfl))
                    have e3 := n95 h3
                    have H1 := Lib.hid h1
                    have H2 := Lib.hid h2
                    clear hin hgk hokk hnext h1 h2 h3
                    go_wp2_with fail
                    refine (small_any s[k] _).mono ?_
                    rintro _ w2 ⟨rfl, rfl⟩
                    rw [H1.out]
                    go_wp2_with fail
                    refine (capital_any s[k] _).mono ?_
                    rintro _ w2 ⟨rfl, rfl⟩
                    rw [H2.out]
                    go_wp2_with fail
                    exact ⟨⟨k + 1, by omega, by omega, by go_num, Hn⟩, by simp [intOf]; omega⟩
                  | false =>
                    have e3 := n95 h3
                    cases h4 : dg s[k] with
                    | true =>
                      have Hn := Lib.hid (hnext (by rw [hin, h1, h2, h3, h4]; rfl))
                      simp only [dg, Bool.and_eq_true, decide_eq_true_eq] at h4
                      have e4 : decide ((s[k].toNat : Int) < 48) = false := decide_eq_false (by omega)
                      have e5 : decide ((57 : Int) < s[k].toNat) = false := decide_eq_false (by omega)
                      have H1 := Lib.hid h1
                      have H2 := Lib.hid h2
                      clear hin hgk hokk hnext h1 h2 h3 h4
                      go_wp2_with fail
                      refine (small_any s[k] _).mono ?_
                      rintro _ w2 ⟨rfl, rfl⟩
                      rw [H1.out]
                      go_wp2_with fail
                      refine (capital_any s[k] _).mono ?_
                      rintro _ w2 ⟨rfl, rfl⟩
                      rw [H2.out]
                      go_wp2_with fail
                      exact ⟨⟨k + 1, by omega, by omega, by go_num, Hn⟩, by simp [intOf]; omega⟩
                    | false =>
                      have hpf : p = false := by
                        rw [Hp.out]
                        exact nmp_bad (k := k) hlt (hokk.trans (by rw [hin, h1, h2, h3, h4]; rfl))
                      have H1 := Lib.hid h1
                      have H2 := Lib.hid h2
                      clear Hp hin hgk hokk hnext h1 h2 h3
                      subst hpf
                      by_cases h5 : s[k].toNat < 48
                      · have e4 : decide ((s[k].toNat : Int) < 48) = true := decide_eq_true (by omega)
                        clear h4 h5
                        go_wp2_with fail
                        refine (small_any s[k] _).mono ?_
                        rintro _ w2 ⟨rfl, rfl⟩
                        rw [H1.out]
                        go_wp2_with fail
                        refine (capital_any s[k] _).mono ?_
                        rintro _ w2 ⟨rfl, rfl⟩
                        rw [H2.out]
                        go_wp2_with fail
                        go_ret
                        exact ⟨rfl, rfl⟩
                      · have e4 : decide ((s[k].toNat : Int) < 48) = false := decide_eq_false (by omega)
                        have e5 : decide ((57 : Int) < s[k].toNat) = true := by
                          refine decide_eq_true ?_
                          simp only [dg] at h4
                          simp at h4
                          omega
                        clear h4 h5
                        go_wp2_with fail
                        refine (small_any s[k] _).mono ?_
                        rintro _ w2 ⟨rfl, rfl⟩
                        rw [H1.out]
                        go_wp2_with fail
                        refine (capital_any s[k] _).mono ?_
                        rintro _ w2 ⟨rfl, rfl⟩
                        rw [H2.out]
                        go_wp2_with fail
                        go_ret
                        exact ⟨rfl, rfl⟩
            · obtain rfl : k = s.size := by omega
              have hpt : p = true := by
                rw [Hp.out]
                exact nmp_iff.2 ⟨by omega, by omega, fun j h => Hk.out j h h⟩
              clear Hp
              subst hpt
              go_wp2_with fail
              go_ret
              exact ⟨rfl, rfl⟩
      | true =>
        have hok0 : okAt 0 s[0] = true := by rw [okAt, if_pos rfl, ltr, hs0]; rfl
        have Hok0 := Lib.hid hok0
        have Hs := Lib.hid hs0
        have Hp := Lib.hid hp
        clear hp hs0 hg0 hok0
        go_enter Tryd.func12, Tryd.ntmps12
        go_wp2_with fail
        refine (small_any s[0] _).mono ?_
        rintro _ w2 ⟨rfl, rfl⟩
        rw [Hs.out]
        go_wp2_with fail
        go_loop [3] (fun i => ∃ k : Nat, k ≤ s.size ∧ 1 ≤ k ∧ i = .int .i64 k ∧ Hid (∀ (j : Nat) (h : j < s.data.toList.length), j < k → okAt j s.data.toList[j] = true)) (fun i => s.size - (intOf i).toNat)
        case atStart => exact ⟨1, by omega, Nat.le_refl _, rfl, Lib.hid (fun j h hj => by
          obtain rfl : j = 0 := by omega
          exact Hok0.out)⟩
        case round =>
          obtain ⟨k, hk, hk1, rfl, Hk⟩ := hrel
          by_cases hlt : k < s.size
          · have hin : inn s[k] = (sm s[k] || cp s[k] || us s[k] || dg s[k]) := inn_parts _
            have hgk : s.data.toList[k]'hlt = s[k] := rfl
            have hokk : okAt k s[k] = inn s[k] := by rw [okAt, if_neg (by omega)]
            have hnext : inn s[k] = true → ∀ (j : Nat) (h : j < s.data.toList.length), j < k + 1 → okAt j s.data.toList[j] = true := by
              intro hi j h hj
              rcases Nat.lt_or_ge j k with h5 | h5
              · exact Hk.out j h h5
              · obtain rfl : j = k := by omega
                exact hokk.trans hi
            cases h1 : sm s[k] with
            | true =>
              have Hn := Lib.hid (hnext (by rw [hin, h1]; rfl))
              have H1 := Lib.hid h1
              clear hin hgk hokk hnext h1
              go_wp2_with fail
              refine (small_any s[k] _).mono ?_
              rintro _ w2 ⟨rfl, rfl⟩
              rw [H1.out]
              go_wp2_with fail
              exact ⟨⟨k + 1, by omega, by omega, by go_num, Hn⟩, by simp [intOf]; omega⟩
            | false =>
              cases h2 : cp s[k] with
              | true =>
                have Hn := Lib.hid (hnext (by rw [hin, h1, h2]; rfl))
                have H1 := Lib.hid h1
                have H2 := Lib.hid h2
                clear hin hgk hokk hnext h1 h2
                go_wp2_with fail
                refine (small_any s[k] _).mono ?_
                rintro _ w2 ⟨rfl, rfl⟩
                rw [H1.out]
                go_wp2_with fail
                refine (capital_any s[k] _).mono ?_
                rintro _ w2 ⟨rfl, rfl⟩
                rw [H2.out]
                go_wp2_with fail
                exact ⟨⟨k + 1, by omega, by omega, by go_num, Hn⟩, by simp [intOf]; omega⟩
              | false =>
                cases h3 : us s[k] with
                | true =>
                  have Hn := Lib.hid (hnext (by rw [hin, h1, h2, h3]; rfl))
                  have e3 := n95 h3
                  have H1 := Lib.hid h1
                  have H2 := Lib.hid h2
                  clear hin hgk hokk hnext h1 h2 h3
                  go_wp2_with fail
                  refine (small_any s[k] _).mono ?_
                  rintro _ w2 ⟨rfl, rfl⟩
                  rw [H1.out]
                  go_wp2_with fail
                  refine (capital_any s[k] _).mono ?_
                  rintro _ w2 ⟨rfl, rfl⟩
                  rw [H2.out]
                  go_wp2_with fail
                  exact ⟨⟨k + 1, by omega, by omega, by go_num, Hn⟩, by simp [intOf]; omega⟩
                | false =>
                  have e3 := n95 h3
                  cases h4 : dg s[k] with
                  | true =>
                    have Hn := Lib.hid (hnext (by rw [hin, h1, h2, h3, h4]; rfl))
                    simp only [dg, Bool.and_eq_true, decide_eq_true_eq] at h4
                    have e4 : decide ((s[k].toNat : Int) < 48) = false := decide_eq_false (by omega)
                    have e5 : decide ((57 : Int) < s[k].toNat) = false := decide_eq_false (by omega)
                    have H1 := Lib.hid h1
                    have H2 := Lib.hid h2
                    clear hin hgk hokk hnext h1 h2 h3 h4
                    go_wp2_with fail
                    refine (small_any s[k] _).mono ?_
                    rintro _ w2 ⟨rfl, rfl⟩
                    rw [H1.out]
                    go_wp2_with fail
                    refine (capital_any s[k] _).mono ?_
                    rintro _ w2 ⟨rfl, rfl⟩
                    rw [H2.out]
                    go_wp2_with fail
                    exact ⟨⟨k + 1, by omega, by omega, by go_num, Hn⟩, by simp [intOf]; omega⟩
                  | false =>
                    have hpf : p = false := by
                      rw [Hp.out]
                      exact nmp_bad (k := k) hlt (hokk.trans (by rw [hin, h1, h2, h3, h4]; rfl))
                    have H1 := Lib.hid h1
                    have H2 := Lib.hid h2
                    clear Hp hin hgk hokk hnext h1 h2 h3
                    subst hpf
                    by_cases h5 : s[k].toNat < 48
                    · have e4 : decide ((s[k].toNat : Int) < 48) = true := decide_eq_true (by omega)
                      clear h4 h5
                      go_wp2_with fail
                      refine (small_any s[k] _).mono ?_
                      rintro _ w2 ⟨rfl, rfl⟩
                      rw [H1.out]
                      go_wp2_with fail
                      refine (capital_any s[k] _).mono ?_
                      rintro _ w2 ⟨rfl, rfl⟩
                      rw [H2.out]
                      go_wp2_with fail
                      go_ret
                      exact ⟨rfl, rfl⟩
                    · have e4 : decide ((s[k].toNat : Int) < 48) = false := decide_eq_false (by omega)
                      have e5 : decide ((57 : Int) < s[k].toNat) = true := by
                        refine decide_eq_true ?_
                        simp only [dg] at h4
                        simp at h4
                        omega
                      clear h4 h5
                      go_wp2_with fail
                      refine (small_any s[k] _).mono ?_
                      rintro _ w2 ⟨rfl, rfl⟩
                      rw [H1.out]
                      go_wp2_with fail
                      refine (capital_any s[k] _).mono ?_
                      rintro _ w2 ⟨rfl, rfl⟩
                      rw [H2.out]
                      go_wp2_with fail
                      go_ret
                      exact ⟨rfl, rfl⟩
          · obtain rfl : k = s.size := by omega
            have hpt : p = true := by
              rw [Hp.out]
              exact nmp_iff.2 ⟨by omega, by omega, fun j h => Hk.out j h h⟩
            clear Hp
            subst hpt
            go_wp2_with fail
            go_ret
            exact ⟨rfl, rfl⟩

theorem ext_one {s : ByteArray} {k : Nat} (h : k < s.size) : (s.extract k (k + 1)).data.toList = [s[k]] := by
  have h1 : s.data.toList.length = s.size := rfl
  have h2 : s.data.toList.drop k = s[k] :: s.data.toList.drop (k + 1) := List.drop_eq_getElem_cons (show k < s.data.toList.length from h)
  simp
  rw [h2]
  rfl
set_option maxHeartbeats 2000000 in
set_option maxRecDepth 100000 in
theorem isFull_def (s : ByteArray) (w : World) :
    Calls Tryd.prog 14 #[.string s] w fun e w' => e = .returned (.bool (full s.data.toList)) ∧ w = w' := by
  have hsl : s.data.toList.length = s.size := rfl
  obtain ⟨p, hp⟩ : ∃ p, p = full s.data.toList := ⟨_, rfl⟩
  rw [← hp]
  by_cases h120 : 120 < s.size
  · have hpf : p = false := by
      rw [hp]
      have : decide (s.data.toList.length ≤ 120) = false := by simp; omega
      unfold full
      rw [this]; rfl
    clear hp
    subst hpf
    go_enter Tryd.func14, Tryd.ntmps14
    go_wp2_with fail
    go_ret
    exact ⟨rfl, rfl⟩
  · have hp2 : p = (pieces 46 s.data.toList).all nmp := by
      rw [hp]
      unfold full
      have : decide (s.data.toList.length ≤ 120) = true := by simp; omega
      rw [this]; rfl
    have Hp := Lib.hid hp2
    clear hp2 hp
    go_enter Tryd.func14, Tryd.ntmps14
    go_wp2_with fail
    go_loop [3, 4] (fun a i => ∃ (k : Nat) (T : ByteArray), k ≤ s.size ∧ T.size ≤ k ∧ a = .string T ∧ i = .int .i64 k ∧ Hid (p = (pc 46 T.data.toList (s.data.toList.drop k)).all nmp)) (fun _ i => s.size - (intOf i).toNat)
    case atStart => exact ⟨0, ⟨#[]⟩, by omega, Nat.le_refl _, rfl, rfl, Lib.hid Hp.out⟩
    case round =>
      obtain ⟨k, T, hk, hT, rfl, rfl, Hk⟩ := hrel
      by_cases hlt : k < s.size
      · have hdr : s.data.toList.drop k = s[k] :: s.data.toList.drop (k + 1) := List.drop_eq_getElem_cons (show k < s.data.toList.length from hlt)
        have hpk := Hk.out
        rw [hdr, pc] at hpk
        have hkk : (k : Int) + 1 ≤ s.size := by omega
        by_cases hb : s[k] = 46
        · have hbn : ((s[k].toNat : Int) == 46) = true := by rw [hb]; rfl
          rw [if_pos hb] at hpk
          cases hn : nmp T.data.toList with
          | false =>
            have hpf : p = false := by rw [hpk]; simp [hn]
            have Hn := Lib.hid hn
            clear Hp Hk hpk hn hb hdr
            subst hpf
            go_wp2_with fail
            refine (isPart_def T _).mono ?_
            rintro _ w2 ⟨rfl, rfl⟩
            rw [Hn.out]
            go_wp2_with fail
            go_ret
            exact ⟨rfl, rfl⟩
          | true =>
            have hpk2 : p = (pc 46 (⟨#[]⟩ : ByteArray).data.toList (s.data.toList.drop (k + 1))).all nmp := by
              rw [hpk, List.all_cons, hn]; rfl
            have Hp2 := Lib.hid hpk2
            have Hn := Lib.hid hn
            clear hpk hpk2 hn hb hdr
            go_wp2_with fail
            refine (isPart_def T _).mono ?_
            rintro _ w2 ⟨rfl, rfl⟩
            rw [Hn.out]
            go_wp2_with fail
            exact ⟨⟨k + 1, ⟨#[]⟩, by omega, Nat.zero_le _, rfl, by go_num, Hp2⟩, by simp [intOf]; omega⟩
        · have hbn : ((s[k].toNat : Int) == 46) = false := by
            rw [beq_eq_false_iff_ne]
            intro e
            exact hb (UInt8.toNat_inj.1 (show s[k].toNat = 46 by omega))
          rw [if_neg hb] at hpk
          have hpk2 : p = (pc 46 (T ++ s.extract k (k + 1)).data.toList (s.data.toList.drop (k + 1))).all nmp := by
            rw [hpk, append_toList, ext_one hlt]
          have hxs : (s.extract k (k + 1)).size = 1 := by rw [ByteArray.size_extract]; omega
          have hsum : T.size + (s.extract k (k + 1)).size ≤ 9223372036854775807 := by omega
          have hTs : (T ++ s.extract k (k + 1)).size ≤ k + 1 := by rw [ByteArray.size_append]; omega
          have Hp2 := Lib.hid hpk2
          clear hpk hpk2 hb hdr
          go_wp2_with fail
          exact ⟨⟨k + 1, _, by omega, hTs, rfl, by go_num, Hp2⟩, by simp [intOf]; omega⟩
      · obtain rfl : k = s.size := by omega
        have hpk : p = nmp T.data.toList := by
          rw [Hk.out, List.drop_of_length_le (Nat.le_of_eq hsl)]
          simp [pc]
        have Hpk := Lib.hid hpk
        clear hpk
        go_wp2_with fail
        refine (isPart_def T _).mono ?_
        rintro _ w2 ⟨rfl, rfl⟩
        rw [← Hpk.out]
        go_wp2_with fail
        go_ret
        exact ⟨rfl, rfl⟩
end Go.Proofs.YtpgikodjfidkkaaDoor.IdrA
