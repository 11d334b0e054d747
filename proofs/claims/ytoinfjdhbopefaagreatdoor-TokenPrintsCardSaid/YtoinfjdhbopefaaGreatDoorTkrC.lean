import Derived.Test.YtoinfjdhbopefaaGreatDoorNums
import Derived.Test.YtoinfjdhbopefaaGreatDoorIdnC
import Derived.WalkKit
import Derived.ProofKit
import Derived.WalkSpells
import Derived.WalkLawsBesides
import Derived.Lib.Hide
import Derived.Lib.Walk
import Derived.WalkSmall
import Derived.LoopTactic
import Derived.Test.YtoinfjdhbopefaaGreatDoorBytT
import Derived.Test.YtoinfjdhbopefaaGreatDoorTkpM
/- The reference of stage 6: letters, parts, full names. -/
set_option linter.unusedSimpArgs false
set_option linter.unusedVariables false
namespace Go.Proofs.YtoinfjdhbopefaaGreatDoor.IdrA
open Go.RowKit Nums IdnM IdnC

theorem ret_bool {a b : Bool} (h : a = b) : Ending.returned (.bool a) = .returned (.bool b) := by rw [h]

set_option maxHeartbeats 2000000 in
set_option maxRecDepth 100000 in
theorem small_any (b : UInt8) (w : World) :
    Calls Tryz.prog 91 #[.int .u8 (b.toNat : Int)] w fun e w' => e = .returned (.bool (sm b)) ∧ w = w' := by
  have hc : sm b = (decide (97 ≤ b.toNat) && decide (b.toNat ≤ 122)) := rfl
  obtain ⟨n, hn⟩ : ∃ n, n = b.toNat := ⟨_, rfl⟩
  rw [← hn] at hc ⊢
  have Hc := Lib.hid hc
  clear hc hn
  go_enter Tryz.func91, Tryz.ntmps91
  go_wp2_with fail
  all_goals go_ret
  all_goals
    refine ⟨ret_bool ?_, rfl⟩
    rw [Hc.out]
    clear Hc
    try simp only [beq_iff_eq, decide_eq_true_eq, decide_eq_false_iff_not, Int.not_le, Bool.not_eq_true, ge_iff_le] at *
    rw [Bool.eq_iff_iff]
    simp only [Bool.and_eq_true, decide_eq_true_eq]
    constructor <;> intros <;> first | omega | (exfalso; omega) | simp_all | (refine ⟨?_, ?_⟩ <;> omega)

set_option maxHeartbeats 2000000 in
set_option maxRecDepth 100000 in
theorem capital_any (b : UInt8) (w : World) :
    Calls Tryz.prog 92 #[.int .u8 (b.toNat : Int)] w fun e w' => e = .returned (.bool (cp b)) ∧ w = w' := by
  have hc : cp b = (decide (65 ≤ b.toNat) && decide (b.toNat ≤ 90)) := rfl
  obtain ⟨n, hn⟩ : ∃ n, n = b.toNat := ⟨_, rfl⟩
  rw [← hn] at hc ⊢
  have Hc := Lib.hid hc
  clear hc hn
  go_enter Tryz.func92, Tryz.ntmps92
  go_wp2_with fail
  all_goals go_ret
  all_goals
    refine ⟨ret_bool ?_, rfl⟩
    rw [Hc.out]
    clear Hc
    try simp only [beq_iff_eq, decide_eq_true_eq, decide_eq_false_iff_not, Int.not_le, Bool.not_eq_true, ge_iff_le] at *
    rw [Bool.eq_iff_iff]
    simp only [Bool.and_eq_true, decide_eq_true_eq]
    constructor <;> intros <;> first | omega | (exfalso; omega) | simp_all | (refine ⟨?_, ?_⟩ <;> omega)

theorem inn_parts (b : UInt8) : inn b = (sm b || cp b || us b || dg b) := by
  unfold inn
  cases sm b <;> cases cp b <;> cases dg b <;> cases us b <;> rfl
theorem n95 {b : UInt8} {v : Bool} (h : us b = v) : ((b.toNat : Int) != 95) = !v := by
  rw [← h, us, Bool.eq_iff_iff, bne_iff_ne, Bool.not_eq_true', decide_eq_false_iff_not]
  omega
theorem t95 {b : UInt8} {v : Bool} (h : us b = v) : ((b.toNat : Int) == 95) = v := by
  rw [← h, us, Bool.eq_iff_iff, beq_iff_eq, decide_eq_true_eq]
  omega
set_option maxHeartbeats 2000000 in
set_option maxRecDepth 100000 in
theorem isPart_def (s : ByteArray) (w : World) :
    Calls Tryz.prog 71 #[.string s] w fun e w' => e = .returned (.bool (nmp s.data.toList)) ∧ w = w' := by
  have hsl : s.data.toList.length = s.size := rfl
  obtain ⟨p, hp⟩ : ∃ p, p = nmp s.data.toList := ⟨_, rfl⟩
  rw [← hp]
  by_cases h0 : s.size = 0
  · have he : ((s.size : Int) == 0) = true := by rw [h0]; rfl
    have hpf : p = false := by
      rw [hp]
      have : s.data.toList = [] := List.length_eq_zero_iff.1 (by omega)
      rw [this]; rfl
    clear hp
    subst hpf
    go_enter Tryz.func71, Tryz.ntmps71
    go_wp2_with fail
    go_ret
    exact ⟨rfl, rfl⟩
  · have he : ((s.size : Int) == 0) = false := by rw [beq_eq_false_iff_ne]; omega
    by_cases h40 : 40 < s.size
    · have hd : decide ((40 : Int) < s.size) = true := decide_eq_true (by omega)
      have hpf : p = false := by rw [hp]; exact nmp_long (by omega)
      clear hp
      subst hpf
      go_enter Tryz.func71, Tryz.ntmps71
      go_wp2_with fail
      go_ret
      exact ⟨rfl, rfl⟩
    · have hd : decide ((40 : Int) < s.size) = false := decide_eq_false (by omega)
      have hpos : 0 < s.size := by omega
      have hg0 : s.data.toList[0]'(by omega) = s[0] := rfl
      cases hs0 : sm s[0] with
      | false =>
        cases hc0 : cp s[0] with
        | false =>
          have hpf : p = false := by
            rw [hp]
            exact nmp_bad (k := 0) hpos (by rw [hg0, okAt, if_pos rfl, ltr, hs0, hc0]; rfl)
          have Hs := Lib.hid hs0
          have Hc := Lib.hid hc0
          clear hp hs0 hc0 hg0
          subst hpf
          go_enter Tryz.func71, Tryz.ntmps71
          go_wp2_with fail
          refine (small_any s[0] _).mono ?_
          rintro _ w2 ⟨rfl, rfl⟩
          rw [Hs.out]
          go_wp2_with fail
          refine (capital_any s[0] _).mono ?_
          rintro _ w2 ⟨rfl, rfl⟩
          rw [Hc.out]
          go_wp2_with fail
          go_ret
          exact ⟨rfl, rfl⟩
        | true =>
          have hok0 : okAt 0 s[0] = true := by rw [okAt, if_pos rfl, ltr, hs0, hc0]; rfl
          have Hok0 := Lib.hid hok0
          have Hs := Lib.hid hs0
          have Hc := Lib.hid hc0
          have Hp := Lib.hid hp
          clear hp hs0 hc0 hg0 hok0
          go_enter Tryz.func71, Tryz.ntmps71
          go_wp2_with fail
          refine (small_any s[0] _).mono ?_
          rintro _ w2 ⟨rfl, rfl⟩
          rw [Hs.out]
          go_wp2_with fail
          refine (capital_any s[0] _).mono ?_
          rintro _ w2 ⟨rfl, rfl⟩
          rw [Hc.out]
          go_wp2_with fail
          go_loop [3] (fun i => ∃ k : Nat, k ≤ s.size ∧ 1 ≤ k ∧ i = .int .i64 k ∧ Hid (∀ (j : Nat) (h : j < s.data.toList.length), j < k → okAt j s.data.toList[j] = true)) (fun i => s.size - (intOf i).toNat)
          case atStart => exact ⟨1, by omega, Nat.le_refl _, rfl, Lib.hid (fun j h hj => by
            obtain rfl : j = 0 := by omega
            exact Hok0.out)⟩
          case round =>
            obtain ⟨k, hk, hk1, rfl, Hk⟩ := hrel
            by_cases hlt : k < s.size
            · have hin : inn s[k] = (sm s[k] || cp s[k] || us s[k] || dg s[k]) := inn_parts _
              have hgk : s.data.toList[k]'hlt = s[k] := rfl
              have hokk : okAt k s[k] = inn s[k] := by rw [okAt, if_neg (by omega)]
              have hnext : inn s[k] = true → ∀ (j : Nat) (h : j < s.data.toList.length), j < k + 1 → okAt j s.data.toList[j] = true := by
                intro hi j h hj
                rcases Nat.lt_or_ge j k with h5 | h5
                · exact Hk.out j h h5
                · obtain rfl : j = k := by omega
                  exact hokk.trans hi
              cases h1 : sm s[k] with
              | true =>
                have Hn := Lib.hid (hnext (by rw [hin, h1]; rfl))
                have H1 := Lib.hid h1
                clear hin hgk hokk hnext h1
                go_wp2_with fail
                refine (small_any s[k] _).mono ?_
                rintro _ w2 ⟨rfl, rfl⟩
                rw [H1.out]
                go_wp2_with fail
                exact ⟨⟨k + 1, by omega, by omega, by go_num, Hn⟩, by simp [intOf]; omega⟩
              | false =>
                cases h2 : cp s[k] with
                | true =>
                  have Hn := Lib.hid (hnext (by rw [hin, h1, h2]; rfl))
                  have H1 := Lib.hid h1
                  have H2 := Lib.hid h2
                  clear hin hgk hokk hnext h1 h2
                  go_wp2_with fail
                  refine (small_any s[k] _).mono ?_
                  rintro _ w2 ⟨rfl, rfl⟩
                  rw [H1.out]
                  go_wp2_with fail
                  refine (capital_any s[k] _).mono ?_
                  rintro _ w2 ⟨rfl, rfl⟩
                  rw [H2.out]
                  go_wp2_with fail
                  exact ⟨⟨k + 1, by omega, by omega, by go_num, Hn⟩, by simp [intOf]; omega⟩
                | false =>
                  cases h3 : us s[k] with
                  | true =>
                    have Hn := Lib.hid (hnext (by rw [hin, h1, h2, h3]; rfl))
                    have e3 := n95 h3
                    have H1 := Lib.hid h1
                    have H2 := Lib.hid h2
                    clear hin hgk hokk hnext h1 h2 h3
                    go_wp2_with fail
                    refine (small_any s[k] _).mono ?_
                    rintro _ w2 ⟨rfl, rfl⟩
                    rw [H1.out]
                    go_wp2_with fail
                    refine (capital_any s[k] _).mono ?_
                    rintro _ w2 ⟨rfl, rfl⟩
                    rw [H2.out]
                    go_wp2_with fail
                    exact ⟨⟨k + 1, by omega, by omega, by go_num, Hn⟩, by simp [intOf]; omega⟩
                  | false =>
                    have e3 := n95 h3
                    cases h4 : dg s[k] with
                    | true =>
                      have Hn := Lib.hid (hnext (by rw [hin, h1, h2, h3, h4]; rfl))
                      simp only [dg, Bool.and_eq_true, decide_eq_true_eq] at h4
                      have e4 : decide ((s[k].toNat : Int) < 48) = false := decide_eq_false (by omega)
                      have e5 : decide ((57 : Int) < s[k].toNat) = false := decide_eq_false (by omega)
                      have H1 := Lib.hid h1
                      have H2 := Lib.hid h2
                      clear hin hgk hokk hnext h1 h2 h3 h4
                      go_wp2_with fail
                      refine (small_any s[k] _).mono ?_
                      rintro _ w2 ⟨rfl, rfl⟩
                      rw [H1.out]
                      go_wp2_with fail
                      refine (capital_any s[k] _).mono ?_
                      rintro _ w2 ⟨rfl, rfl⟩
                      rw [H2.out]
                      go_wp2_with fail
                      exact ⟨⟨k + 1, by omega, by omega, by go_num, Hn⟩, by simp [intOf]; omega⟩
                    | false =>
                      have hpf : p = false := by
                        rw [Hp.out]
                        exact nmp_bad (k := k) hlt (hokk.trans (by rw [hin, h1, h2, h3, h4]; rfl))
                      have H1 := Lib.hid h1
                      have H2 := Lib.hid h2
                      clear Hp hin hgk hokk hnext h1 h2 h3
                      subst hpf
                      by_cases h5 : s[k].toNat < 48
                      · have e4 : decide ((s[k].toNat : Int) < 48) = true := decide_eq_true (by omega)
                        clear h4 h5
                        go_wp2_with fail
                        refine (small_any s[k] _).mono ?_
                        rintro _ w2 ⟨rfl, rfl⟩
                        rw [H1.out]
                        go_wp2_with fail
                        refine (capital_any s[k] _).mono ?_
                        rintro _ w2 ⟨rfl, rfl⟩
                        rw [H2.out]
                        go_wp2_with fail
                        go_ret
                        exact ⟨rfl, rfl⟩
                      · have e4 : decide ((s[k].toNat : Int) < 48) = false := decide_eq_false (by omega)
                        have e5 : decide ((57 : Int) < s[k].toNat) = true := by
                          refine decide_eq_true ?_
                          simp only [dg] at h4
                          simp at h4
                          omega
                        clear h4 h5
                        go_wp2_with fail
                        refine (small_any s[k] _).mono ?_
                        rintro _ w2 ⟨rfl, rfl⟩
                        rw [H1.out]
                        go_wp2_with fail
                        refine (capital_any s[k] _).mono ?_
                        rintro _ w2 ⟨rfl, rfl⟩
                        rw [H2.out]
                        go_wp2_with fail
                        go_ret
                        exact ⟨rfl, rfl⟩
            · obtain rfl : k = s.size := by omega
              have hpt : p = true := by
                rw [Hp.out]
                exact nmp_iff.2 ⟨by omega, by omega, fun j h => Hk.out j h h⟩
              clear Hp
              subst hpt
              go_wp2_with fail
              go_ret
              exact ⟨rfl, rfl⟩
      | true =>
        have hok0 : okAt 0 s[0] = true := by rw [okAt, if_pos rfl, ltr, hs0]; rfl
        have Hok0 := Lib.hid hok0
        have Hs := Lib.hid hs0
        have Hp := Lib.hid hp
        clear hp hs0 hg0 hok0
        go_enter Tryz.func71, Tryz.ntmps71
        go_wp2_with fail
        refine (small_any s[0] _).mono ?_
        rintro _ w2 ⟨rfl, rfl⟩
        rw [Hs.out]
        go_wp2_with fail
        go_loop [3] (fun i => ∃ k : Nat, k ≤ s.size ∧ 1 ≤ k ∧ i = .int .i64 k ∧ Hid (∀ (j : Nat) (h : j < s.data.toList.length), j < k → okAt j s.data.toList[j] = true)) (fun i => s.size - (intOf i).toNat)
        case atStart => exact ⟨1, by omega, Nat.le_refl _, rfl, Lib.hid (fun j h hj => by
          obtain rfl : j = 0 := by omega
          exact Hok0.out)⟩
        case round =>
          obtain ⟨k, hk, hk1, rfl, Hk⟩ := hrel
          by_cases hlt : k < s.size
          · have hin : inn s[k] = (sm s[k] || cp s[k] || us s[k] || dg s[k]) := inn_parts _
            have hgk : s.data.toList[k]'hlt = s[k] := rfl
            have hokk : okAt k s[k] = inn s[k] := by rw [okAt, if_neg (by omega)]
            have hnext : inn s[k] = true → ∀ (j : Nat) (h : j < s.data.toList.length), j < k + 1 → okAt j s.data.toList[j] = true := by
              intro hi j h hj
              rcases Nat.lt_or_ge j k with h5 | h5
              · exact Hk.out j h h5
              · obtain rfl : j = k := by omega
                exact hokk.trans hi
            cases h1 : sm s[k] with
            | true =>
              have Hn := Lib.hid (hnext (by rw [hin, h1]; rfl))
              have H1 := Lib.hid h1
              clear hin hgk hokk hnext h1
              go_wp2_with fail
              refine (small_any s[k] _).mono ?_
              rintro _ w2 ⟨rfl, rfl⟩
              rw [H1.out]
              go_wp2_with fail
              exact ⟨⟨k + 1, by omega, by omega, by go_num, Hn⟩, by simp [intOf]; omega⟩
            | false =>
              cases h2 : cp s[k] with
              | true =>
                have Hn := Lib.hid (hnext (by rw [hin, h1, h2]; rfl))
                have H1 := Lib.hid h1
                have H2 := Lib.hid h2
                clear hin hgk hokk hnext h1 h2
                go_wp2_with fail
                refine (small_any s[k] _).mono ?_
                rintro _ w2 ⟨rfl, rfl⟩
                rw [H1.out]
                go_wp2_with fail
                refine (capital_any s[k] _).mono ?_
                rintro _ w2 ⟨rfl, rfl⟩
                rw [H2.out]
                go_wp2_with fail
                exact ⟨⟨k + 1, by omega, by omega, by go_num, Hn⟩, by simp [intOf]; omega⟩
              | false =>
                cases h3 : us s[k] with
                | true =>
                  have Hn := Lib.hid (hnext (by rw [hin, h1, h2, h3]; rfl))
                  have e3 := n95 h3
                  have H1 := Lib.hid h1
                  have H2 := Lib.hid h2
                  clear hin hgk hokk hnext h1 h2 h3
                  go_wp2_with fail
                  refine (small_any s[k] _).mono ?_
                  rintro _ w2 ⟨rfl, rfl⟩
                  rw [H1.out]
                  go_wp2_with fail
                  refine (capital_any s[k] _).mono ?_
                  rintro _ w2 ⟨rfl, rfl⟩
                  rw [H2.out]
                  go_wp2_with fail
                  exact ⟨⟨k + 1, by omega, by omega, by go_num, Hn⟩, by simp [intOf]; omega⟩
                | false =>
                  have e3 := n95 h3
                  cases h4 : dg s[k] with
                  | true =>
                    have Hn := Lib.hid (hnext (by rw [hin, h1, h2, h3, h4]; rfl))
                    simp only [dg, Bool.and_eq_true, decide_eq_true_eq] at h4
                    have e4 : decide ((s[k].toNat : Int) < 48) = false := decide_eq_false (by omega)
                    have e5 : decide ((57 : Int) < s[k].toNat) = false := decide_eq_false (by omega)
                    have H1 := Lib.hid h1
                    have H2 := Lib.hid h2
                    clear hin hgk hokk hnext h1 h2 h3 h4
                    go_wp2_with fail
                    refine (small_any s[k] _).mono ?_
                    rintro _ w2 ⟨rfl, rfl⟩
                    rw [H1.out]
                    go_wp2_with fail
                    refine (capital_any s[k] _).mono ?_
                    rintro _ w2 ⟨rfl, rfl⟩
                    rw [H2.out]
                    go_wp2_with fail
                    exact ⟨⟨k + 1, by omega, by omega, by go_num, Hn⟩, by simp [intOf]; omega⟩
                  | false =>
                    have hpf : p = false := by
                      rw [Hp.out]
                      exact nmp_bad (k := k) hlt (hokk.trans (by rw [hin, h1, h2, h3, h4]; rfl))
                    have H1 := Lib.hid h1
                    have H2 := Lib.hid h2
                    clear Hp hin hgk hokk hnext h1 h2 h3
                    subst hpf
                    by_cases h5 : s[k].toNat < 48
                    · have e4 : decide ((s[k].toNat : Int) < 48) = true := decide_eq_true (by omega)
                      clear h4 h5
                      go_wp2_with fail
                      refine (small_any s[k] _).mono ?_
                      rintro _ w2 ⟨rfl, rfl⟩
                      rw [H1.out]
                      go_wp2_with fail
                      refine (capital_any s[k] _).mono ?_
                      rintro _ w2 ⟨rfl, rfl⟩
                      rw [H2.out]
                      go_wp2_with fail
                      go_ret
                      exact ⟨rfl, rfl⟩
                    · have e4 : decide ((s[k].toNat : Int) < 48) = false := decide_eq_false (by omega)
                      have e5 : decide ((57 : Int) < s[k].toNat) = true := by
                        refine decide_eq_true ?_
                        simp only [dg] at h4
                        simp at h4
                        omega
                      clear h4 h5
                      go_wp2_with fail
                      refine (small_any s[k] _).mono ?_
                      rintro _ w2 ⟨rfl, rfl⟩
                      rw [H1.out]
                      go_wp2_with fail
                      refine (capital_any s[k] _).mono ?_
                      rintro _ w2 ⟨rfl, rfl⟩
                      rw [H2.out]
                      go_wp2_with fail
                      go_ret
                      exact ⟨rfl, rfl⟩
          · obtain rfl : k = s.size := by omega
            have hpt : p = true := by
              rw [Hp.out]
              exact nmp_iff.2 ⟨by omega, by omega, fun j h => Hk.out j h h⟩
            clear Hp
            subst hpt
            go_wp2_with fail
            go_ret
            exact ⟨rfl, rfl⟩

theorem ext_one {s : ByteArray} {k : Nat} (h : k < s.size) : (s.extract k (k + 1)).data.toList = [s[k]] := by
  have h1 : s.data.toList.length = s.size := rfl
  have h2 : s.data.toList.drop k = s[k] :: s.data.toList.drop (k + 1) := List.drop_eq_getElem_cons (show k < s.data.toList.length from h)
  simp
  rw [h2]
  rfl
set_option maxHeartbeats 2000000 in
set_option maxRecDepth 100000 in
theorem isFull_def (s : ByteArray) (w : World) :
    Calls Tryz.prog 54 #[.string s] w fun e w' => e = .returned (.bool (full s.data.toList)) ∧ w = w' := by
  have hsl : s.data.toList.length = s.size := rfl
  obtain ⟨p, hp⟩ : ∃ p, p = full s.data.toList := ⟨_, rfl⟩
  rw [← hp]
  by_cases h120 : 120 < s.size
  · have hpf : p = false := by
      rw [hp]
      have : decide (s.data.toList.length ≤ 120) = false := by simp; omega
      unfold full
      rw [this]; rfl
    clear hp
    subst hpf
    go_enter Tryz.func54, Tryz.ntmps54
    go_wp2_with fail
    go_ret
    exact ⟨rfl, rfl⟩
  · have hp2 : p = (pieces 46 s.data.toList).all nmp := by
      rw [hp]
      unfold full
      have : decide (s.data.toList.length ≤ 120) = true := by simp; omega
      rw [this]; rfl
    have Hp := Lib.hid hp2
    clear hp2 hp
    go_enter Tryz.func54, Tryz.ntmps54
    go_wp2_with fail
    go_loop [3, 4] (fun a i => ∃ (k : Nat) (T : ByteArray), k ≤ s.size ∧ T.size ≤ k ∧ a = .string T ∧ i = .int .i64 k ∧ Hid (p = (pc 46 T.data.toList (s.data.toList.drop k)).all nmp)) (fun _ i => s.size - (intOf i).toNat)
    case atStart => exact ⟨0, ⟨#[]⟩, by omega, Nat.le_refl _, rfl, rfl, Lib.hid Hp.out⟩
    case round =>
      obtain ⟨k, T, hk, hT, rfl, rfl, Hk⟩ := hrel
      by_cases hlt : k < s.size
      · have hdr : s.data.toList.drop k = s[k] :: s.data.toList.drop (k + 1) := List.drop_eq_getElem_cons (show k < s.data.toList.length from hlt)
        have hpk := Hk.out
        rw [hdr, pc] at hpk
        have hkk : (k : Int) + 1 ≤ s.size := by omega
        by_cases hb : s[k] = 46
        · have hbn : ((s[k].toNat : Int) == 46) = true := by rw [hb]; rfl
          rw [if_pos hb] at hpk
          cases hn : nmp T.data.toList with
          | false =>
            have hpf : p = false := by rw [hpk]; simp [hn]
            have Hn := Lib.hid hn
            clear Hp Hk hpk hn hb hdr
            subst hpf
            go_wp2_with fail
            refine (isPart_def T _).mono ?_
            rintro _ w2 ⟨rfl, rfl⟩
            rw [Hn.out]
            go_wp2_with fail
            go_ret
            exact ⟨rfl, rfl⟩
          | true =>
            have hpk2 : p = (pc 46 (⟨#[]⟩ : ByteArray).data.toList (s.data.toList.drop (k + 1))).all nmp := by
              rw [hpk, List.all_cons, hn]; rfl
            have Hp2 := Lib.hid hpk2
            have Hn := Lib.hid hn
            clear hpk hpk2 hn hb hdr
            go_wp2_with fail
            refine (isPart_def T _).mono ?_
            rintro _ w2 ⟨rfl, rfl⟩
            rw [Hn.out]
            go_wp2_with fail
            exact ⟨⟨k + 1, ⟨#[]⟩, by omega, Nat.zero_le _, rfl, by go_num, Hp2⟩, by simp [intOf]; omega⟩
        · have hbn : ((s[k].toNat : Int) == 46) = false := by
            rw [beq_eq_false_iff_ne]
            intro e
            exact hb (UInt8.toNat_inj.1 (show s[k].toNat = 46 by omega))
          rw [if_neg hb] at hpk
          have hpk2 : p = (pc 46 (T ++ s.extract k (k + 1)).data.toList (s.data.toList.drop (k + 1))).all nmp := by
            rw [hpk, append_toList, ext_one hlt]
          have hxs : (s.extract k (k + 1)).size = 1 := by rw [ByteArray.size_extract]; omega
          have hsum : T.size + (s.extract k (k + 1)).size ≤ 9223372036854775807 := by omega
          have hTs : (T ++ s.extract k (k + 1)).size ≤ k + 1 := by rw [ByteArray.size_append]; omega
          have Hp2 := Lib.hid hpk2
          clear hpk hpk2 hb hdr
          go_wp2_with fail
          exact ⟨⟨k + 1, _, by omega, hTs, rfl, by go_num, Hp2⟩, by simp [intOf]; omega⟩
      · obtain rfl : k = s.size := by omega
        have hpk : p = nmp T.data.toList := by
          rw [Hk.out, List.drop_of_length_le (Nat.le_of_eq hsl)]
          simp [pc]
        have Hpk := Lib.hid hpk
        clear hpk
        go_wp2_with fail
        refine (isPart_def T _).mono ?_
        rintro _ w2 ⟨rfl, rfl⟩
        rw [← Hpk.out]
        go_wp2_with fail
        go_ret
        exact ⟨rfl, rfl⟩
end Go.Proofs.YtoinfjdhbopefaaGreatDoor.IdrA

/- The reference of stage 6: the two spellings. -/
set_option linter.unusedSimpArgs false
set_option linter.unusedVariables false
namespace Go.Proofs.YtoinfjdhbopefaaGreatDoor.IdrC
open Go.RowKit Nums IdnM IdnC IdrA Byt

theorem conv_z (W : World) (z : Int) (c : UInt8) (hz : z = c.toNat) : (convert 41 9 (.slice (some ⟨W.heap.size, 0, none⟩) 1 1)).run Tryz.prog (W.alloc (.cells #[.int .u8 z] 5)) = .ok (.string ⟨#[c]⟩) (W.alloc (.cells #[.int .u8 z] 5)) := by
  subst hz
  exact conv_cells BytT.bytesT Tryz.underlying9 W.heap.size 1 1 [c] rfl (fun i hi => by
    obtain rfl : i = 0 := by simp at hi; omega
    rw [World.cell?_alloc_at _ _ _ _ rfl]; rfl)
theorem one_data (c : UInt8) : (⟨#[c]⟩ : ByteArray).data.toList = [c] := rfl
theorem add_one_size (T : ByteArray) (c : UInt8) : (T ++ (⟨#[c]⟩ : ByteArray)).size = T.size + 1 := by rw [ByteArray.size_append]; rfl
theorem cp_add2 {b : UInt8} (h : cp b = true) : ((b.toNat : Int) - 65 + 97) = ((b + 32).toNat : Int) := by
  simp only [cp, Bool.and_eq_true, decide_eq_true_eq] at h
  rw [UInt8.toNat_add]
  have : (32 : UInt8).toNat = 32 := rfl
  rw [this]
  omega
/-- A byte that begins a piece. -/
def stAt (l : List UInt8) (k : Nat) : Bool := k == 0 || l[k - 1]? == some 95

end Go.Proofs.YtoinfjdhbopefaaGreatDoor.IdrC

/- The reference of stage 7: bytes, signs, names, numbers. -/
set_option linter.unusedSimpArgs false
set_option linter.unusedVariables false
namespace Go.Proofs.YtoinfjdhbopefaaGreatDoor.TkrA
open Go.RowKit Nums IdnM IdnC TokM TokS IdrA

set_option maxHeartbeats 2000000 in
set_option maxRecDepth 100000 in
theorem letter_any (b : UInt8) (w : World) :
    Calls Tryz.prog 53 #[.int .u8 (b.toNat : Int)] w fun e w' => e = .returned (.bool (ltr b)) ∧ w = w' := by
  have hc : ltr b = ((decide (97 ≤ b.toNat) && decide (b.toNat ≤ 122)) || (decide (65 ≤ b.toNat) && decide (b.toNat ≤ 90))) := by simp [ltr, sm, cp]
  obtain ⟨n, hn⟩ : ∃ n, n = b.toNat := ⟨_, rfl⟩
  rw [← hn] at hc ⊢
  have Hc := Lib.hid hc
  clear hc hn
  go_enter Tryz.func53, Tryz.ntmps53
  go_wp2_with fail
  all_goals go_ret
  all_goals
    refine ⟨ret_bool ?_, rfl⟩
    rw [Hc.out]
    clear Hc
    try simp only [beq_iff_eq, decide_eq_true_eq, decide_eq_false_iff_not, Int.not_le, Bool.not_eq_true, ge_iff_le] at *
    rw [Bool.eq_iff_iff]
    simp only [Bool.and_eq_true, Bool.or_eq_true, decide_eq_true_eq]
    constructor <;> intros <;> first | omega | (exfalso; omega) | simp_all | (refine ⟨?_, ?_⟩ <;> omega)

set_option maxHeartbeats 2000000 in
set_option maxRecDepth 100000 in
theorem digit_any (b : UInt8) (w : World) :
    Calls Tryz.prog 37 #[.int .u8 (b.toNat : Int)] w fun e w' => e = .returned (.bool (dg b)) ∧ w = w' := by
  have hc : dg b = (decide (48 ≤ b.toNat) && decide (b.toNat ≤ 57)) := by rfl
  obtain ⟨n, hn⟩ : ∃ n, n = b.toNat := ⟨_, rfl⟩
  rw [← hn] at hc ⊢
  have Hc := Lib.hid hc
  clear hc hn
  go_enter Tryz.func37, Tryz.ntmps37
  go_wp2_with fail
  all_goals go_ret
  all_goals
    refine ⟨ret_bool ?_, rfl⟩
    rw [Hc.out]
    clear Hc
    try simp only [beq_iff_eq, decide_eq_true_eq, decide_eq_false_iff_not, Int.not_le, Bool.not_eq_true, ge_iff_le] at *
    rw [Bool.eq_iff_iff]
    simp only [Bool.and_eq_true, Bool.or_eq_true, decide_eq_true_eq]
    constructor <;> intros <;> first | omega | (exfalso; omega) | simp_all | (refine ⟨?_, ?_⟩ <;> omega)

/-- The byte at a place, 0 behind the end. -/
def atB (s : ByteArray) (k : Nat) : UInt8 := match s.data.toList[k]? with | some b => b | none => 0
theorem atB_lt {s : ByteArray} {k : Nat} (h : k < s.size) : atB s k = s[k] := by
  unfold atB
  rw [List.getElem?_eq_getElem (show k < s.data.toList.length from h)]
  rfl
theorem atB_ge {s : ByteArray} {k : Nat} (h : s.size ≤ k) : atB s k = 0 := by
  unfold atB
  rw [List.getElem?_eq_none (show s.data.toList.length ≤ k from h)]
theorem drop_at {s : ByteArray} {k : Nat} (h : k < s.size) : s.data.toList.drop k = atB s k :: s.data.toList.drop (k + 1) := by
  rw [atB_lt h]
  exact List.drop_eq_getElem_cons (show k < s.data.toList.length from h)
theorem drop_end {s : ByteArray} {k : Nat} (h : s.size ≤ k) : s.data.toList.drop k = [] := List.drop_of_length_le (show s.data.toList.length ≤ k from h)
set_option maxHeartbeats 2000000 in
set_option maxRecDepth 100000 in
theorem at_any (s : ByteArray) (k : Nat) (w : World) :
    Calls Tryz.prog 17 #[.string s, .int .i64 (k : Int)] w fun e w' => e = .returned (.int .u8 ((atB s k).toNat : Int)) ∧ w = w' := by
  by_cases h : k < s.size
  · have e := Lib.hid (atB_lt h)
    go_enter Tryz.func17, Tryz.ntmps17
    go_wp2_with fail
    go_ret
    exact ⟨by rw [e.out]; rfl, rfl⟩
  · have e := Lib.hid (atB_ge (s := s) (k := k) (by omega))
    go_enter Tryz.func17, Tryz.ntmps17
    go_wp2_with fail
    go_ret
    exact ⟨by rw [e.out]; rfl, rfl⟩
theorem at_z (s : ByteArray) (z : Int) (k : Nat) (hz : z = k) (w : World) :
    Calls Tryz.prog 17 #[.string s, .int .i64 z] w fun e w' => e = .returned (.int .u8 ((atB s k).toNat : Int)) ∧ w = w' := by
  subst hz
  exact at_any s k w

theorem inn_of (b : UInt8) : inn b = (ltr b || dg b || decide (b.toNat = 95)) := by
  unfold inn ltr us
  cases sm b <;> cases cp b <;> cases dg b <;> rfl
theorem beq_of {b : UInt8} {n : Nat} {v : Bool} (h : decide (b.toNat = n) = v) : ((b.toNat : Int) == (n : Int)) = v := by
  rw [← h, Bool.eq_iff_iff, beq_iff_eq, decide_eq_true_eq]
  omega
theorem bne_of {b : UInt8} {n : Nat} {v : Bool} (h : decide (b.toNat = n) = v) : ((b.toNat : Int) != (n : Int)) = !v := by
  rw [← h, Bool.eq_iff_iff, bne_iff_ne, Bool.not_eq_true', decide_eq_false_iff_not]
  omega

/-- Whether a text is one sign. -/
def signB (s : List UInt8) : Bool := match s with | [b] => signs.contains b | _ => false
theorem signB_len {l : List UInt8} (h : l.length ≠ 1) : signB l = false := by
  match l, h with
  | [], _ => rfl
  | [b], h => exact absurd rfl h
  | _ :: _ :: _, _ => rfl
theorem signB_one {s : ByteArray} (h : s.size = 1) : signB s.data.toList = signs.contains (s[0]'(by omega)) := by
  have hl : s.data.toList.length = 1 := h
  match e : s.data.toList, hl with
  | [b], _ =>
    have h1 : s.data.toList[0]? = some (s[0]'(by omega)) := List.getElem?_eq_getElem (show 0 < s.data.toList.length by omega)
    rw [e] at h1
    have h2 : b = s[0]'(by omega) := Option.some.inj h1
    rw [h2]
    rfl
theorem cst_get (k : Nat) (hk : k < 13) : ((⟨#[123, 125, 91, 93, 40, 41, 60, 62, 61, 59, 44, 64, 45]⟩ : ByteArray)[k]'hk) = signs[k]'hk := by
  match k, hk with
  | 0, _ | 1, _ | 2, _ | 3, _ | 4, _ | 5, _ | 6, _ | 7, _ | 8, _ | 9, _ | 10, _ | 11, _ | 12, _ => rfl
set_option maxHeartbeats 2000000 in
set_option maxRecDepth 100000 in
theorem sign_any (s : ByteArray) (w : World) :
    Calls Tryz.prog 40 #[.string s] w fun e w' => e = .returned (.bool (signB s.data.toList)) ∧ Below w.heap.size w w' := by
  by_cases h1 : s.size = 1
  · have d1 : ((s.size : Int) != 1) = false := by rw [bne_eq_false_iff_eq]; omega
    have hpos : 0 < s.size := by omega
    obtain ⟨B, hB⟩ : ∃ B, B = signB s.data.toList := ⟨_, rfl⟩
    have hB2 : B = signs.contains s[0] := by rw [hB, signB_one h1]
    rw [← hB]
    have HB := Lib.hid hB2
    clear hB hB2
    go_enter Tryz.func40, Tryz.ntmps40
    go_wp2_with fail
    go_loopw [3] (fun iv wr => ∃ k : Nat, k ≤ 13 ∧ iv = .int .i64 k ∧ Below w.heap.size w wr ∧ Hid (∀ (j : Nat) (h : j < signs.length), j < k → signs[j] ≠ s[0])) (fun iv _ => 13 - (intOf iv).toNat)
    case atStart => exact ⟨0, by omega, rfl, Below.refl _ _, Lib.hid (fun j h hj => by omega)⟩
    case round =>
      obtain ⟨k, hk, rfl, hb, Hk⟩ := hrel
      by_cases hlt : k < 13
      · have hsl : k < signs.length := hlt
        obtain ⟨x, hx⟩ : ∃ x, signs[k] = x := ⟨_, rfl⟩
        have hcst : ∀ h, (⟨#[123, 125, 91, 93, 40, 41, 60, 62, 61, 59, 44, 64, 45]⟩ : ByteArray)[k]'h = x := fun h => (cst_get k h).trans hx
        by_cases he : x = s[0]
        · have hBt : B = true := by
            rw [HB.out, ← he, ← hx]
            simp
          have d2 : ((x.toNat : Int) == (s[0].toNat : Int)) = true := by rw [he]; simp
          clear HB hx he
          subst hBt
          go_wp2_with fail
          go_region
          all_goals
            go_wp2_with fail
            go_ret
            exact ⟨rfl, hb.drew⟩
        · have d2 : ((x.toNat : Int) == (s[0].toNat : Int)) = false := by
            rw [beq_eq_false_iff_ne]
            intro e
            exact he (UInt8.toNat_inj.1 (by omega))
          have Hn : Hid (∀ (j : Nat) (h : j < signs.length), j < k + 1 → signs[j] ≠ s[0]) := Lib.hid (fun j h hj => by
            rcases Nat.lt_or_ge j k with h5 | h5
            · exact Hk.out j h h5
            · obtain rfl : j = k := by omega
              rw [hx]; exact he)
          clear hx he
          go_wp2_with fail
          go_region
          all_goals
            go_wp2_with fail
            exact ⟨⟨k + 1, by omega, by go_num, hb.drew, Hn⟩, by simp [intOf]; omega⟩
      · obtain rfl : k = 13 := by omega
        have hBf : B = false := by
          rw [HB.out]
          cases hc : signs.contains s[0] with
          | false => rfl
          | true =>
            have hm : s[0] ∈ signs := by simpa using hc
            obtain ⟨j, hj, hje⟩ := List.mem_iff_getElem.1 hm
            exact absurd hje (Hk.out j hj hj)
        clear HB
        subst hBf
        go_wp2_with fail
        go_ret
        exact ⟨rfl, hb⟩
  · have d1 : ((s.size : Int) != 1) = true := by rw [bne_iff_ne]; omega
    have hf := signB_len (l := s.data.toList) h1
    have Hf := Lib.hid hf
    clear hf
    go_enter Tryz.func40, Tryz.ntmps40
    go_wp2_with fail
    go_ret
    exact ⟨by rw [Hf.out]; rfl, Below.refl _ _⟩

theorem wlen_step {s : ByteArray} {k : Nat} (h : k < s.size) (hi : inn (atB s k) = true) : wlen (s.data.toList.drop k) = wlen (s.data.toList.drop (k + 1)) + 1 := by
  rw [drop_at h]
  unfold wlen
  rw [List.takeWhile_cons_of_pos hi]
  rfl
theorem wlen_stop {s : ByteArray} {k : Nat} (hi : inn (atB s k) = false) : wlen (s.data.toList.drop k) = 0 := by
  rcases Nat.lt_or_ge k s.size with h | h
  · rw [drop_at h]
    unfold wlen
    rw [List.takeWhile_cons_of_neg (by rw [hi]; simp)]
    rfl
  · rw [drop_end h]; rfl
theorem dname_none {s : ByteArray} {k : Nat} (hl : ltr (atB s k) = false) : dname (s.data.toList.drop k) = 0 := by
  rcases Nat.lt_or_ge k s.size with h | h
  · rw [drop_at h]; exact dname_not hl
  · rw [drop_end h]; exact dname_nil
theorem at_in {s : ByteArray} {k : Nat} (h : inn (atB s k) = true) : k < s.size := by
  rcases Nat.lt_or_ge k s.size with h1 | h1
  · exact h1
  · rw [atB_ge h1] at h; exact absurd h (by decide)
theorem at_46 {s : ByteArray} {k : Nat} (h : atB s k = 46) : k < s.size := by
  rcases Nat.lt_or_ge k s.size with h1 | h1
  · exact h1
  · rw [atB_ge h1] at h; exact absurd h (by decide)
theorem dname_word {s : ByteArray} {k : Nat} (hl : ltr (atB s k) = true) (h46 : atB s (k + wlen (s.data.toList.drop k)) ≠ 46) : dname (s.data.toList.drop k) = wlen (s.data.toList.drop k) := by
  have hk := at_in (ltr_inn hl)
  obtain ⟨b, t, e⟩ : ∃ b t, s.data.toList.drop k = b :: t := ⟨_, _, drop_at hk⟩
  have hb : b = atB s k := by rw [drop_at hk] at e; cases e; rfl
  have hdd : (s.data.toList.drop k).drop (wlen (s.data.toList.drop k)) = s.data.toList.drop (k + wlen (s.data.toList.drop k)) := List.drop_drop
  generalize hn : wlen (s.data.toList.drop k) = n at *
  rw [e] at hdd hn ⊢
  rcases Nat.lt_or_ge (k + n) s.size with h | h
  · rw [drop_at h, ← hn] at hdd
    rw [dname_no (by rw [hb]; exact hl) hdd (by rw [hn]; exact h46), hn]
  · rw [drop_end h, ← hn] at hdd
    rw [dname_end (by rw [hb]; exact hl) hdd, hn]
theorem dname_more {s : ByteArray} {k : Nat} (hl : ltr (atB s k) = true) (h46 : atB s (k + wlen (s.data.toList.drop k)) = 46) :
    dname (s.data.toList.drop k) = if dname (s.data.toList.drop (k + wlen (s.data.toList.drop k) + 1)) = 0 then wlen (s.data.toList.drop k) else wlen (s.data.toList.drop k) + 1 + dname (s.data.toList.drop (k + wlen (s.data.toList.drop k) + 1)) := by
  have hk := at_in (ltr_inn hl)
  obtain ⟨b, t, e⟩ : ∃ b t, s.data.toList.drop k = b :: t := ⟨_, _, drop_at hk⟩
  have hb : b = atB s k := by rw [drop_at hk] at e; cases e; rfl
  have hdd : (s.data.toList.drop k).drop (wlen (s.data.toList.drop k)) = s.data.toList.drop (k + wlen (s.data.toList.drop k)) := List.drop_drop
  generalize hn : wlen (s.data.toList.drop k) = n at *
  have h := at_46 h46
  rw [drop_at h, h46] at hdd
  rw [e] at hdd hn ⊢
  rw [← hn] at hdd
  rw [dname_dot (by rw [hb]; exact hl) hdd, hn]
theorem nm_at {s : ByteArray} {i : Nat} : nm (s.data.toList.drop i) = if atB s i = 46 then (if dname (s.data.toList.drop (i + 1)) = 0 then 0 else 1 + dname (s.data.toList.drop (i + 1))) else dname (s.data.toList.drop i) := by
  rcases Nat.lt_or_ge i s.size with h | h
  · rw [drop_at h]
    by_cases h46 : atB s i = 46
    · rw [h46, nm_dot, if_pos rfl]
    · rw [nm_let _ h46, if_neg h46]
  · rw [drop_end h, atB_ge h, if_neg (by decide), dname_nil]
    rfl
theorem dec46 {b : UInt8} : (b = 46) ↔ decide (b.toNat = 46) = true := by
  rw [decide_eq_true_eq]
  constructor
  · rintro rfl; rfl
  · intro h; exact UInt8.toNat_inj.1 h

set_option maxHeartbeats 4000000 in
set_option maxRecDepth 100000 in
theorem name_any (s : ByteArray) (i : Nat) (hs : s.size ≤ 4294967296) (hi : i ≤ s.size) (w : World) :
    Calls Tryz.prog 35 #[.string s, .int .i64 (i : Int)] w fun e w' => e = .returned (.int .i64 ((i + nm (s.data.toList.drop i) : Nat) : Int)) ∧ w = w' := by
  obtain ⟨N, hN⟩ : ∃ N, N = i + nm (s.data.toList.drop i) := ⟨_, rfl⟩
  rw [← hN]
  rw [nm_at] at hN
  cases h46 : decide ((atB s i).toNat = 46) with
  | true =>
    have e46 : atB s i = 46 := dec46.2 h46
    have t46 : (((atB s i).toNat : Int) == 46) = true := beq_of (n := 46) h46
    have hlt := at_46 e46
    rw [if_pos e46] at hN
    have hN2 : N = if dname (s.data.toList.drop (i + 1)) = 0 then i else (i + 1) + dname (s.data.toList.drop (i + 1)) := by
      rw [hN]; split <;> omega
    have HN := Lib.hid hN2
    clear hN hN2 e46 h46
    go_enter Tryz.func35, Tryz.ntmps35
    go_wp2_with fail
    refine (at_any s i _).mono ?_
    rintro _ wz ⟨rfl, rfl⟩
    go_wp2_with fail
    go_loop [5, 6] (fun ev kv => ∃ k e : Nat, k ≤ s.size ∧ e ≤ s.size ∧ ev = .int .i64 e ∧ kv = .int .i64 k ∧ Hid (N = if dname (s.data.toList.drop k) = 0 then e else k + dname (s.data.toList.drop k))) (fun _ kv => s.size - (intOf kv).toNat)
    case atStart => exact ⟨i + 1, i, by omega, by omega, rfl, by go_num, Lib.hid HN.out⟩
    case round =>
      obtain ⟨k, en, hk, hen, rfl, rfl, Hk⟩ := hrel
      cases hl : ltr (atB s k) with
      | false =>
        have hNe : N = en := by rw [Hk.out, dname_none hl, if_pos rfl]
        have HNe := Lib.hid hNe
        have Hl := Lib.hid hl
        clear hNe hl
        go_wp2_with fail
        refine (at_any s k _).mono ?_
        rintro _ wz ⟨rfl, rfl⟩
        go_wp2_with fail
        refine (letter_any _ _).mono ?_
        rintro _ wz ⟨rfl, rfl⟩
        rw [Hl.out]
        go_wp2_with fail
        go_ret
        exact ⟨by rw [HNe.out]; rfl, rfl⟩
      | true =>
        have hks := at_in (ltr_inn hl)
        obtain ⟨W, hW⟩ : ∃ W, W = wlen (s.data.toList.drop k) := ⟨_, rfl⟩
        have hWle : k + W ≤ s.size := by
          have h1 := wlen_le (s.data.toList.drop k)
          have h2 : (s.data.toList.drop k).length = s.size - k := List.length_drop
          omega
        have hWpos : 1 ≤ W := by
          rw [hW, drop_at hks]
          exact wlen_pos hl
        have HW := Lib.hid hW
        have Hl := Lib.hid hl
        clear hW hl
        go_wp2_with fail
        refine (at_any s k _).mono ?_
        rintro _ wz ⟨rfl, rfl⟩
        go_wp2_with fail
        refine (letter_any _ _).mono ?_
        rintro _ wz ⟨rfl, rfl⟩
        rw [Hl.out]
        go_wp2_with fail
        go_loop [6] (fun jv => ∃ j : Nat, k ≤ j ∧ j ≤ k + W ∧ jv = .int .i64 j ∧ Hid (W = (j - k) + wlen (s.data.toList.drop j))) (fun jv => s.size - (intOf jv).toNat)
        case atStart => exact ⟨k, Nat.le_refl _, by omega, rfl, Lib.hid (by rw [HW.out]; omega)⟩
        case round =>
          obtain ⟨j, hkj, hjW, rfl, Hj⟩ := hrel
          have hin := inn_of (atB s j)
          cases hi0 : inn (atB s j) with
          | true =>
            have hjs := at_in hi0
            have hst := wlen_step hjs hi0
            have Hn : Hid (W = (j + 1 - k) + wlen (s.data.toList.drop (j + 1))) := Lib.hid (by have := Hj.out; omega)
            have hjW2 : j + 1 ≤ k + W := by have := Hj.out; omega
            rw [hi0] at hin
            clear hst hi0
            cases h1 : ltr (atB s j) with
            | true =>
              have H1 := Lib.hid h1
              clear h1 hin
              go_wp2_with fail
              refine (at_any s j _).mono ?_
              rintro _ wz ⟨rfl, rfl⟩
              go_wp2_with fail
              refine (letter_any _ _).mono ?_
              rintro _ wz ⟨rfl, rfl⟩
              rw [H1.out]
              go_wp2_with fail
              exact ⟨⟨j + 1, by omega, by omega, by go_num, Hn⟩, by simp [intOf]; omega⟩
            | false =>
              cases h2 : dg (atB s j) with
              | true =>
                have H1 := Lib.hid h1
                have H2 := Lib.hid h2
                clear h1 h2 hin
                go_wp2_with fail
                refine (at_any s j _).mono ?_
                rintro _ wz ⟨rfl, rfl⟩
                go_wp2_with fail
                refine (letter_any _ _).mono ?_
                rintro _ wz ⟨rfl, rfl⟩
                rw [H1.out]
                go_wp2_with fail
                refine (at_any s j _).mono ?_
                rintro _ wz ⟨rfl, rfl⟩
                go_wp2_with fail
                refine (digit_any _ _).mono ?_
                rintro _ wz ⟨rfl, rfl⟩
                rw [H2.out]
                go_wp2_with fail
                exact ⟨⟨j + 1, by omega, by omega, by go_num, Hn⟩, by simp [intOf]; omega⟩
              | false =>
                have h3 : decide ((atB s j).toNat = 95) = true := by rw [h1, h2] at hin; simpa using hin.symm
                have t3 : (((atB s j).toNat : Int) == 95) = true := beq_of (n := 95) h3
                have H1 := Lib.hid h1
                have H2 := Lib.hid h2
                clear h1 h2 h3 hin
                go_wp2_with fail
                refine (at_any s j _).mono ?_
                rintro _ wz ⟨rfl, rfl⟩
                go_wp2_with fail
                refine (letter_any _ _).mono ?_
                rintro _ wz ⟨rfl, rfl⟩
                rw [H1.out]
                go_wp2_with fail
                refine (at_any s j _).mono ?_
                rintro _ wz ⟨rfl, rfl⟩
                go_wp2_with fail
                refine (digit_any _ _).mono ?_
                rintro _ wz ⟨rfl, rfl⟩
                rw [H2.out]
                go_wp2_with fail
                refine (at_any s j _).mono ?_
                rintro _ wz ⟨rfl, rfl⟩
                go_wp2_with fail
                exact ⟨⟨j + 1, by omega, by omega, by go_num, Hn⟩, by simp [intOf]; omega⟩
          | false =>
            have hw0 := wlen_stop hi0
            have hjeq : j = k + W := by have := Hj.out; omega
            rw [hi0] at hin
            have h1 : ltr (atB s j) = false := by cases h : ltr (atB s j) with | false => rfl | true => rw [h] at hin; simp at hin
            have h2 : dg (atB s j) = false := by cases h : dg (atB s j) with | false => rfl | true => rw [h] at hin; simp at hin
            have h3 : decide ((atB s j).toNat = 95) = false := by cases h : decide ((atB s j).toNat = 95) with | false => rfl | true => rw [h] at hin; simp at hin
            have t3 : (((atB s j).toNat : Int) == 95) = false := beq_of (n := 95) h3
            have H1 := Lib.hid h1
            have H2 := Lib.hid h2
            clear h1 h2 h3 hin hw0 hi0
            cases h46 : decide ((atB s j).toNat = 46) with
            | false =>
              have t46 : (((atB s j).toNat : Int) != 46) = true := bne_of (n := 46) h46
              have hNj : N = j := by
                have hne : atB s j ≠ 46 := by intro e; rw [dec46.1 e] at h46; cases h46
                have hd := dname_word (s := s) (k := k) Hl.out (by rw [← HW.out, ← hjeq]; exact hne)
                rw [Hk.out, hd, ← HW.out, if_neg (by omega), hjeq]
              have HNj := Lib.hid hNj
              clear hNj h46 hjeq
              go_wp2_with fail
              refine (at_any s j _).mono ?_
              rintro _ wz ⟨rfl, rfl⟩
              go_wp2_with fail
              refine (letter_any _ _).mono ?_
              rintro _ wz ⟨rfl, rfl⟩
              rw [H1.out]
              go_wp2_with fail
              refine (at_any s j _).mono ?_
              rintro _ wz ⟨rfl, rfl⟩
              go_wp2_with fail
              refine (digit_any _ _).mono ?_
              rintro _ wz ⟨rfl, rfl⟩
              rw [H2.out]
              go_wp2_with fail
              refine (at_any s j _).mono ?_
              rintro _ wz ⟨rfl, rfl⟩
              go_wp2_with fail
              refine (at_any s j _).mono ?_
              rintro _ wz ⟨rfl, rfl⟩
              go_wp2_with fail
              go_ret
              exact ⟨by rw [HNj.out]; rfl, rfl⟩
            | true =>
              have t46 : (((atB s j).toNat : Int) != 46) = false := bne_of (n := 46) h46
              have e46 : atB s j = 46 := dec46.2 h46
              have hjs := at_46 e46
              have hNn : N = if dname (s.data.toList.drop (j + 1)) = 0 then j else (j + 1) + dname (s.data.toList.drop (j + 1)) := by
                have hd := dname_more (s := s) (k := k) Hl.out (by rw [← HW.out, ← hjeq]; exact e46)
                rw [← HW.out, ← hjeq] at hd
                rw [Hk.out, hd]
                split
                · rw [if_neg (by omega)]; omega
                · rw [if_neg (by omega)]; omega
              have HNn := Lib.hid hNn
              clear hNn h46 e46 hjeq
              go_wp2_with fail
              refine (at_any s j _).mono ?_
              rintro _ wz ⟨rfl, rfl⟩
              go_wp2_with fail
              refine (letter_any _ _).mono ?_
              rintro _ wz ⟨rfl, rfl⟩
              rw [H1.out]
              go_wp2_with fail
              refine (at_any s j _).mono ?_
              rintro _ wz ⟨rfl, rfl⟩
              go_wp2_with fail
              refine (digit_any _ _).mono ?_
              rintro _ wz ⟨rfl, rfl⟩
              rw [H2.out]
              go_wp2_with fail
              refine (at_any s j _).mono ?_
              rintro _ wz ⟨rfl, rfl⟩
              go_wp2_with fail
              refine (at_any s j _).mono ?_
              rintro _ wz ⟨rfl, rfl⟩
              go_wp2_with fail
              exact ⟨⟨j + 1, j, by omega, by omega, rfl, by go_num, HNn⟩, by simp [intOf]; omega⟩
  | false =>
    have e46 : ¬ atB s i = 46 := by intro e; rw [dec46.1 e] at h46; cases h46
    have t46 : (((atB s i).toNat : Int) == 46) = false := beq_of (n := 46) h46
    rw [if_neg e46] at hN
    have hN2 : N = if dname (s.data.toList.drop i) = 0 then i else i + dname (s.data.toList.drop i) := by
      rw [hN]; split <;> omega
    have HN := Lib.hid hN2
    clear hN hN2 e46 h46
    go_enter Tryz.func35, Tryz.ntmps35
    go_wp2_with fail
    refine (at_any s i _).mono ?_
    rintro _ wz ⟨rfl, rfl⟩
    go_wp2_with fail
    go_loop [5, 6] (fun ev kv => ∃ k e : Nat, k ≤ s.size ∧ e ≤ s.size ∧ ev = .int .i64 e ∧ kv = .int .i64 k ∧ Hid (N = if dname (s.data.toList.drop k) = 0 then e else k + dname (s.data.toList.drop k))) (fun _ kv => s.size - (intOf kv).toNat)
    case atStart => exact ⟨i, i, by omega, by omega, rfl, rfl, Lib.hid HN.out⟩
    case round =>
      obtain ⟨k, en, hk, hen, rfl, rfl, Hk⟩ := hrel
      cases hl : ltr (atB s k) with
      | false =>
        have hNe : N = en := by rw [Hk.out, dname_none hl, if_pos rfl]
        have HNe := Lib.hid hNe
        have Hl := Lib.hid hl
        clear hNe hl
        go_wp2_with fail
        refine (at_any s k _).mono ?_
        rintro _ wz ⟨rfl, rfl⟩
        go_wp2_with fail
        refine (letter_any _ _).mono ?_
        rintro _ wz ⟨rfl, rfl⟩
        rw [Hl.out]
        go_wp2_with fail
        go_ret
        exact ⟨by rw [HNe.out]; rfl, rfl⟩
      | true =>
        have hks := at_in (ltr_inn hl)
        obtain ⟨W, hW⟩ : ∃ W, W = wlen (s.data.toList.drop k) := ⟨_, rfl⟩
        have hWle : k + W ≤ s.size := by
          have h1 := wlen_le (s.data.toList.drop k)
          have h2 : (s.data.toList.drop k).length = s.size - k := List.length_drop
          omega
        have hWpos : 1 ≤ W := by
          rw [hW, drop_at hks]
          exact wlen_pos hl
        have HW := Lib.hid hW
        have Hl := Lib.hid hl
        clear hW hl
        go_wp2_with fail
        refine (at_any s k _).mono ?_
        rintro _ wz ⟨rfl, rfl⟩
        go_wp2_with fail
        refine (letter_any _ _).mono ?_
        rintro _ wz ⟨rfl, rfl⟩
        rw [Hl.out]
        go_wp2_with fail
        go_loop [6] (fun jv => ∃ j : Nat, k ≤ j ∧ j ≤ k + W ∧ jv = .int .i64 j ∧ Hid (W = (j - k) + wlen (s.data.toList.drop j))) (fun jv => s.size - (intOf jv).toNat)
        case atStart => exact ⟨k, Nat.le_refl _, by omega, rfl, Lib.hid (by rw [HW.out]; omega)⟩
        case round =>
          obtain ⟨j, hkj, hjW, rfl, Hj⟩ := hrel
          have hin := inn_of (atB s j)
          cases hi0 : inn (atB s j) with
          | true =>
            have hjs := at_in hi0
            have hst := wlen_step hjs hi0
            have Hn : Hid (W = (j + 1 - k) + wlen (s.data.toList.drop (j + 1))) := Lib.hid (by have := Hj.out; omega)
            have hjW2 : j + 1 ≤ k + W := by have := Hj.out; omega
            rw [hi0] at hin
            clear hst hi0
            cases h1 : ltr (atB s j) with
            | true =>
              have H1 := Lib.hid h1
              clear h1 hin
              go_wp2_with fail
              refine (at_any s j _).mono ?_
              rintro _ wz ⟨rfl, rfl⟩
              go_wp2_with fail
              refine (letter_any _ _).mono ?_
              rintro _ wz ⟨rfl, rfl⟩
              rw [H1.out]
              go_wp2_with fail
              exact ⟨⟨j + 1, by omega, by omega, by go_num, Hn⟩, by simp [intOf]; omega⟩
            | false =>
              cases h2 : dg (atB s j) with
              | true =>
                have H1 := Lib.hid h1
                have H2 := Lib.hid h2
                clear h1 h2 hin
                go_wp2_with fail
                refine (at_any s j _).mono ?_
                rintro _ wz ⟨rfl, rfl⟩
                go_wp2_with fail
                refine (letter_any _ _).mono ?_
                rintro _ wz ⟨rfl, rfl⟩
                rw [H1.out]
                go_wp2_with fail
                refine (at_any s j _).mono ?_
                rintro _ wz ⟨rfl, rfl⟩
                go_wp2_with fail
                refine (digit_any _ _).mono ?_
                rintro _ wz ⟨rfl, rfl⟩
                rw [H2.out]
                go_wp2_with fail
                exact ⟨⟨j + 1, by omega, by omega, by go_num, Hn⟩, by simp [intOf]; omega⟩
              | false =>
                have h3 : decide ((atB s j).toNat = 95) = true := by rw [h1, h2] at hin; simpa using hin.symm
                have t3 : (((atB s j).toNat : Int) == 95) = true := beq_of (n := 95) h3
                have H1 := Lib.hid h1
                have H2 := Lib.hid h2
                clear h1 h2 h3 hin
                go_wp2_with fail
                refine (at_any s j _).mono ?_
                rintro _ wz ⟨rfl, rfl⟩
                go_wp2_with fail
                refine (letter_any _ _).mono ?_
                rintro _ wz ⟨rfl, rfl⟩
                rw [H1.out]
                go_wp2_with fail
                refine (at_any s j _).mono ?_
                rintro _ wz ⟨rfl, rfl⟩
                go_wp2_with fail
                refine (digit_any _ _).mono ?_
                rintro _ wz ⟨rfl, rfl⟩
                rw [H2.out]
                go_wp2_with fail
                refine (at_any s j _).mono ?_
                rintro _ wz ⟨rfl, rfl⟩
                go_wp2_with fail
                exact ⟨⟨j + 1, by omega, by omega, by go_num, Hn⟩, by simp [intOf]; omega⟩
          | false =>
            have hw0 := wlen_stop hi0
            have hjeq : j = k + W := by have := Hj.out; omega
            rw [hi0] at hin
            have h1 : ltr (atB s j) = false := by cases h : ltr (atB s j) with | false => rfl | true => rw [h] at hin; simp at hin
            have h2 : dg (atB s j) = false := by cases h : dg (atB s j) with | false => rfl | true => rw [h] at hin; simp at hin
            have h3 : decide ((atB s j).toNat = 95) = false := by cases h : decide ((atB s j).toNat = 95) with | false => rfl | true => rw [h] at hin; simp at hin
            have t3 : (((atB s j).toNat : Int) == 95) = false := beq_of (n := 95) h3
            have H1 := Lib.hid h1
            have H2 := Lib.hid h2
            clear h1 h2 h3 hin hw0 hi0
            cases h46 : decide ((atB s j).toNat = 46) with
            | false =>
              have t46 : (((atB s j).toNat : Int) != 46) = true := bne_of (n := 46) h46
              have hNj : N = j := by
                have hne : atB s j ≠ 46 := by intro e; rw [dec46.1 e] at h46; cases h46
                have hd := dname_word (s := s) (k := k) Hl.out (by rw [← HW.out, ← hjeq]; exact hne)
                rw [Hk.out, hd, ← HW.out, if_neg (by omega), hjeq]
              have HNj := Lib.hid hNj
              clear hNj h46 hjeq
              go_wp2_with fail
              refine (at_any s j _).mono ?_
              rintro _ wz ⟨rfl, rfl⟩
              go_wp2_with fail
              refine (letter_any _ _).mono ?_
              rintro _ wz ⟨rfl, rfl⟩
              rw [H1.out]
              go_wp2_with fail
              refine (at_any s j _).mono ?_
              rintro _ wz ⟨rfl, rfl⟩
              go_wp2_with fail
              refine (digit_any _ _).mono ?_
              rintro _ wz ⟨rfl, rfl⟩
              rw [H2.out]
              go_wp2_with fail
              refine (at_any s j _).mono ?_
              rintro _ wz ⟨rfl, rfl⟩
              go_wp2_with fail
              refine (at_any s j _).mono ?_
              rintro _ wz ⟨rfl, rfl⟩
              go_wp2_with fail
              go_ret
              exact ⟨by rw [HNj.out]; rfl, rfl⟩
            | true =>
              have t46 : (((atB s j).toNat : Int) != 46) = false := bne_of (n := 46) h46
              have e46 : atB s j = 46 := dec46.2 h46
              have hjs := at_46 e46
              have hNn : N = if dname (s.data.toList.drop (j + 1)) = 0 then j else (j + 1) + dname (s.data.toList.drop (j + 1)) := by
                have hd := dname_more (s := s) (k := k) Hl.out (by rw [← HW.out, ← hjeq]; exact e46)
                rw [← HW.out, ← hjeq] at hd
                rw [Hk.out, hd]
                split
                · rw [if_neg (by omega)]; omega
                · rw [if_neg (by omega)]; omega
              have HNn := Lib.hid hNn
              clear hNn h46 e46 hjeq
              go_wp2_with fail
              refine (at_any s j _).mono ?_
              rintro _ wz ⟨rfl, rfl⟩
              go_wp2_with fail
              refine (letter_any _ _).mono ?_
              rintro _ wz ⟨rfl, rfl⟩
              rw [H1.out]
              go_wp2_with fail
              refine (at_any s j _).mono ?_
              rintro _ wz ⟨rfl, rfl⟩
              go_wp2_with fail
              refine (digit_any _ _).mono ?_
              rintro _ wz ⟨rfl, rfl⟩
              rw [H2.out]
              go_wp2_with fail
              refine (at_any s j _).mono ?_
              rintro _ wz ⟨rfl, rfl⟩
              go_wp2_with fail
              refine (at_any s j _).mono ?_
              rintro _ wz ⟨rfl, rfl⟩
              go_wp2_with fail
              exact ⟨⟨j + 1, j, by omega, by omega, rfl, by go_num, HNn⟩, by simp [intOf]; omega⟩
end Go.Proofs.YtoinfjdhbopefaaGreatDoor.TkrA

/- The reference of stage 7: the limits of a name, numbers out of digits, digits out of numbers. -/
set_option linter.unusedSimpArgs false
set_option linter.unusedVariables false
namespace Go.Proofs.YtoinfjdhbopefaaGreatDoor.TkrB
open Go.RowKit Nums IdnM IdnC TokM TokD TokS IdrA TkrA

theorem fitN_yes {s : ByteArray} (h : atB s 0 = 46) : fitN s.data.toList = full (s.extract 1 s.size).data.toList := by
  have hp := at_46 h
  have hd := drop_at hp
  rw [List.drop_zero] at hd
  have e : (s.extract 1 s.size).data.toList = s.data.toList.drop 1 := by
    simp
    rw [List.take_of_length_le (by simp)]
  rw [e, hd, h]
  rfl
theorem fitN_no {s : ByteArray} (h : atB s 0 ≠ 46) : fitN s.data.toList = full s.data.toList := by
  rcases Nat.eq_zero_or_pos s.size with hz | hp
  · rw [List.length_eq_zero_iff.1 (show s.data.toList.length = 0 from hz)]; rfl
  · have hd := drop_at hp
    rw [List.drop_zero] at hd
    rw [hd]
    unfold fitN
    exact if_neg h
set_option maxHeartbeats 2000000 in
set_option maxRecDepth 100000 in
theorem fitting_any (s : ByteArray) (w : World) :
    Calls Tryz.prog 36 #[.string s] w fun e w' => e = .returned (.bool (fitN s.data.toList)) ∧ w = w' := by
  cases h46 : decide ((atB s 0).toNat = 46) with
  | true =>
    have e46 : atB s 0 = 46 := dec46.2 h46
    have t46 : (((atB s 0).toNat : Int) == 46) = true := beq_of (n := 46) h46
    have hp := at_46 e46
    have h1 : (1 : Int) ≤ s.size := by omega
    obtain ⟨p, hpp⟩ : ∃ p, p = fitN s.data.toList := ⟨_, rfl⟩
    rw [← hpp]
    have Hf := Lib.hid (hpp.trans (fitN_yes e46))
    clear e46 h46 hpp
    go_enter Tryz.func36, Tryz.ntmps36
    go_wp2_with fail
    refine (at_z s 0 0 rfl _).mono ?_
    rintro _ wz ⟨rfl, rfl⟩
    go_wp2_with fail
    refine (isFull_def _ _).mono ?_
    rintro _ wz ⟨rfl, rfl⟩
    rw [← Hf.out]
    go_wp2_with fail
    go_ret
    exact ⟨rfl, rfl⟩
  | false =>
    have e46 : ¬ atB s 0 = 46 := by intro e; rw [dec46.1 e] at h46; cases h46
    have t46 : (((atB s 0).toNat : Int) == 46) = false := beq_of (n := 46) h46
    obtain ⟨p, hpp⟩ : ∃ p, p = fitN s.data.toList := ⟨_, rfl⟩
    rw [← hpp]
    have Hf := Lib.hid (hpp.trans (fitN_no e46))
    clear e46 h46 hpp
    go_enter Tryz.func36, Tryz.ntmps36
    go_wp2_with fail
    refine (at_z s 0 0 rfl _).mono ?_
    rintro _ wz ⟨rfl, rfl⟩
    go_wp2_with fail
    refine (isFull_def _ _).mono ?_
    rintro _ wz ⟨rfl, rfl⟩
    rw [← Hf.out]
    go_wp2_with fail
    go_ret
    exact ⟨rfl, rfl⟩

def numT (ds : List UInt8) : Int × Nat := match number ds with | .ok n => (n, 0) | .error e => (0, e)
theorem natD_step {l : List UInt8} {k : Nat} {c : UInt8} (h : l[k]? = some c) : natD (l.take (k + 1)) = 10 * natD (l.take k) + (c.toNat - 48) := by
  rw [List.take_add_one, h]
  exact natD_snoc _ c
theorem natD_le {l : List UInt8} : ∀ (n k : Nat), natD (l.take k) ≤ natD (l.take (k + n))
  | 0, k => Nat.le_refl _
  | n + 1, k => by
    have ih := natD_le (l := l) n k
    cases h : l[k + n]? with
    | none =>
      have e : l.take (k + (n + 1)) = l.take (k + n) := by
        rw [show k + (n + 1) = (k + n) + 1 by omega, List.take_add_one, h]; simp
      rw [e]; exact ih
    | some c =>
      have := natD_step h
      rw [show k + (n + 1) = (k + n) + 1 by omega]
      omega
theorem natD_all {l : List UInt8} (k : Nat) (hk : k ≤ l.length) : natD (l.take k) ≤ natD l := by
  have := natD_le (l := l) (l.length - k) k
  rw [show k + (l.length - k) = l.length by omega, List.take_length] at this
  exact this
theorem wrap_sI (n : Nat) (h : n ≤ 18446744073709551615) : wrap64 (n : Int) = sI n := by
  unfold wrap64 sI
  split <;> omega

theorem quo_ex (d : Nat) (hd : d ≤ 9) : ∃ q : Nat, (18446744073709551615 - (d : Int)) / 10 = q ∧ ((q : Int) * 10 + d ≤ 18446744073709551615 ∧ 18446744073709551615 < (q : Int) * 10 + 10 + d) := by
  refine ⟨((18446744073709551615 - (d : Int)) / 10).toNat, ?_, ?_⟩
  · omega
  · omega
theorem mul_wrap (n d q : Nat) (h : (q : Int) * 10 + d ≤ 18446744073709551615) (hn : n ≤ q) : IntKind.u64.wrap (10 * (n : Int)) = 10 * n ∧ IntKind.u64.wrap (10 * (n : Int) + d) = 10 * n + d ∧ 10 * n + d ≤ 18446744073709551615 := by
  rw [IntKind.wrap_u64, IntKind.wrap_u64]
  omega
theorem big_of (n d q X : Nat) (h : 18446744073709551615 < (q : Int) * 10 + 10 + d) (hn : q < n) (hX : 10 * n + d ≤ X) : 18446744073709551616 ≤ X := by omega
set_option maxHeartbeats 2000000 in
set_option maxRecDepth 100000 in
theorem number_any (s : ByteArray) (hs : s.size ≤ 4294967296) (hd : ∀ (k : Nat) (h : k < s.size), dg s[k] = true) (w : World) :
    Calls Tryz.prog 55 #[.string s] w fun e w' => e = .returned (.tuple #[.int .i64 (numT s.data.toList).1, .int .i64 ((numT s.data.toList).2 : Int)]) ∧ w = w' := by
  have hsl : s.data.toList.length = s.size := rfl
  obtain ⟨v, hv⟩ : ∃ v, v = numT s.data.toList := ⟨_, rfl⟩
  rw [← hv]
  have Hd := Lib.hid hd
  clear hd
  by_cases h1 : 1 < s.size ∧ s.data.toList.head? = some 48
  · have hv2 : v = (0, 2) := by rw [hv, numT, number, if_pos (show 1 < s.data.toList.length ∧ s.data.toList.head? = some 48 from h1)]
    have hpos : 0 < s.size := by omega
    have e0 : s[0] = 48 := by
      have h2 : s.data.toList[0]? = some s[0] := List.getElem?_eq_getElem (show 0 < s.data.toList.length from hpos)
      rw [← List.head?_eq_getElem?, h1.2] at h2
      exact (Option.some.inj h2).symm
    have d1 : decide ((1 : Int) < s.size) = true := decide_eq_true (by omega)
    have d2 : ((s[0].toNat : Int) == 48) = true := by rw [e0]; rfl
    have Hv := Lib.hid hv2
    clear hv hv2 e0 h1
    go_enter Tryz.func55, Tryz.ntmps55
    go_wp2_with fail
    go_ret2
    exact ⟨by rw [Hv.out]; rfl, rfl⟩
  · obtain ⟨X, hX⟩ : ∃ X, X = natD s.data.toList := ⟨_, rfl⟩
    have hv2 : v = if 18446744073709551616 ≤ X then (0, 6) else (sI X, 0) := by
      rw [hv, numT, number, if_neg (show ¬ (1 < s.data.toList.length ∧ s.data.toList.head? = some 48) from h1), hX]
      by_cases h2 : 18446744073709551616 ≤ natD s.data.toList
      · rw [if_pos h2, if_pos h2]
      · rw [if_neg h2, if_neg h2]
    have Hv := Lib.hid hv2
    have HX := Lib.hid hX
    clear hv hv2 hX
    have key : ∀ (W : World), True := fun _ => trivial
    clear key
    by_cases hs1 : 1 < s.size
    · have hpos : 0 < s.size := by omega
      have e0 : s[0] ≠ 48 := by
        intro e
        refine h1 ⟨hs1, ?_⟩
        have h2 : s.data.toList[0]? = some s[0] := List.getElem?_eq_getElem (show 0 < s.data.toList.length from hpos)
        rw [List.head?_eq_getElem?, h2, e]
      have d1 : decide ((1 : Int) < s.size) = true := decide_eq_true (by omega)
      have d2 : ((s[0].toNat : Int) == 48) = false := by
        rw [beq_eq_false_iff_ne]
        intro e
        exact e0 (UInt8.toNat_inj.1 (show s[0].toNat = 48 by omega))
      clear e0 h1
      go_enter Tryz.func55, Tryz.ntmps55
      go_wp2_with fail
      go_loop [4, 5] (fun nv kv => ∃ k n : Nat, k ≤ s.size ∧ n ≤ 18446744073709551615 ∧ nv = .int .u64 n ∧ kv = .int .i64 k ∧ Hid (natD (s.data.toList.take k) = n)) (fun _ kv => s.size - (intOf kv).toNat)
      case atStart => exact ⟨0, 0, by omega, by omega, rfl, rfl, Lib.hid rfl⟩
      case round =>
        obtain ⟨k, n, hk, hn, rfl, rfl, Hk⟩ := hrel
        by_cases hlt : k < s.size
        · have hdk := Hd.out k hlt
          have hb : 48 ≤ s[k].toNat ∧ s[k].toNat ≤ 57 := by simpa [dg] using hdk
          have hgk : s.data.toList[k]? = some s[k] := List.getElem?_eq_getElem (show k < s.data.toList.length from hlt)
          have hst := natD_step hgk
          rw [Hk.out] at hst
          have hle := natD_all (l := s.data.toList) (k + 1) hlt
          obtain ⟨d, hdd⟩ : ∃ d : Nat, (s[k].toNat : Int) - 48 = d ∧ d ≤ 9 ∧ s[k].toNat - 48 = d := ⟨s[k].toNat - 48, by omega, by omega, rfl⟩
          obtain ⟨hd1, hd9, hd2⟩ := hdd
          rw [hd2] at hst
          rw [hst, ← HX.out] at hle
          have Hst := Lib.hid hst
          obtain ⟨q, hq, hq1, hq2⟩ := quo_ex d hd9
          have Hq1 := Lib.hid hq1
          have Hq2 := Lib.hid hq2
          have Hle := Lib.hid hle
          clear hq1 hq2 hle
          clear hst hgk hdk hb
          by_cases hbig : q < n
          · have hX6 : 18446744073709551616 ≤ X := big_of n d q X Hq2.out hbig Hle.out
            have hv6 : v = (0, 6) := by rw [Hv.out, if_pos hX6]
            have Hv6 := Lib.hid hv6
            clear hv6 hX6
            have dq : decide ((q : Int) < n) = true := decide_eq_true (by omega)
            go_wp2_with fail
            go_ret2
            exact ⟨by rw [Hv6.out]; rfl, rfl⟩
          · have dq : decide ((q : Int) < n) = false := decide_eq_false (by omega)
            obtain ⟨hm, hm2, hm3⟩ := mul_wrap n d q Hq1.out (by omega)
            have Hm3 := Lib.hid hm3
            clear hm3
            go_wp2_with fail
            exact ⟨⟨k + 1, 10 * n + d, by omega, Hm3.out, by simp, by go_num, Hst⟩, by simp [intOf]; omega⟩
        · obtain rfl : k = s.size := by omega
          have hXn : X = n := by
            have h1 := Hk.out
            rw [List.take_of_length_le (Nat.le_of_eq hsl)] at h1
            rw [HX.out, h1]
          have hvn : v = (sI n, 0) := by rw [Hv.out, if_neg (by rw [hXn]; omega), hXn]
          have hw := wrap_sI n hn
          have Hvn := Lib.hid hvn
          clear hXn hvn Hv
          go_wp2_with fail
          go_ret2
          exact ⟨by rw [Hvn.out]; rfl, rfl⟩
    · have d1 : decide ((1 : Int) < s.size) = false := decide_eq_false (by omega)
      clear h1
      go_enter Tryz.func55, Tryz.ntmps55
      go_wp2_with fail
      go_loop [4, 5] (fun nv kv => ∃ k n : Nat, k ≤ s.size ∧ n ≤ 18446744073709551615 ∧ nv = .int .u64 n ∧ kv = .int .i64 k ∧ Hid (natD (s.data.toList.take k) = n)) (fun _ kv => s.size - (intOf kv).toNat)
      case atStart => exact ⟨0, 0, by omega, by omega, rfl, rfl, Lib.hid rfl⟩
      case round =>
        obtain ⟨k, n, hk, hn, rfl, rfl, Hk⟩ := hrel
        by_cases hlt : k < s.size
        · have hdk := Hd.out k hlt
          have hb : 48 ≤ s[k].toNat ∧ s[k].toNat ≤ 57 := by simpa [dg] using hdk
          have hgk : s.data.toList[k]? = some s[k] := List.getElem?_eq_getElem (show k < s.data.toList.length from hlt)
          have hst := natD_step hgk
          rw [Hk.out] at hst
          have hle := natD_all (l := s.data.toList) (k + 1) hlt
          obtain ⟨d, hdd⟩ : ∃ d : Nat, (s[k].toNat : Int) - 48 = d ∧ d ≤ 9 ∧ s[k].toNat - 48 = d := ⟨s[k].toNat - 48, by omega, by omega, rfl⟩
          obtain ⟨hd1, hd9, hd2⟩ := hdd
          rw [hd2] at hst
          rw [hst, ← HX.out] at hle
          have Hst := Lib.hid hst
          obtain ⟨q, hq, hq1, hq2⟩ := quo_ex d hd9
          have Hq1 := Lib.hid hq1
          have Hq2 := Lib.hid hq2
          have Hle := Lib.hid hle
          clear hq1 hq2 hle
          clear hst hgk hdk hb
          by_cases hbig : q < n
          · have hX6 : 18446744073709551616 ≤ X := big_of n d q X Hq2.out hbig Hle.out
            have hv6 : v = (0, 6) := by rw [Hv.out, if_pos hX6]
            have Hv6 := Lib.hid hv6
            clear hv6 hX6
            have dq : decide ((q : Int) < n) = true := decide_eq_true (by omega)
            go_wp2_with fail
            go_ret2
            exact ⟨by rw [Hv6.out]; rfl, rfl⟩
          · have dq : decide ((q : Int) < n) = false := decide_eq_false (by omega)
            obtain ⟨hm, hm2, hm3⟩ := mul_wrap n d q Hq1.out (by omega)
            have Hm3 := Lib.hid hm3
            clear hm3
            go_wp2_with fail
            exact ⟨⟨k + 1, 10 * n + d, by omega, Hm3.out, by simp, by go_num, Hst⟩, by simp [intOf]; omega⟩
        · obtain rfl : k = s.size := by omega
          have hXn : X = n := by
            have h1 := Hk.out
            rw [List.take_of_length_le (Nat.le_of_eq hsl)] at h1
            rw [HX.out, h1]
          have hvn : v = (sI n, 0) := by rw [Hv.out, if_neg (by rw [hXn]; omega), hXn]
          have hw := wrap_sI n hn
          have Hvn := Lib.hid hvn
          clear hXn hvn Hv
          go_wp2_with fail
          go_ret2
          exact ⟨by rw [Hvn.out]; rfl, rfl⟩
end Go.Proofs.YtoinfjdhbopefaaGreatDoor.TkrB

/- The reference of stage 7: digits of a number, the integer that begins at a place. -/
set_option linter.unusedSimpArgs false
set_option linter.unusedVariables false
namespace Go.Proofs.YtoinfjdhbopefaaGreatDoor.TkrC
open Go.RowKit Nums IdnM IdnC TokM TokD TokS IdrA TkrA TkrB

/-- The digit of a number below ten. -/
def dig1 (d : Nat) : UInt8 := UInt8.ofNat (48 + d)
def decR (m : Nat) : List UInt8 := if m < 10 then [] else ScaM.dec (m / 10)
theorem dec_decR (m : Nat) : ScaM.dec m = decR m ++ [dig1 (m % 10)] := by
  unfold decR
  by_cases h : m < 10
  · rw [if_pos h, ScaM.dec_small h, show m % 10 = m by omega]; rfl
  · rw [if_neg h, ScaM.dec_large h]; rfl
theorem dig_nat (m : Nat) : (48 + ((m : Int) % 10)) = ((dig1 (m % 10)).toNat : Int) := by
  unfold dig1
  rw [UInt8.toNat_ofNat']
  omega

set_option maxHeartbeats 2000000 in
set_option maxRecDepth 100000 in
theorem decimal_any (n : Nat) (hn : n ≤ 18446744073709551615) (w : World) :
    Calls Tryz.prog 46 #[.int .u64 n] w fun e w' => e = .returned (.string ⟨(ScaM.dec n).toArray⟩) ∧ Below w.heap.size w w' := by
  have hdl := ScaM.dec_len 19 n (by omega)
  have H0 := Lib.hid (dec_decR n)
  have Hdl := Lib.hid hdl
  clear hdl
  have hcv := fun (W : World) => IdrC.conv_z W _ _ (dig_nat n)
  go_enter Tryz.func46, Tryz.ntmps46
  go_wp2_with fail
  clear hcv
  go_loopw [0, 3] (fun nv sv wr => ∃ (m : Nat) (T : ByteArray), nv = .int .u64 m ∧ sv = .string T ∧ m ≤ 18446744073709551615 ∧ T.size ≤ 20 ∧ Hid (ScaM.dec n = decR m ++ T.data.toList) ∧ Hid (Below w.heap.size w wr)) (fun nv _ _ => (intOf nv).toNat)
  case atStart => exact ⟨n, ⟨#[dig1 (n % 10)]⟩, rfl, rfl, hn, by show 1 ≤ 20; decide, Lib.hid H0.out, Lib.hid ((Below.refl _ _).alloc (Nat.le_refl _) _)⟩
  case round =>
    obtain ⟨m, T, rfl, rfl, hm, hT, Hm, HB⟩ := hrel
    by_cases h10 : m < 10
    · have d1 : decide ((10 : Int) ≤ m) = false := decide_eq_false (by omega)
      have hf : ScaM.dec n = T.data.toList := by rw [Hm.out, decR, if_pos h10]; rfl
      have Hf := Lib.hid hf
      clear hf
      go_wp2_with fail
      go_ret
      refine ⟨?_, HB.out⟩
      rw [Hf.out]
      rfl
    · have d1 : decide ((10 : Int) ≤ m) = true := decide_eq_true (by omega)
      have hm2 : decR m = decR (m / 10) ++ [dig1 (m / 10 % 10)] := by
        rw [decR, if_neg h10, dec_decR]
      have hnext : ScaM.dec n = decR (m / 10) ++ ((⟨#[dig1 (m / 10 % 10)]⟩ : ByteArray) ++ T).data.toList := by
        rw [Hm.out, hm2, append_toList]
        simp [IdrC.one_data]
      have hsz : ((⟨#[dig1 (m / 10 % 10)]⟩ : ByteArray) ++ T).size ≤ 20 := by
        have h1 := congrArg List.length hnext
        rw [List.length_append] at h1
        have h2 := Hdl.out
        have h3 : ((⟨#[dig1 (m / 10 % 10)]⟩ : ByteArray) ++ T).data.toList.length = ((⟨#[dig1 (m / 10 % 10)]⟩ : ByteArray) ++ T).size := rfl
        omega
      have hsum : (⟨#[dig1 (m / 10 % 10)]⟩ : ByteArray).size + T.size ≤ 9223372036854775807 := by
        show 1 + T.size ≤ _; omega
      have hz := dig_nat (m / 10)
      have hcv := fun (W : World) => IdrC.conv_z W _ _ hz
      have hdiv : (((m / 10 : Nat) : Int)) = (m : Int) / 10 := by omega
      rw [hdiv] at hcv
      have Hnext := Lib.hid hnext
      have Hsz := Lib.hid hsz
      clear hm2 hnext hz hsz
      go_wp2_with fail
      exact ⟨⟨m / 10, (⟨#[dig1 (m / 10 % 10)]⟩ : ByteArray) ++ T, by rw [hdiv], rfl, by omega, Hsz.out, Hnext, Lib.hid (HB.out.alloc HB.out.size _)⟩, by simp [intOf]; omega⟩

end Go.Proofs.YtoinfjdhbopefaaGreatDoor.TkrC
