/- The contract of number of the reference of package scalar: decimal numbers, read. -/
import Derived.Test.YtgjbpadhdnclnaaGreatDoorScaD
import Derived.Test.YtgjbpadhdnclnaaGreatDoorUtfL
import Derived.Deep.CutRange
import Derived.Deep.DeepCutAuto
set_option linter.unusedSimpArgs false
set_option linter.unusedVariables false
namespace Go.Proofs.YtgjbpadhdnclnaaGreatDoor.ScaN
open Go.RowKit Nums Byt UtfM UtfS ScaM ScaV ScaA ScaB ScaD UtfR UtfK UtfL

def isD (c : UInt8) : Bool := decide (48 ≤ c.toNat) && decide (c.toNat ≤ 57)
def natOf (l : List UInt8) : Nat := l.foldl (fun a c => 10 * a + (c.toNat - 48)) 0
theorem natOf_snoc (l : List UInt8) (c : UInt8) : natOf (l ++ [c]) = 10 * natOf l + (c.toNat - 48) := by unfold natOf; rw [List.foldl_append]; rfl
/-- The absolute value, whether there is a minus, and the error. -/
def numD (neg : Bool) (l ds : List UInt8) : Nat × Bool × Int :=
  if ds = [] ∨ (ds.head? = some 48 ∧ l ≠ [48]) ∨ ds.all isD = false then (0, false, 2) else if 18446744073709551616 ≤ natOf ds then (0, false, 6) else (natOf ds, neg, 0)
def numV (l : List UInt8) : Nat × Bool × Int := if l.head? = some 45 then numD true l (l.drop 1) else numD false l l
theorem ret_n {a b : Nat} {c d : Bool} {e f : Int} (h : (a, c, e) = (b, d, f)) : Ending.returned (.tuple #[.int .u64 a, .bool c, .int .i64 e]) = .returned (.tuple #[.int .u64 b, .bool d, .int .i64 f]) := by
  injection h with h1 h2
  injection h2 with h2 h3
  rw [h1, h2, h3]
theorem all_false {l : List UInt8} {k : Nat} {c : UInt8} (h : l[k]? = some c) (hc : isD c = false) : l.all isD = false := by
  rw [List.all_eq_false]
  exact ⟨c, List.mem_of_getElem? h, by simp [hc]⟩
theorem take_snoc {D : ByteArray} {k : Nat} (h : k < D.size) : D.data.toList.take (k + 1) = D.data.toList.take k ++ [D[k]] := by
  rw [List.take_succ_eq_append_getElem (show k < D.data.toList.length from h)]; rfl
/-- What the loop knows after some digits. -/
def Known (ds : List UInt8) (U : Nat) (L : Bool) : Prop := ds.all isD = true ∧ (L = false → U = natOf ds) ∧ (L = true → 18446744073709551616 ≤ natOf ds)

set_option maxHeartbeats 4000000 in
set_option maxRecDepth 100000 in
theorem number_any (s : ByteArray) (hs : s.size ≤ 4611686018427387904) (w : World) : Calls Tryz.prog 70 #[.string s] w fun e w' => e = .returned (.tuple #[.int .u64 (numV s.data.toList).1, .bool (numV s.data.toList).2.1, .int .i64 (numV s.data.toList).2.2]) ∧ w = w' := by
  have hsi : (s.size : Int) ≤ 4611686018427387904 := by omega
  by_cases hz : s.size = 0
  · have hl : s.data.toList = [] := List.eq_nil_of_length_eq_zero hz
    have hf : numV s.data.toList = (0, false, 2) := by rw [hl]; rfl
    have Hf := Lib.hid hf
    have he := empty_yes hz
    have z1 : decide ((0 : Int) < s.size) = false := by simp [hz]
    have z2 : decide (0 < s.size) = false := by simp [hz]
    clear hf hl hz
    go_enter Tryz.func70, Tryz.ntmps70
    go_wp2_with fail
    go_ret3
    exact ⟨ret_n (by rw [Hf.out]), rfl⟩
  · have he := empty_no hz
    have h0s : 0 < s.size := by omega
    have z1 : decide ((0 : Int) < s.size) = true := by simp; omega
    have z2 : decide (0 < s.size) = true := by simp; omega
    have hhead : s.data.toList.head? = some s[0] := by rw [List.head?_eq_getElem?]; exact lget h0s
    by_cases cm : s[0] = 45
    · have e45 : ((s[0].toNat : Int) == 45) = true := beq_yes cm
      have h1s : (1 : Int) ≤ s.size := by omega
      obtain ⟨D, hD⟩ : ∃ D, D = s.extract 1 s.size := ⟨_, rfl⟩
      have hDd : D.data.toList = s.data.toList.drop 1 := by rw [hD, drop_data]
      have hDs : D.size ≤ 4611686018427387904 := by rw [hD, ByteArray.size_extract]; omega
      have hnum : numV s.data.toList = numD true s.data.toList D.data.toList := by unfold numV; rw [hhead, cm, if_pos rfl, hDd]
      by_cases hdz : D.size = 0
      · have hdl : D.data.toList = [] := List.eq_nil_of_length_eq_zero hdz
        have hf : numV s.data.toList = (0, false, 2) := by rw [hnum]; unfold numD; rw [if_pos (.inl hdl)]
        have Hf := Lib.hid hf
        have hde := empty_yes hdz
        rw [hD] at hde
        clear hf hdl hdz hnum hDd hDs hD cm hhead hz
        go_enter Tryz.func70, Tryz.ntmps70
        go_wp2_with fail
        go_ret3
        exact ⟨ret_n (by rw [Hf.out]), rfl⟩
      · have hde := empty_no hdz
        have hd0 : 0 < D.size := by omega
        have hdhead : D.data.toList.head? = some D[0] := by rw [List.head?_eq_getElem?]; exact lget hd0
        have hne : D.data.toList ≠ [] := by intro e; rw [e] at hdhead; cases hdhead
        have hs48 : s.data.toList ≠ [48] := by intro e; rw [e] at hhead; injection hhead with h; rw [← h] at cm; cases cm
        have n48 : (s.toList == [48]) = false := by rw [ByteArray.toList_eq, beq_eq_false_iff_ne]; exact hs48
        have hDsI : (D.size : Int) ≤ 4611686018427387904 := by omega
        by_cases c48 : D[0] = 48
        · have hf : numV s.data.toList = (0, false, 2) := by rw [hnum]; unfold numD; rw [if_pos (.inr (.inl ⟨by rw [hdhead, c48], hs48⟩))]
          have e48 : ((D[0].toNat : Int) == 48) = true := beq_yes c48
          have Hf := Lib.hid hf
          have HD := Lib.hid hD.symm
          clear hf hs48 hnum hne c48 cm hhead hz hdhead hDd hD hdz
          go_enter Tryz.func70, Tryz.ntmps70
          go_upto_region 4 with fail
          simp only [HD.out]
          go_wp2_with fail
          go_ret3
          exact ⟨ret_n (by rw [Hf.out]), rfl⟩
        · have e48 : ((D[0].toNat : Int) == 48) = false := beq_no c48
          have h0 : ¬ (D.data.toList.head? = some 48 ∧ s.data.toList ≠ [48]) := fun h => by rw [hdhead] at h; injection h.1 with h1; exact c48 h1
          have hgood : D.data.toList.all isD = true → numV s.data.toList = if 18446744073709551616 ≤ natOf D.data.toList then (0, false, 6) else (natOf D.data.toList, true, 0) := by
            intro h
            rw [hnum]; unfold numD
            rw [if_neg (by intro h2; rcases h2 with h2 | h2 | h2; exact hne h2; exact h0 h2; rw [h] at h2; cases h2)]
          have hbad : D.data.toList.all isD = false → numV s.data.toList = (0, false, 2) := by
            intro h
            rw [hnum]; unfold numD
            rw [if_pos (.inr (.inr h))]
          have Hgood := Lib.hid hgood
          have Hbad := Lib.hid hbad
          have HD := Lib.hid hD.symm
          clear hgood hbad h0 hnum hne c48 cm hhead hz hs48 hdhead hDd hD hdz
          go_enter Tryz.func70, Tryz.ntmps70
          go_upto_region 4 with fail
          simp only [HD.out]
          go_wp2_with fail
          go_loop [7, 8, 9] (fun u lg t => ∃ (k U : Nat) (L : Bool), k ≤ D.size ∧ U ≤ 18446744073709551615 ∧ u = .int .u64 U ∧ lg = .bool L ∧ t = .int .i64 k ∧ Hid (Known (D.data.toList.take k) U L)) (fun _ _ t => D.size - (intOf t).toNat)
          case atStart => exact ⟨0, 0, false, by omega, by omega, rfl, rfl, rfl, Lib.hid ⟨by simp, fun _ => by simp [natOf], (fun h => by cases h)⟩⟩
          case round =>
            obtain ⟨k, U, L, hk, hU, rfl, rfl, rfl, Hk⟩ := hrel
            by_cases hlt : k < D.size
            · have hg := lget hlt
              have Hg := Lib.hid hg
              clear hg
              have Ht := Lib.hid (take_snoc hlt)
              have hc256 : (D[k].toNat : Int) < 256 := by have := D[k].toNat_lt; omega
              by_cases hlo : D[k].toNat < 48
              · have d1 : decide ((D[k].toNat : Int) < 48) = true := by simp; omega
                have hb : D.data.toList.all isD = false := all_false Hg.out (by unfold isD; simp; omega)
                have Hn := Lib.hid (Hbad.out hb)
                clear hb hlo
                go_wp2_with fail
                go_ret3
                exact ⟨ret_n (by rw [Hn.out]), rfl⟩
              · have d1 : decide ((D[k].toNat : Int) < 48) = false := by simp; omega
                by_cases hhi : 57 < D[k].toNat
                · have d2 : decide ((57 : Int) < D[k].toNat) = true := by simp; omega
                  have hb : D.data.toList.all isD = false := all_false Hg.out (by unfold isD; simp; omega)
                  have Hn := Lib.hid (Hbad.out hb)
                  clear hb hlo hhi
                  go_wp2_with fail
                  go_ret3
                  exact ⟨ret_n (by rw [Hn.out]), rfl⟩
                · have d2 : decide ((57 : Int) < D[k].toNat) = false := by simp; omega
                  have hisd : isD D[k] = true := by unfold isD; simp; omega
                  have hc1 : (48 : Int) ≤ D[k].toNat := by omega
                  have hc2 : (D[k].toNat : Int) ≤ 57 := by omega
                  have Hisd := Lib.hid hisd
                  clear hisd hlo hhi
                  obtain ⟨c, hc⟩ : ∃ c : Nat, c = D[k].toNat - 48 := ⟨_, rfl⟩
                  have hci : (D[k].toNat : Int) - 48 = (c : Int) := by omega
                  have hc9 : c ≤ 9 := by omega
                  have Hc := Lib.hid hc
                  have Hci := Lib.hid hci
                  clear hc
                  obtain ⟨q, hq⟩ : ∃ q : Nat, q = (18446744073709551615 - c) / 10 := ⟨_, rfl⟩
                  have hqi : (18446744073709551615 - (c : Int)) / 10 = (q : Int) := by rw [hq]; omega
                  have Hq := Lib.hid hq
                  clear hq
                  have hstep : natOf (D.data.toList.take (k + 1)) = 10 * natOf (D.data.toList.take k) + c := by rw [Ht.out, natOf_snoc, Hc.out]
                  have hall : (D.data.toList.take (k + 1)).all isD = true := by rw [Ht.out, List.all_append, Hk.out.1]; simp [Hisd.out]
                  have Hstep := Lib.hid hstep
                  have Hall := Lib.hid hall
                  clear hstep hall
                  by_cases hgt : q < U
                  · have d3 : decide (q < U) = true := by simp; omega
                    have d3i : decide ((q : Int) < U) = true := by simp; omega
                    cases L with
                    | true =>
                      go_wp2_with fail
                      refine ⟨⟨k + 1, U, true, by omega, hU, rfl, rfl, by go_num, Lib.hid ⟨Hall.out, (fun h => by cases h), fun _ => ?_⟩⟩, by simp [intOf]; omega⟩
                      have h1 := Hk.out.2.2 rfl
                      rw [Hstep.out]; omega
                    | false =>
                      go_wp2_with fail
                      refine ⟨⟨k + 1, U, true, by omega, hU, rfl, rfl, by go_num, Lib.hid ⟨Hall.out, (fun h => by cases h), fun _ => ?_⟩⟩, by simp [intOf]; omega⟩
                      have h1 := Hk.out.2.1 rfl
                      have h2 := Hq.out
                      rw [Hstep.out, ← h1]; omega
                  · have d3 : decide (q < U) = false := by simp; omega
                    have d3i : decide ((q : Int) < U) = false := by simp; omega
                    cases L with
                    | true =>
                      go_wp2_with fail
                      refine ⟨⟨k + 1, U, true, by omega, hU, rfl, rfl, by go_num, Lib.hid ⟨Hall.out, (fun h => by cases h), fun _ => ?_⟩⟩, by simp [intOf]; omega⟩
                      have h1 := Hk.out.2.2 rfl
                      rw [Hstep.out]; omega
                    | false =>
                      have hu10 : (10 : Int) * U + c ≤ 18446744073709551615 := by have h2 := Hq.out; omega
                      go_wp2_with fail
                      refine ⟨⟨k + 1, 10 * U + c, false, by omega, by omega, by go_num, rfl, by go_num, Lib.hid ⟨Hall.out, fun _ => ?_, (fun h => by cases h)⟩⟩, by simp [intOf]; omega⟩
                      rw [Hstep.out, ← Hk.out.2.1 rfl]
            · obtain rfl : k = D.size := by omega
              have hfull : D.data.toList.take D.size = D.data.toList := List.take_length
              have hk2 := Hk.out
              rw [hfull] at hk2
              have Hk2 := Lib.hid hk2
              clear hfull hk2
              cases L with
              | true =>
                have hn := Hgood.out Hk2.out.1
                rw [if_pos (Hk2.out.2.2 rfl)] at hn
                have Hn := Lib.hid hn
                clear hn
                go_wp2_with fail
                go_ret3
                exact ⟨ret_n (by rw [Hn.out]), rfl⟩
              | false =>
                have hn := Hgood.out Hk2.out.1
                have hu := Hk2.out.2.1 rfl
                rw [← hu, if_neg (by omega)] at hn
                have Hn := Lib.hid hn
                clear hn hu
                go_wp2_with fail
                go_ret3
                exact ⟨ret_n (by rw [Hn.out]), rfl⟩
    · have e45 : ((s[0].toNat : Int) == 45) = false := beq_no cm
      have hnum : numV s.data.toList = numD false s.data.toList s.data.toList := by unfold numV; rw [hhead, if_neg (by intro h; injection h with h; exact cm h)]
      have hne : s.data.toList ≠ [] := by intro e; rw [e] at hhead; cases hhead
      by_cases c48 : s[0] = 48
      · have e48 : ((s[0].toNat : Int) == 48) = true := beq_yes c48
        by_cases hs0 : s.data.toList = [48]
        · have n48 : (s.toList == [48]) = true := by rw [ByteArray.toList_eq, hs0]; rfl
          have h0 : ¬ (s.data.toList.head? = some 48 ∧ s.data.toList ≠ [48]) := fun h => h.2 hs0
          have hgood : s.data.toList.all isD = true → numV s.data.toList = if 18446744073709551616 ≤ natOf s.data.toList then (0, false, 6) else (natOf s.data.toList, false, 0) := by
            intro h
            rw [hnum]; unfold numD
            rw [if_neg (by intro h2; rcases h2 with h2 | h2 | h2; exact hne h2; exact h0 h2; rw [h] at h2; cases h2)]
          have hbad : s.data.toList.all isD = false → numV s.data.toList = (0, false, 2) := by
            intro h
            rw [hnum]; unfold numD
            rw [if_pos (.inr (.inr h))]
          have Hgood := Lib.hid hgood
          have Hbad := Lib.hid hbad
          clear hgood hbad h0 hs0 hnum hne c48 cm hhead hz
          go_enter Tryz.func70, Tryz.ntmps70
          go_wp2_with fail
          go_loop [7, 8, 9] (fun u lg t => ∃ (k U : Nat) (L : Bool), k ≤ s.size ∧ U ≤ 18446744073709551615 ∧ u = .int .u64 U ∧ lg = .bool L ∧ t = .int .i64 k ∧ Hid (Known (s.data.toList.take k) U L)) (fun _ _ t => s.size - (intOf t).toNat)
          case atStart => exact ⟨0, 0, false, by omega, by omega, rfl, rfl, rfl, Lib.hid ⟨by simp, fun _ => by simp [natOf], (fun h => by cases h)⟩⟩
          case round =>
            obtain ⟨k, U, L, hk, hU, rfl, rfl, rfl, Hk⟩ := hrel
            by_cases hlt : k < s.size
            · have hg := lget hlt
              have Hg := Lib.hid hg
              clear hg
              have Ht := Lib.hid (take_snoc hlt)
              have hc256 : (s[k].toNat : Int) < 256 := by have := s[k].toNat_lt; omega
              by_cases hlo : s[k].toNat < 48
              · have d1 : decide ((s[k].toNat : Int) < 48) = true := by simp; omega
                have hb : s.data.toList.all isD = false := all_false Hg.out (by unfold isD; simp; omega)
                have Hn := Lib.hid (Hbad.out hb)
                clear hb hlo
                go_wp2_with fail
                go_ret3
                exact ⟨ret_n (by rw [Hn.out]), rfl⟩
              · have d1 : decide ((s[k].toNat : Int) < 48) = false := by simp; omega
                by_cases hhi : 57 < s[k].toNat
                · have d2 : decide ((57 : Int) < s[k].toNat) = true := by simp; omega
                  have hb : s.data.toList.all isD = false := all_false Hg.out (by unfold isD; simp; omega)
                  have Hn := Lib.hid (Hbad.out hb)
                  clear hb hlo hhi
                  go_wp2_with fail
                  go_ret3
                  exact ⟨ret_n (by rw [Hn.out]), rfl⟩
                · have d2 : decide ((57 : Int) < s[k].toNat) = false := by simp; omega
                  have hisd : isD s[k] = true := by unfold isD; simp; omega
                  have hc1 : (48 : Int) ≤ s[k].toNat := by omega
                  have hc2 : (s[k].toNat : Int) ≤ 57 := by omega
                  have Hisd := Lib.hid hisd
                  clear hisd hlo hhi
                  obtain ⟨c, hc⟩ : ∃ c : Nat, c = s[k].toNat - 48 := ⟨_, rfl⟩
                  have hci : (s[k].toNat : Int) - 48 = (c : Int) := by omega
                  have hc9 : c ≤ 9 := by omega
                  have Hc := Lib.hid hc
                  have Hci := Lib.hid hci
                  clear hc
                  obtain ⟨q, hq⟩ : ∃ q : Nat, q = (18446744073709551615 - c) / 10 := ⟨_, rfl⟩
                  have hqi : (18446744073709551615 - (c : Int)) / 10 = (q : Int) := by rw [hq]; omega
                  have Hq := Lib.hid hq
                  clear hq
                  have hstep : natOf (s.data.toList.take (k + 1)) = 10 * natOf (s.data.toList.take k) + c := by rw [Ht.out, natOf_snoc, Hc.out]
                  have hall : (s.data.toList.take (k + 1)).all isD = true := by rw [Ht.out, List.all_append, Hk.out.1]; simp [Hisd.out]
                  have Hstep := Lib.hid hstep
                  have Hall := Lib.hid hall
                  clear hstep hall
                  by_cases hgt : q < U
                  · have d3 : decide (q < U) = true := by simp; omega
                    have d3i : decide ((q : Int) < U) = true := by simp; omega
                    cases L with
                    | true =>
                      go_wp2_with fail
                      refine ⟨⟨k + 1, U, true, by omega, hU, rfl, rfl, by go_num, Lib.hid ⟨Hall.out, (fun h => by cases h), fun _ => ?_⟩⟩, by simp [intOf]; omega⟩
                      have h1 := Hk.out.2.2 rfl
                      rw [Hstep.out]; omega
                    | false =>
                      go_wp2_with fail
                      refine ⟨⟨k + 1, U, true, by omega, hU, rfl, rfl, by go_num, Lib.hid ⟨Hall.out, (fun h => by cases h), fun _ => ?_⟩⟩, by simp [intOf]; omega⟩
                      have h1 := Hk.out.2.1 rfl
                      have h2 := Hq.out
                      rw [Hstep.out, ← h1]; omega
                  · have d3 : decide (q < U) = false := by simp; omega
                    have d3i : decide ((q : Int) < U) = false := by simp; omega
                    cases L with
                    | true =>
                      go_wp2_with fail
                      refine ⟨⟨k + 1, U, true, by omega, hU, rfl, rfl, by go_num, Lib.hid ⟨Hall.out, (fun h => by cases h), fun _ => ?_⟩⟩, by simp [intOf]; omega⟩
                      have h1 := Hk.out.2.2 rfl
                      rw [Hstep.out]; omega
                    | false =>
                      have hu10 : (10 : Int) * U + c ≤ 18446744073709551615 := by have h2 := Hq.out; omega
                      go_wp2_with fail
                      refine ⟨⟨k + 1, 10 * U + c, false, by omega, by omega, by go_num, rfl, by go_num, Lib.hid ⟨Hall.out, fun _ => ?_, (fun h => by cases h)⟩⟩, by simp [intOf]; omega⟩
                      rw [Hstep.out, ← Hk.out.2.1 rfl]
            · obtain rfl : k = s.size := by omega
              have hfull : s.data.toList.take s.size = s.data.toList := List.take_length
              have hk2 := Hk.out
              rw [hfull] at hk2
              have Hk2 := Lib.hid hk2
              clear hfull hk2
              cases L with
              | true =>
                have hn := Hgood.out Hk2.out.1
                rw [if_pos (Hk2.out.2.2 rfl)] at hn
                have Hn := Lib.hid hn
                clear hn
                go_wp2_with fail
                go_ret3
                exact ⟨ret_n (by rw [Hn.out]), rfl⟩
              | false =>
                have hn := Hgood.out Hk2.out.1
                have hu := Hk2.out.2.1 rfl
                rw [← hu, if_neg (by omega)] at hn
                have Hn := Lib.hid hn
                clear hn hu
                go_wp2_with fail
                go_ret3
                exact ⟨ret_n (by rw [Hn.out]), rfl⟩
        · have n48 : (s.toList == [48]) = false := by rw [ByteArray.toList_eq, beq_eq_false_iff_ne]; exact hs0
          have hf : numV s.data.toList = (0, false, 2) := by rw [hnum]; unfold numD; rw [if_pos (.inr (.inl ⟨by rw [hhead, c48], hs0⟩))]
          have Hf := Lib.hid hf
          clear hf hs0 hnum hne c48 cm hhead hz
          go_enter Tryz.func70, Tryz.ntmps70
          go_wp2_with fail
          go_ret3
          exact ⟨ret_n (by rw [Hf.out]), rfl⟩
      · have e48 : ((s[0].toNat : Int) == 48) = false := beq_no c48
        have h0 : ¬ (s.data.toList.head? = some 48 ∧ s.data.toList ≠ [48]) := fun h => by rw [hhead] at h; injection h.1 with h1; exact c48 h1
        have hgood : s.data.toList.all isD = true → numV s.data.toList = if 18446744073709551616 ≤ natOf s.data.toList then (0, false, 6) else (natOf s.data.toList, false, 0) := by
          intro h
          rw [hnum]; unfold numD
          rw [if_neg (by intro h2; rcases h2 with h2 | h2 | h2; exact hne h2; exact h0 h2; rw [h] at h2; cases h2)]
        have hbad : s.data.toList.all isD = false → numV s.data.toList = (0, false, 2) := by
          intro h
          rw [hnum]; unfold numD
          rw [if_pos (.inr (.inr h))]
        have Hgood := Lib.hid hgood
        have Hbad := Lib.hid hbad
        clear hgood hbad h0 hnum hne c48 cm hhead hz
        go_enter Tryz.func70, Tryz.ntmps70
        go_wp2_with fail
        go_loop [7, 8, 9] (fun u lg t => ∃ (k U : Nat) (L : Bool), k ≤ s.size ∧ U ≤ 18446744073709551615 ∧ u = .int .u64 U ∧ lg = .bool L ∧ t = .int .i64 k ∧ Hid (Known (s.data.toList.take k) U L)) (fun _ _ t => s.size - (intOf t).toNat)
        case atStart => exact ⟨0, 0, false, by omega, by omega, rfl, rfl, rfl, Lib.hid ⟨by simp, fun _ => by simp [natOf], (fun h => by cases h)⟩⟩
        case round =>
          obtain ⟨k, U, L, hk, hU, rfl, rfl, rfl, Hk⟩ := hrel
          by_cases hlt : k < s.size
          · have hg := lget hlt
            have Hg := Lib.hid hg
            clear hg
            have Ht := Lib.hid (take_snoc hlt)
            have hc256 : (s[k].toNat : Int) < 256 := by have := s[k].toNat_lt; omega
            by_cases hlo : s[k].toNat < 48
            · have d1 : decide ((s[k].toNat : Int) < 48) = true := by simp; omega
              have hb : s.data.toList.all isD = false := all_false Hg.out (by unfold isD; simp; omega)
              have Hn := Lib.hid (Hbad.out hb)
              clear hb hlo
              go_wp2_with fail
              go_ret3
              exact ⟨ret_n (by rw [Hn.out]), rfl⟩
            · have d1 : decide ((s[k].toNat : Int) < 48) = false := by simp; omega
              by_cases hhi : 57 < s[k].toNat
              · have d2 : decide ((57 : Int) < s[k].toNat) = true := by simp; omega
                have hb : s.data.toList.all isD = false := all_false Hg.out (by unfold isD; simp; omega)
                have Hn := Lib.hid (Hbad.out hb)
                clear hb hlo hhi
                go_wp2_with fail
                go_ret3
                exact ⟨ret_n (by rw [Hn.out]), rfl⟩
              · have d2 : decide ((57 : Int) < s[k].toNat) = false := by simp; omega
                have hisd : isD s[k] = true := by unfold isD; simp; omega
                have hc1 : (48 : Int) ≤ s[k].toNat := by omega
                have hc2 : (s[k].toNat : Int) ≤ 57 := by omega
                have Hisd := Lib.hid hisd
                clear hisd hlo hhi
                obtain ⟨c, hc⟩ : ∃ c : Nat, c = s[k].toNat - 48 := ⟨_, rfl⟩
                have hci : (s[k].toNat : Int) - 48 = (c : Int) := by omega
                have hc9 : c ≤ 9 := by omega
                have Hc := Lib.hid hc
                have Hci := Lib.hid hci
                clear hc
                obtain ⟨q, hq⟩ : ∃ q : Nat, q = (18446744073709551615 - c) / 10 := ⟨_, rfl⟩
                have hqi : (18446744073709551615 - (c : Int)) / 10 = (q : Int) := by rw [hq]; omega
                have Hq := Lib.hid hq
                clear hq
                have hstep : natOf (s.data.toList.take (k + 1)) = 10 * natOf (s.data.toList.take k) + c := by rw [Ht.out, natOf_snoc, Hc.out]
                have hall : (s.data.toList.take (k + 1)).all isD = true := by rw [Ht.out, List.all_append, Hk.out.1]; simp [Hisd.out]
                have Hstep := Lib.hid hstep
                have Hall := Lib.hid hall
                clear hstep hall
                by_cases hgt : q < U
                · have d3 : decide (q < U) = true := by simp; omega
                  have d3i : decide ((q : Int) < U) = true := by simp; omega
                  cases L with
                  | true =>
                    go_wp2_with fail
                    refine ⟨⟨k + 1, U, true, by omega, hU, rfl, rfl, by go_num, Lib.hid ⟨Hall.out, (fun h => by cases h), fun _ => ?_⟩⟩, by simp [intOf]; omega⟩
                    have h1 := Hk.out.2.2 rfl
                    rw [Hstep.out]; omega
                  | false =>
                    go_wp2_with fail
                    refine ⟨⟨k + 1, U, true, by omega, hU, rfl, rfl, by go_num, Lib.hid ⟨Hall.out, (fun h => by cases h), fun _ => ?_⟩⟩, by simp [intOf]; omega⟩
                    have h1 := Hk.out.2.1 rfl
                    have h2 := Hq.out
                    rw [Hstep.out, ← h1]; omega
                · have d3 : decide (q < U) = false := by simp; omega
                  have d3i : decide ((q : Int) < U) = false := by simp; omega
                  cases L with
                  | true =>
                    go_wp2_with fail
                    refine ⟨⟨k + 1, U, true, by omega, hU, rfl, rfl, by go_num, Lib.hid ⟨Hall.out, (fun h => by cases h), fun _ => ?_⟩⟩, by simp [intOf]; omega⟩
                    have h1 := Hk.out.2.2 rfl
                    rw [Hstep.out]; omega
                  | false =>
                    have hu10 : (10 : Int) * U + c ≤ 18446744073709551615 := by have h2 := Hq.out; omega
                    go_wp2_with fail
                    refine ⟨⟨k + 1, 10 * U + c, false, by omega, by omega, by go_num, rfl, by go_num, Lib.hid ⟨Hall.out, fun _ => ?_, (fun h => by cases h)⟩⟩, by simp [intOf]; omega⟩
                    rw [Hstep.out, ← Hk.out.2.1 rfl]
          · obtain rfl : k = s.size := by omega
            have hfull : s.data.toList.take s.size = s.data.toList := List.take_length
            have hk2 := Hk.out
            rw [hfull] at hk2
            have Hk2 := Lib.hid hk2
            clear hfull hk2
            cases L with
            | true =>
              have hn := Hgood.out Hk2.out.1
              rw [if_pos (Hk2.out.2.2 rfl)] at hn
              have Hn := Lib.hid hn
              clear hn
              go_wp2_with fail
              go_ret3
              exact ⟨ret_n (by rw [Hn.out]), rfl⟩
            | false =>
              have hn := Hgood.out Hk2.out.1
              have hu := Hk2.out.2.1 rfl
              rw [← hu, if_neg (by omega)] at hn
              have Hn := Lib.hid hn
              clear hn hu
              go_wp2_with fail
              go_ret3
              exact ⟨ret_n (by rw [Hn.out]), rfl⟩
end Go.Proofs.YtgjbpadhdnclnaaGreatDoor.ScaN
