import Derived.Test.YthjpchnogllliaaGreatDoorScaF
import Derived.Test.YthjpchnogllliaaGreatDoorUtfL
import Derived.Deep.CutRange
import Derived.Deep.DeepCutAuto
import Derived.Test.YthjpchnogllliaaGreatDoorScaC
import Derived.Test.YthjpchnogllliaaGreatDoorUtfB
import Derived.Deep.RegionHeld3
/- The contract of number of the reference of package scalar: decimal numbers, read. -/
set_option linter.unusedSimpArgs false
set_option linter.unusedVariables false
namespace Go.Proofs.YthjpchnogllliaaGreatDoor.ScaN
open Go.RowKit Nums Byt UtfM UtfS ScaM ScaV ScaA ScaB ScaD UtfR UtfK UtfL

def isD (c : UInt8) : Bool := decide (48 ≤ c.toNat) && decide (c.toNat ≤ 57)
def natOf (l : List UInt8) : Nat := l.foldl (fun a c => 10 * a + (c.toNat - 48)) 0
theorem natOf_snoc (l : List UInt8) (c : UInt8) : natOf (l ++ [c]) = 10 * natOf l + (c.toNat - 48) := by unfold natOf; rw [List.foldl_append]; rfl
/-- The absolute value, whether there is a minus, and the error. -/
def numD (neg : Bool) (l ds : List UInt8) : Nat × Bool × Int :=
  if ds = [] ∨ (ds.head? = some 48 ∧ l ≠ [48]) ∨ ds.all isD = false then (0, false, 2) else if 18446744073709551616 ≤ natOf ds then (0, false, 6) else (natOf ds, neg, 0)
def numV (l : List UInt8) : Nat × Bool × Int := if l.head? = some 45 then numD true l (l.drop 1) else numD false l l
theorem ret_n {a b : Nat} {c d : Bool} {e f : Int} (h : (a, c, e) = (b, d, f)) : Ending.returned (.tuple #[.int .u64 a, .bool c, .int .i64 e]) = .returned (.tuple #[.int .u64 b, .bool d, .int .i64 f]) := by
  injection h with h1 h2
  injection h2 with h2 h3
  rw [h1, h2, h3]
theorem all_false {l : List UInt8} {k : Nat} {c : UInt8} (h : l[k]? = some c) (hc : isD c = false) : l.all isD = false := by
  rw [List.all_eq_false]
  exact ⟨c, List.mem_of_getElem? h, by simp [hc]⟩
theorem take_snoc {D : ByteArray} {k : Nat} (h : k < D.size) : D.data.toList.take (k + 1) = D.data.toList.take k ++ [D[k]] := by
  rw [List.take_succ_eq_append_getElem (show k < D.data.toList.length from h)]; rfl
/-- What the loop knows after some digits. -/
def Known (ds : List UInt8) (U : Nat) (L : Bool) : Prop := ds.all isD = true ∧ (L = false → U = natOf ds) ∧ (L = true → 18446744073709551616 ≤ natOf ds)

set_option maxHeartbeats 4000000 in
set_option maxRecDepth 100000 in
theorem number_any (s : ByteArray) (hs : s.size ≤ 4611686018427387904) (w : World) : Calls Tryz.prog 119 #[.string s] w fun e w' => e = .returned (.tuple #[.int .u64 (numV s.data.toList).1, .bool (numV s.data.toList).2.1, .int .i64 (numV s.data.toList).2.2]) ∧ w = w' := by
  have hsi : (s.size : Int) ≤ 4611686018427387904 := by omega
  by_cases hz : s.size = 0
  · have hl : s.data.toList = [] := List.eq_nil_of_length_eq_zero hz
    have hf : numV s.data.toList = (0, false, 2) := by rw [hl]; rfl
    have Hf := Lib.hid hf
    have he := empty_yes hz
    have z1 : decide ((0 : Int) < s.size) = false := by simp [hz]
    have z2 : decide (0 < s.size) = false := by simp [hz]
    clear hf hl hz
    go_enter Tryz.func119, Tryz.ntmps119
    go_wp2_with fail
    go_ret3
    exact ⟨ret_n (by rw [Hf.out]), rfl⟩
  · have he := empty_no hz
    have h0s : 0 < s.size := by omega
    have z1 : decide ((0 : Int) < s.size) = true := by simp; omega
    have z2 : decide (0 < s.size) = true := by simp; omega
    have hhead : s.data.toList.head? = some s[0] := by rw [List.head?_eq_getElem?]; exact lget h0s
    by_cases cm : s[0] = 45
    · have e45 : ((s[0].toNat : Int) == 45) = true := beq_yes cm
      have h1s : (1 : Int) ≤ s.size := by omega
      obtain ⟨D, hD⟩ : ∃ D, D = s.extract 1 s.size := ⟨_, rfl⟩
      have hDd : D.data.toList = s.data.toList.drop 1 := by rw [hD, drop_data]
      have hDs : D.size ≤ 4611686018427387904 := by rw [hD, ByteArray.size_extract]; omega
      have hnum : numV s.data.toList = numD true s.data.toList D.data.toList := by unfold numV; rw [hhead, cm, if_pos rfl, hDd]
      by_cases hdz : D.size = 0
      · have hdl : D.data.toList = [] := List.eq_nil_of_length_eq_zero hdz
        have hf : numV s.data.toList = (0, false, 2) := by rw [hnum]; unfold numD; rw [if_pos (.inl hdl)]
        have Hf := Lib.hid hf
        have hde := empty_yes hdz
        rw [hD] at hde
        clear hf hdl hdz hnum hDd hDs hD cm hhead hz
        go_enter Tryz.func119, Tryz.ntmps119
        go_wp2_with fail
        go_ret3
        exact ⟨ret_n (by rw [Hf.out]), rfl⟩
      · have hde := empty_no hdz
        have hd0 : 0 < D.size := by omega
        have hdhead : D.data.toList.head? = some D[0] := by rw [List.head?_eq_getElem?]; exact lget hd0
        have hne : D.data.toList ≠ [] := by intro e; rw [e] at hdhead; cases hdhead
        have hs48 : s.data.toList ≠ [48] := by intro e; rw [e] at hhead; injection hhead with h; rw [← h] at cm; cases cm
        have n48 : (s.toList == [48]) = false := by rw [ByteArray.toList_eq, beq_eq_false_iff_ne]; exact hs48
        have hDsI : (D.size : Int) ≤ 4611686018427387904 := by omega
        by_cases c48 : D[0] = 48
        · have hf : numV s.data.toList = (0, false, 2) := by rw [hnum]; unfold numD; rw [if_pos (.inr (.inl ⟨by rw [hdhead, c48], hs48⟩))]
          have e48 : ((D[0].toNat : Int) == 48) = true := beq_yes c48
          have Hf := Lib.hid hf
          have HD := Lib.hid hD.symm
          clear hf hs48 hnum hne c48 cm hhead hz hdhead hDd hD hdz
          go_enter Tryz.func119, Tryz.ntmps119
          go_upto_region 4 with fail
          simp only [HD.out]
          go_wp2_with fail
          go_ret3
          exact ⟨ret_n (by rw [Hf.out]), rfl⟩
        · have e48 : ((D[0].toNat : Int) == 48) = false := beq_no c48
          have h0 : ¬ (D.data.toList.head? = some 48 ∧ s.data.toList ≠ [48]) := fun h => by rw [hdhead] at h; injection h.1 with h1; exact c48 h1
          have hgood : D.data.toList.all isD = true → numV s.data.toList = if 18446744073709551616 ≤ natOf D.data.toList then (0, false, 6) else (natOf D.data.toList, true, 0) := by
            intro h
            rw [hnum]; unfold numD
            rw [if_neg (by intro h2; rcases h2 with h2 | h2 | h2; exact hne h2; exact h0 h2; rw [h] at h2; cases h2)]
          have hbad : D.data.toList.all isD = false → numV s.data.toList = (0, false, 2) := by
            intro h
            rw [hnum]; unfold numD
            rw [if_pos (.inr (.inr h))]
          have Hgood := Lib.hid hgood
          have Hbad := Lib.hid hbad
          have HD := Lib.hid hD.symm
          clear hgood hbad h0 hnum hne c48 cm hhead hz hs48 hdhead hDd hD hdz
          go_enter Tryz.func119, Tryz.ntmps119
          go_upto_region 4 with fail
          simp only [HD.out]
          go_wp2_with fail
          go_loop [7, 8, 9] (fun u lg t => ∃ (k U : Nat) (L : Bool), k ≤ D.size ∧ U ≤ 18446744073709551615 ∧ u = .int .u64 U ∧ lg = .bool L ∧ t = .int .i64 k ∧ Hid (Known (D.data.toList.take k) U L)) (fun _ _ t => D.size - (intOf t).toNat)
          case atStart => exact ⟨0, 0, false, by omega, by omega, rfl, rfl, rfl, Lib.hid ⟨by simp, fun _ => by simp [natOf], (fun h => by cases h)⟩⟩
          case round =>
            obtain ⟨k, U, L, hk, hU, rfl, rfl, rfl, Hk⟩ := hrel
            by_cases hlt : k < D.size
            · have hg := lget hlt
              have Hg := Lib.hid hg
              clear hg
              have Ht := Lib.hid (take_snoc hlt)
              have hc256 : (D[k].toNat : Int) < 256 := by have := D[k].toNat_lt; omega
              by_cases hlo : D[k].toNat < 48
              · have d1 : decide ((D[k].toNat : Int) < 48) = true := by simp; omega
                have hb : D.data.toList.all isD = false := all_false Hg.out (by unfold isD; simp; omega)
                have Hn := Lib.hid (Hbad.out hb)
                clear hb hlo
                go_wp2_with fail
                go_ret3
                exact ⟨ret_n (by rw [Hn.out]), rfl⟩
              · have d1 : decide ((D[k].toNat : Int) < 48) = false := by simp; omega
                by_cases hhi : 57 < D[k].toNat
                · have d2 : decide ((57 : Int) < D[k].toNat) = true := by simp; omega
                  have hb : D.data.toList.all isD = false := all_false Hg.out (by unfold isD; simp; omega)
                  have Hn := Lib.hid (Hbad.out hb)
                  clear hb hlo hhi
                  go_wp2_with fail
                  go_ret3
                  exact ⟨ret_n (by rw [Hn.out]), rfl⟩
                · have d2 : decide ((57 : Int) < D[k].toNat) = false := by simp; omega
                  have hisd : isD D[k] = true := by unfold isD; simp; omega
                  have hc1 : (48 : Int) ≤ D[k].toNat := by omega
                  have hc2 : (D[k].toNat : Int) ≤ 57 := by omega
                  have Hisd := Lib.hid hisd
                  clear hisd hlo hhi
                  obtain ⟨c, hc⟩ : ∃ c : Nat, c = D[k].toNat - 48 := ⟨_, rfl⟩
                  have hci : (D[k].toNat : Int) - 48 = (c : Int) := by omega
                  have hc9 : c ≤ 9 := by omega
                  have Hc := Lib.hid hc
                  have Hci := Lib.hid hci
                  clear hc
                  obtain ⟨q, hq⟩ : ∃ q : Nat, q = (18446744073709551615 - c) / 10 := ⟨_, rfl⟩
                  have hqi : (18446744073709551615 - (c : Int)) / 10 = (q : Int) := by rw [hq]; omega
                  have Hq := Lib.hid hq
                  clear hq
                  have hstep : natOf (D.data.toList.take (k + 1)) = 10 * natOf (D.data.toList.take k) + c := by rw [Ht.out, natOf_snoc, Hc.out]
                  have hall : (D.data.toList.take (k + 1)).all isD = true := by rw [Ht.out, List.all_append, Hk.out.1]; simp [Hisd.out]
                  have Hstep := Lib.hid hstep
                  have Hall := Lib.hid hall
                  clear hstep hall
                  by_cases hgt : q < U
                  · have d3 : decide (q < U) = true := by simp; omega
                    have d3i : decide ((q : Int) < U) = true := by simp; omega
                    cases L with
                    | true =>
                      go_wp2_with fail
                      refine ⟨⟨k + 1, U, true, by omega, hU, rfl, rfl, by go_num, Lib.hid ⟨Hall.out, (fun h => by cases h), fun _ => ?_⟩⟩, by simp [intOf]; omega⟩
                      have h1 := Hk.out.2.2 rfl
                      rw [Hstep.out]; omega
                    | false =>
                      go_wp2_with fail
                      refine ⟨⟨k + 1, U, true, by omega, hU, rfl, rfl, by go_num, Lib.hid ⟨Hall.out, (fun h => by cases h), fun _ => ?_⟩⟩, by simp [intOf]; omega⟩
                      have h1 := Hk.out.2.1 rfl
                      have h2 := Hq.out
                      rw [Hstep.out, ← h1]; omega
                  · have d3 : decide (q < U) = false := by simp; omega
                    have d3i : decide ((q : Int) < U) = false := by simp; omega
                    cases L with
                    | true =>
                      go_wp2_with fail
                      refine ⟨⟨k + 1, U, true, by omega, hU, rfl, rfl, by go_num, Lib.hid ⟨Hall.out, (fun h => by cases h), fun _ => ?_⟩⟩, by simp [intOf]; omega⟩
                      have h1 := Hk.out.2.2 rfl
                      rw [Hstep.out]; omega
                    | false =>
                      have hu10 : (10 : Int) * U + c ≤ 18446744073709551615 := by have h2 := Hq.out; omega
                      go_wp2_with fail
                      refine ⟨⟨k + 1, 10 * U + c, false, by omega, by omega, by go_num, rfl, by go_num, Lib.hid ⟨Hall.out, fun _ => ?_, (fun h => by cases h)⟩⟩, by simp [intOf]; omega⟩
                      rw [Hstep.out, ← Hk.out.2.1 rfl]
            · obtain rfl : k = D.size := by omega
              have hfull : D.data.toList.take D.size = D.data.toList := List.take_length
              have hk2 := Hk.out
              rw [hfull] at hk2
              have Hk2 := Lib.hid hk2
              clear hfull hk2
              cases L with
              | true =>
                have hn := Hgood.out Hk2.out.1
                rw [if_pos (Hk2.out.2.2 rfl)] at hn
                have Hn := Lib.hid hn
                clear hn
                go_wp2_with fail
                go_ret3
                exact ⟨ret_n (by rw [Hn.out]), rfl⟩
              | false =>
                have hn := Hgood.out Hk2.out.1
                have hu := Hk2.out.2.1 rfl
                rw [← hu, if_neg (by omega)] at hn
                have Hn := Lib.hid hn
                clear hn hu
                go_wp2_with fail
                go_ret3
                exact ⟨ret_n (by rw [Hn.out]), rfl⟩
    · have e45 : ((s[0].toNat : Int) == 45) = false := beq_no cm
      have hnum : numV s.data.toList = numD false s.data.toList s.data.toList := by unfold numV; rw [hhead, if_neg (by intro h; injection h with h; exact cm h)]
      have hne : s.data.toList ≠ [] := by intro e; rw [e] at hhead; cases hhead
      by_cases c48 : s[0] = 48
      · have e48 : ((s[0].toNat : Int) == 48) = true := beq_yes c48
        by_cases hs0 : s.data.toList = [48]
        · have n48 : (s.toList == [48]) = true := by rw [ByteArray.toList_eq, hs0]; rfl
          have h0 : ¬ (s.data.toList.head? = some 48 ∧ s.data.toList ≠ [48]) := fun h => h.2 hs0
          have hgood : s.data.toList.all isD = true → numV s.data.toList = if 18446744073709551616 ≤ natOf s.data.toList then (0, false, 6) else (natOf s.data.toList, false, 0) := by
            intro h
            rw [hnum]; unfold numD
            rw [if_neg (by intro h2; rcases h2 with h2 | h2 | h2; exact hne h2; exact h0 h2; rw [h] at h2; cases h2)]
          have hbad : s.data.toList.all isD = false → numV s.data.toList = (0, false, 2) := by
            intro h
            rw [hnum]; unfold numD
            rw [if_pos (.inr (.inr h))]
          have Hgood := Lib.hid hgood
          have Hbad := Lib.hid hbad
          clear hgood hbad h0 hs0 hnum hne c48 cm hhead hz
          go_enter Tryz.func119, Tryz.ntmps119
          go_wp2_with fail
          go_loop [7, 8, 9] (fun u lg t => ∃ (k U : Nat) (L : Bool), k ≤ s.size ∧ U ≤ 18446744073709551615 ∧ u = .int .u64 U ∧ lg = .bool L ∧ t = .int .i64 k ∧ Hid (Known (s.data.toList.take k) U L)) (fun _ _ t => s.size - (intOf t).toNat)
          case atStart => exact ⟨0, 0, false, by omega, by omega, rfl, rfl, rfl, Lib.hid ⟨by simp, fun _ => by simp [natOf], (fun h => by cases h)⟩⟩
          case round =>
            obtain ⟨k, U, L, hk, hU, rfl, rfl, rfl, Hk⟩ := hrel
            by_cases hlt : k < s.size
            · have hg := lget hlt
              have Hg := Lib.hid hg
              clear hg
              have Ht := Lib.hid (take_snoc hlt)
              have hc256 : (s[k].toNat : Int) < 256 := by have := s[k].toNat_lt; omega
              by_cases hlo : s[k].toNat < 48
              · have d1 : decide ((s[k].toNat : Int) < 48) = true := by simp; omega
                have hb : s.data.toList.all isD = false := all_false Hg.out (by unfold isD; simp; omega)
                have Hn := Lib.hid (Hbad.out hb)
                clear hb hlo
                go_wp2_with fail
                go_ret3
                exact ⟨ret_n (by rw [Hn.out]), rfl⟩
              · have d1 : decide ((s[k].toNat : Int) < 48) = false := by simp; omega
                by_cases hhi : 57 < s[k].toNat
                · have d2 : decide ((57 : Int) < s[k].toNat) = true := by simp; omega
                  have hb : s.data.toList.all isD = false := all_false Hg.out (by unfold isD; simp; omega)
                  have Hn := Lib.hid (Hbad.out hb)
                  clear hb hlo hhi
                  go_wp2_with fail
                  go_ret3
                  exact ⟨ret_n (by rw [Hn.out]), rfl⟩
                · have d2 : decide ((57 : Int) < s[k].toNat) = false := by simp; omega
                  have hisd : isD s[k] = true := by unfold isD; simp; omega
                  have hc1 : (48 : Int) ≤ s[k].toNat := by omega
                  have hc2 : (s[k].toNat : Int) ≤ 57 := by omega
                  have Hisd := Lib.hid hisd
                  clear hisd hlo hhi
                  obtain ⟨c, hc⟩ : ∃ c : Nat, c = s[k].toNat - 48 := ⟨_, rfl⟩
                  have hci : (s[k].toNat : Int) - 48 = (c : Int) := by omega
                  have hc9 : c ≤ 9 := by omega
                  have Hc := Lib.hid hc
                  have Hci := Lib.hid hci
                  clear hc
                  obtain ⟨q, hq⟩ : ∃ q : Nat, q = (18446744073709551615 - c) / 10 := ⟨_, rfl⟩
                  have hqi : (18446744073709551615 - (c : Int)) / 10 = (q : Int) := by rw [hq]; omega
                  have Hq := Lib.hid hq
                  clear hq
                  have hstep : natOf (s.data.toList.take (k + 1)) = 10 * natOf (s.data.toList.take k) + c := by rw [Ht.out, natOf_snoc, Hc.out]
                  have hall : (s.data.toList.take (k + 1)).all isD = true := by rw [Ht.out, List.all_append, Hk.out.1]; simp [Hisd.out]
                  have Hstep := Lib.hid hstep
                  have Hall := Lib.hid hall
                  clear hstep hall
                  by_cases hgt : q < U
                  · have d3 : decide (q < U) = true := by simp; omega
                    have d3i : decide ((q : Int) < U) = true := by simp; omega
                    cases L with
                    | true =>
                      go_wp2_with fail
                      refine ⟨⟨k + 1, U, true, by omega, hU, rfl, rfl, by go_num, Lib.hid ⟨Hall.out, (fun h => by cases h), fun _ => ?_⟩⟩, by simp [intOf]; omega⟩
                      have h1 := Hk.out.2.2 rfl
                      rw [Hstep.out]; omega
                    | false =>
                      go_wp2_with fail
                      refine ⟨⟨k + 1, U, true, by omega, hU, rfl, rfl, by go_num, Lib.hid ⟨Hall.out, (fun h => by cases h), fun _ => ?_⟩⟩, by simp [intOf]; omega⟩
                      have h1 := Hk.out.2.1 rfl
                      have h2 := Hq.out
                      rw [Hstep.out, ← h1]; omega
                  · have d3 : decide (q < U) = false := by simp; omega
                    have d3i : decide ((q : Int) < U) = false := by simp; omega
                    cases L with
                    | true =>
                      go_wp2_with fail
                      refine ⟨⟨k + 1, U, true, by omega, hU, rfl, rfl, by go_num, Lib.hid ⟨Hall.out, (fun h => by cases h), fun _ => ?_⟩⟩, by simp [intOf]; omega⟩
                      have h1 := Hk.out.2.2 rfl
                      rw [Hstep.out]; omega
                    | false =>
                      have hu10 : (10 : Int) * U + c ≤ 18446744073709551615 := by have h2 := Hq.out; omega
                      go_wp2_with fail
                      refine ⟨⟨k + 1, 10 * U + c, false, by omega, by omega, by go_num, rfl, by go_num, Lib.hid ⟨Hall.out, fun _ => ?_, (fun h => by cases h)⟩⟩, by simp [intOf]; omega⟩
                      rw [Hstep.out, ← Hk.out.2.1 rfl]
            · obtain rfl : k = s.size := by omega
              have hfull : s.data.toList.take s.size = s.data.toList := List.take_length
              have hk2 := Hk.out
              rw [hfull] at hk2
              have Hk2 := Lib.hid hk2
              clear hfull hk2
              cases L with
              | true =>
                have hn := Hgood.out Hk2.out.1
                rw [if_pos (Hk2.out.2.2 rfl)] at hn
                have Hn := Lib.hid hn
                clear hn
                go_wp2_with fail
                go_ret3
                exact ⟨ret_n (by rw [Hn.out]), rfl⟩
              | false =>
                have hn := Hgood.out Hk2.out.1
                have hu := Hk2.out.2.1 rfl
                rw [← hu, if_neg (by omega)] at hn
                have Hn := Lib.hid hn
                clear hn hu
                go_wp2_with fail
                go_ret3
                exact ⟨ret_n (by rw [Hn.out]), rfl⟩
        · have n48 : (s.toList == [48]) = false := by rw [ByteArray.toList_eq, beq_eq_false_iff_ne]; exact hs0
          have hf : numV s.data.toList = (0, false, 2) := by rw [hnum]; unfold numD; rw [if_pos (.inr (.inl ⟨by rw [hhead, c48], hs0⟩))]
          have Hf := Lib.hid hf
          clear hf hs0 hnum hne c48 cm hhead hz
          go_enter Tryz.func119, Tryz.ntmps119
          go_wp2_with fail
          go_ret3
          exact ⟨ret_n (by rw [Hf.out]), rfl⟩
      · have e48 : ((s[0].toNat : Int) == 48) = false := beq_no c48
        have h0 : ¬ (s.data.toList.head? = some 48 ∧ s.data.toList ≠ [48]) := fun h => by rw [hhead] at h; injection h.1 with h1; exact c48 h1
        have hgood : s.data.toList.all isD = true → numV s.data.toList = if 18446744073709551616 ≤ natOf s.data.toList then (0, false, 6) else (natOf s.data.toList, false, 0) := by
          intro h
          rw [hnum]; unfold numD
          rw [if_neg (by intro h2; rcases h2 with h2 | h2 | h2; exact hne h2; exact h0 h2; rw [h] at h2; cases h2)]
        have hbad : s.data.toList.all isD = false → numV s.data.toList = (0, false, 2) := by
          intro h
          rw [hnum]; unfold numD
          rw [if_pos (.inr (.inr h))]
        have Hgood := Lib.hid hgood
        have Hbad := Lib.hid hbad
        clear hgood hbad h0 hnum hne c48 cm hhead hz
        go_enter Tryz.func119, Tryz.ntmps119
        go_wp2_with fail
        go_loop [7, 8, 9] (fun u lg t => ∃ (k U : Nat) (L : Bool), k ≤ s.size ∧ U ≤ 18446744073709551615 ∧ u = .int .u64 U ∧ lg = .bool L ∧ t = .int .i64 k ∧ Hid (Known (s.data.toList.take k) U L)) (fun _ _ t => s.size - (intOf t).toNat)
        case atStart => exact ⟨0, 0, false, by omega, by omega, rfl, rfl, rfl, Lib.hid ⟨by simp, fun _ => by simp [natOf], (fun h => by cases h)⟩⟩
        case round =>
          obtain ⟨k, U, L, hk, hU, rfl, rfl, rfl, Hk⟩ := hrel
          by_cases hlt : k < s.size
          · have hg := lget hlt
            have Hg := Lib.hid hg
            clear hg
            have Ht := Lib.hid (take_snoc hlt)
            have hc256 : (s[k].toNat : Int) < 256 := by have := s[k].toNat_lt; omega
            by_cases hlo : s[k].toNat < 48
            · have d1 : decide ((s[k].toNat : Int) < 48) = true := by simp; omega
              have hb : s.data.toList.all isD = false := all_false Hg.out (by unfold isD; simp; omega)
              have Hn := Lib.hid (Hbad.out hb)
              clear hb hlo
              go_wp2_with fail
              go_ret3
              exact ⟨ret_n (by rw [Hn.out]), rfl⟩
            · have d1 : decide ((s[k].toNat : Int) < 48) = false := by simp; omega
              by_cases hhi : 57 < s[k].toNat
              · have d2 : decide ((57 : Int) < s[k].toNat) = true := by simp; omega
                have hb : s.data.toList.all isD = false := all_false Hg.out (by unfold isD; simp; omega)
                have Hn := Lib.hid (Hbad.out hb)
                clear hb hlo hhi
                go_wp2_with fail
                go_ret3
                exact ⟨ret_n (by rw [Hn.out]), rfl⟩
              · have d2 : decide ((57 : Int) < s[k].toNat) = false := by simp; omega
                have hisd : isD s[k] = true := by unfold isD; simp; omega
                have hc1 : (48 : Int) ≤ s[k].toNat := by omega
                have hc2 : (s[k].toNat : Int) ≤ 57 := by omega
                have Hisd := Lib.hid hisd
                clear hisd hlo hhi
                obtain ⟨c, hc⟩ : ∃ c : Nat, c = s[k].toNat - 48 := ⟨_, rfl⟩
                have hci : (s[k].toNat : Int) - 48 = (c : Int) := by omega
                have hc9 : c ≤ 9 := by omega
                have Hc := Lib.hid hc
                have Hci := Lib.hid hci
                clear hc
                obtain ⟨q, hq⟩ : ∃ q : Nat, q = (18446744073709551615 - c) / 10 := ⟨_, rfl⟩
                have hqi : (18446744073709551615 - (c : Int)) / 10 = (q : Int) := by rw [hq]; omega
                have Hq := Lib.hid hq
                clear hq
                have hstep : natOf (s.data.toList.take (k + 1)) = 10 * natOf (s.data.toList.take k) + c := by rw [Ht.out, natOf_snoc, Hc.out]
                have hall : (s.data.toList.take (k + 1)).all isD = true := by rw [Ht.out, List.all_append, Hk.out.1]; simp [Hisd.out]
                have Hstep := Lib.hid hstep
                have Hall := Lib.hid hall
                clear hstep hall
                by_cases hgt : q < U
                · have d3 : decide (q < U) = true := by simp; omega
                  have d3i : decide ((q : Int) < U) = true := by simp; omega
                  cases L with
                  | true =>
                    go_wp2_with fail
                    refine ⟨⟨k + 1, U, true, by omega, hU, rfl, rfl, by go_num, Lib.hid ⟨Hall.out, (fun h => by cases h), fun _ => ?_⟩⟩, by simp [intOf]; omega⟩
                    have h1 := Hk.out.2.2 rfl
                    rw [Hstep.out]; omega
                  | false =>
                    go_wp2_with fail
                    refine ⟨⟨k + 1, U, true, by omega, hU, rfl, rfl, by go_num, Lib.hid ⟨Hall.out, (fun h => by cases h), fun _ => ?_⟩⟩, by simp [intOf]; omega⟩
                    have h1 := Hk.out.2.1 rfl
                    have h2 := Hq.out
                    rw [Hstep.out, ← h1]; omega
                · have d3 : decide (q < U) = false := by simp; omega
                  have d3i : decide ((q : Int) < U) = false := by simp; omega
                  cases L with
                  | true =>
                    go_wp2_with fail
                    refine ⟨⟨k + 1, U, true, by omega, hU, rfl, rfl, by go_num, Lib.hid ⟨Hall.out, (fun h => by cases h), fun _ => ?_⟩⟩, by simp [intOf]; omega⟩
                    have h1 := Hk.out.2.2 rfl
                    rw [Hstep.out]; omega
                  | false =>
                    have hu10 : (10 : Int) * U + c ≤ 18446744073709551615 := by have h2 := Hq.out; omega
                    go_wp2_with fail
                    refine ⟨⟨k + 1, 10 * U + c, false, by omega, by omega, by go_num, rfl, by go_num, Lib.hid ⟨Hall.out, fun _ => ?_, (fun h => by cases h)⟩⟩, by simp [intOf]; omega⟩
                    rw [Hstep.out, ← Hk.out.2.1 rfl]
          · obtain rfl : k = s.size := by omega
            have hfull : s.data.toList.take s.size = s.data.toList := List.take_length
            have hk2 := Hk.out
            rw [hfull] at hk2
            have Hk2 := Lib.hid hk2
            clear hfull hk2
            cases L with
            | true =>
              have hn := Hgood.out Hk2.out.1
              rw [if_pos (Hk2.out.2.2 rfl)] at hn
              have Hn := Lib.hid hn
              clear hn
              go_wp2_with fail
              go_ret3
              exact ⟨ret_n (by rw [Hn.out]), rfl⟩
            | false =>
              have hn := Hgood.out Hk2.out.1
              have hu := Hk2.out.2.1 rfl
              rw [← hu, if_neg (by omega)] at hn
              have Hn := Lib.hid hn
              clear hn hu
              go_wp2_with fail
              go_ret3
              exact ⟨ret_n (by rw [Hn.out]), rfl⟩
end Go.Proofs.YthjpchnogllliaaGreatDoor.ScaN

/- The contract of text of the reference of package scalar: texts and bytes, read. -/
set_option linter.unusedSimpArgs false
set_option linter.unusedVariables false
namespace Go.Proofs.YthjpchnogllliaaGreatDoor.ScaT
open Go.RowKit Nums Byt UtfM UtfQ UtfH UtfS ScaM ScaV ScaA ScaB ScaC ScaD UtfR UtfB UtfK UtfL

/-- A value with a text and nothing else. -/
def tv (k : Int) (l : List UInt8) : SV := ⟨k, 0, ⟨l.toArray⟩, none, 0, 0, none, 0, 0, none, 0, 0, none, 0, 0⟩
/-- What becomes of the text read. -/
def kept (k : Int) (t : List UInt8) : SV × Int := if 4096 < t.length then (zv 0, 3) else (tv k t, 0)
def textS (k : Int) (l : List UInt8) : SV × Int :=
  if (unquote l).2.2 ≠ 0 ∨ (unquote l).2.1 ≠ l.length then (zv 0, 2)
  else if k = 8 then (if uhE (unquote l).1 ≠ 0 then (zv 0, 2) else kept k (uhT (unquote l).1))
  else if 0 ≤ bad (unquote l).1 then (zv 0, 7) else kept k (unquote l).1
theorem ret_ve {a b : Value} {e f : Int} (h : a = b) (h2 : e = f) : Ending.returned (.tuple #[a, .int .i64 e]) = .returned (.tuple #[b, .int .i64 f]) := by rw [h, h2]
theorem unquote_len (l : List UInt8) : (unquote l).1.length ≤ l.length := by
  unfold unquote
  have := unescape_len l
  split
  · simp
  · simp; omega
theorem unhexL_len (l : List UInt8) : ∀ r, unhexL l = some r → 2 * r.length = l.length := by
  generalize hn : l.length = n
  induction n using Nat.strongRecOn generalizing l with
  | _ n ih =>
    intro r hr
    match l with
    | [] => rw [unhexL] at hr; injection hr with hr; rw [← hr, ← hn]; rfl
    | [_] => rw [unhexL] at hr; cases hr
    | a :: b :: t =>
      rw [unhexL] at hr
      split at hr
      · cases hr
      · cases ht : unhexL t with
        | none => rw [ht] at hr; cases hr
        | some q =>
          rw [ht] at hr
          injection hr with hr
          have := ih t.length (by rw [← hn]; simp only [List.length_cons]; omega) t rfl q ht
          rw [← hr, ← hn]
          simp; omega
theorem uhT_len (l : List UInt8) : (uhT l).length ≤ l.length := by
  unfold uhT
  cases h : unhexL l with
  | none => simp
  | some r => have := unhexL_len l r h; simp; omega
/-- The result's box after a call: its seven cells. -/
def zb : Obj := .cells #[.int .i64 0, .int .u64 0, .string ⟨#[]⟩, .slice none 0 0, .slice none 0 0, .slice none 0 0, .slice none 0 0] 42
theorem cells0 {w w1 : World} (hb : Below (w.alloc zb).heap.size (w.alloc zb) w1) :
    (w1.cell? ⟨w.heap.size, 0, none⟩ = some (.int .i64 0) ∧ w1.cell? ⟨w.heap.size, 1, none⟩ = some (.int .u64 0) ∧ w1.cell? ⟨w.heap.size, 2, none⟩ = some (.string ⟨#[]⟩) ∧ w1.cell? ⟨w.heap.size, 3, none⟩ = some (.slice none 0 0)
      ∧ w1.cell? ⟨w.heap.size, 4, none⟩ = some (.slice none 0 0) ∧ w1.cell? ⟨w.heap.size, 5, none⟩ = some (.slice none 0 0) ∧ w1.cell? ⟨w.heap.size, 6, none⟩ = some (.slice none 0 0)) ∧ (∀ o, w1.frozen? ⟨w.heap.size, o, none⟩ = false) ∧ w.heap.size < w1.heap.size ∧ Below w.heap.size w w1 := by
  have hlt : w.heap.size < (w.alloc zb).heap.size := by simp
  have hc : ∀ o, w1.cell? ⟨w.heap.size, o, none⟩ = (w.alloc zb).cell? ⟨w.heap.size, o, none⟩ := fun o => hb.cell (p := ⟨w.heap.size, o, none⟩) hlt
  refine ⟨⟨?_, ?_, ?_, ?_, ?_, ?_, ?_⟩, fun o => (hb.frozen (p := ⟨w.heap.size, o, none⟩) hlt).trans (by simp [zb]), Nat.lt_of_lt_of_le hlt hb.size, bt (below_box _ _) hb⟩ <;> (rw [hc]; unfold zb; rw [World.cell?_alloc_at _ _ _ _ rfl]; rfl)
theorem below7 {B k : Nat} {a w : World} (h : Below B a w) (hk : B ≤ k) (v0 v1 v2 v3 v4 v5 v6 : Value) :
    Below B a (((((((w.setCell ⟨k, 0, none⟩ v0).setCell ⟨k, 1, none⟩ v1).setCell ⟨k, 2, none⟩ v2).setCell ⟨k, 3, none⟩ v3).setCell ⟨k, 4, none⟩ v4).setCell ⟨k, 5, none⟩ v5).setCell ⟨k, 6, none⟩ v6) :=
  ((((((h.setCell hk _).setCell hk _).setCell hk _).setCell hk _).setCell hk _).setCell hk _).setCell hk _

set_option maxHeartbeats 4000000 in
set_option maxRecDepth 100000 in
theorem text_any (k : Int) (s : ByteArray) (hs : s.size ≤ 35184372088000) (w : World) : Calls Tryz.prog 91 #[.int .i64 k, .string s] w fun e w' => e = .returned (.tuple #[vv (textS k s.data.toList).1, .int .i64 (textS k s.data.toList).2]) ∧ Below w.heap.size w w' := by
  have hlen := unquote_len s.data.toList
  have hsz : s.data.toList.length = s.size := rfl
  rw [hsz] at hlen
  obtain ⟨T, n, e, hu⟩ : ∃ T n e, unquote s.data.toList = (T, n, e) := ⟨_, _, _, rfl⟩
  have hT : T.length ≤ s.size := by rw [hu] at hlen; exact hlen
  have hsi : (s.size : Int) ≤ 35184372088000 := by omega
  have htx : ∀ x, textS k s.data.toList = x ↔ (if e ≠ 0 ∨ n ≠ s.size then ((zv 0, 2) : SV × Int) else if k = 8 then (if uhE T ≠ 0 then (zv 0, 2) else kept k (uhT T)) else if 0 ≤ bad T then (zv 0, 7) else kept k T) = x := by intro x; unfold textS; rw [hu, hsz]
  have Hu := Lib.hid hu
  clear hu hlen hsz
  by_cases he : e = 0
  · by_cases hn : n = s.size
    · have nb : ((n : Int) != s.size) = false := by rw [hn]; simp
      have eb : (e != 0) = false := by rw [he]; rfl
      by_cases h8 : k = 8
      · have kb : (k == 8) = true := by rw [h8]; rfl
        have hx2 : ∀ x, textS k s.data.toList = x ↔ (if uhE T ≠ 0 then ((zv 0, 2) : SV × Int) else kept k (uhT T)) = x := by intro x; rw [htx, if_neg (by intro h; rcases h with h | h; exact h he; exact h hn), if_pos h8]
        have hUs : (⟨(uhT T).toArray⟩ : ByteArray).size = (uhT T).length := by simp [ByteArray.size]
        have hTs : (⟨T.toArray⟩ : ByteArray).size = T.length := by simp [ByteArray.size]
        have hul := uhT_len T
        have hq := rUnhex_any ⟨T.toArray⟩ (by omega)
        obtain ⟨V, hV⟩ : ∃ V : ByteArray, V = ⟨(uhT T).toArray⟩ := ⟨_, rfl⟩
        obtain ⟨E, hE⟩ : ∃ E : Int, E = uhE T := ⟨_, rfl⟩
        have hVl : V.size = (uhT T).length := by rw [hV, hUs]
        have hVs : (V.size : Int) ≤ 35184372088000 := by omega
        simp only [List.toList_toArray] at hq
        rw [← hV, ← hE] at hq
        have HV := Lib.hid hV
        by_cases hE0 : E = 0
        · have Eb : (E != 0) = false := by rw [hE0]; rfl
          by_cases hbig : 4096 < V.size
          · have bb : decide ((4096 : Int) < V.size) = true := by simp; omega
            have hf : textS k s.data.toList = (zv 0, 3) := by rw [hx2, if_neg (by rw [← hE, hE0]; simp)]; unfold kept; rw [if_pos (by omega)]
            have Hf := Lib.hid hf
            clear hf hx2 htx hbig hVl hV hE hUs hTs hul hE0 h8 hn he
            go_enter Tryz.func91, Tryz.ntmps91
            go_wp2_with fail
            refine (rUnquote_any s hs _).mono ?_
            rintro _ w1 ⟨rfl, hb1⟩
            obtain ⟨⟨q0, q1, q2, q3, q4, q5, q6⟩, qf, qs, hb0⟩ := cells0 hb1
            rw [Hu.out]
            go_wp2_with fail
            refine (hq _).mono ?_
            rintro _ w2 ⟨rfl, hb2⟩
            have hb3 := bt hb1 hb2
            clear q0 q1 q2 q3 q4 q5 q6 qf qs hb0 hb1 hb2
            obtain ⟨⟨q0, q1, q2, q3, q4, q5, q6⟩, qf, qs, hb0⟩ := cells0 hb3
            go_wp2_with fail
            exact bodyPost_ret (v := .tuple #[.agg #[.int .i64 0, .int .u64 0, .string ⟨#[]⟩, .slice none 0 0, .slice none 0 0, .slice none 0 0, .slice none 0 0], .int .i64 3]) (by simp [results, Tryz.results91, go_sem, q0, q1, q2, q3, q4, q5, q6]) rfl ⟨ret_ve (by rw [Hf.out]; rfl) (by rw [Hf.out]), below7 hb0 (Nat.le_refl _) _ _ _ _ _ _ _⟩
          · have bb : decide ((4096 : Int) < V.size) = false := by simp; omega
            have hf : textS k s.data.toList = (tv k (uhT T), 0) := by rw [hx2, if_neg (by rw [← hE, hE0]; simp)]; unfold kept; rw [if_neg (by omega)]
            have Hf := Lib.hid hf
            clear hf hx2 htx hbig hVl hV hE hUs hTs hul hE0 h8 hn he
            go_enter Tryz.func91, Tryz.ntmps91
            go_wp2_with fail
            refine (rUnquote_any s hs _).mono ?_
            rintro _ w1 ⟨rfl, hb1⟩
            obtain ⟨⟨q0, q1, q2, q3, q4, q5, q6⟩, qf, qs, hb0⟩ := cells0 hb1
            rw [Hu.out]
            go_wp2_with fail
            refine (hq _).mono ?_
            rintro _ w2 ⟨rfl, hb2⟩
            have hb3 := bt hb1 hb2
            clear q0 q1 q2 q3 q4 q5 q6 qf qs hb0 hb1 hb2
            obtain ⟨⟨q0, q1, q2, q3, q4, q5, q6⟩, qf, qs, hb0⟩ := cells0 hb3
            go_wp2_with fail
            exact bodyPost_ret (v := .tuple #[.agg #[.int .i64 k, .int .u64 0, .string V, .slice none 0 0, .slice none 0 0, .slice none 0 0, .slice none 0 0], .int .i64 0]) (by simp [results, Tryz.results91, go_sem, q0, q1, q2, q3, q4, q5, q6]) rfl ⟨ret_ve (by rw [Hf.out]; rw [HV.out]; rfl) (by rw [Hf.out]), below7 hb0 (Nat.le_refl _) _ _ _ _ _ _ _⟩
        · have Eb : (E != 0) = true := by rw [bne_iff_ne]; exact hE0
          have hf : textS k s.data.toList = (zv 0, 2) := by rw [hx2, if_pos (by rw [← hE]; exact hE0)]
          have Hf := Lib.hid hf
          clear hf hx2 htx hVl hV hE hUs hTs hul hE0 h8 hn he
          go_enter Tryz.func91, Tryz.ntmps91
          go_wp2_with fail
          refine (rUnquote_any s hs _).mono ?_
          rintro _ w1 ⟨rfl, hb1⟩
          obtain ⟨⟨q0, q1, q2, q3, q4, q5, q6⟩, qf, qs, hb0⟩ := cells0 hb1
          rw [Hu.out]
          go_wp2_with fail
          refine (hq _).mono ?_
          rintro _ w2 ⟨rfl, hb2⟩
          have hb3 := bt hb1 hb2
          clear q0 q1 q2 q3 q4 q5 q6 qf qs hb0 hb1 hb2
          obtain ⟨⟨q0, q1, q2, q3, q4, q5, q6⟩, qf, qs, hb0⟩ := cells0 hb3
          go_wp2_with fail
          exact bodyPost_ret (v := .tuple #[.agg #[.int .i64 0, .int .u64 0, .string ⟨#[]⟩, .slice none 0 0, .slice none 0 0, .slice none 0 0, .slice none 0 0], .int .i64 2]) (by simp [results, Tryz.results91, go_sem, q0, q1, q2, q3, q4, q5, q6]) rfl ⟨ret_ve (by rw [Hf.out]; rfl) (by rw [Hf.out]), below7 hb0 (Nat.le_refl _) _ _ _ _ _ _ _⟩
      · have kb : (k == 8) = false := by rw [beq_eq_false_iff_ne]; exact h8
        have hx2 : ∀ x, textS k s.data.toList = x ↔ (if 0 ≤ bad T then ((zv 0, 7) : SV × Int) else kept k T) = x := by intro x; rw [htx, if_neg (by intro h; rcases h with h | h; exact h he; exact h hn), if_neg h8]
        have hTs : (⟨T.toArray⟩ : ByteArray).size = T.length := by simp [ByteArray.size]
        have hq := rValid_any ⟨T.toArray⟩ (by omega)
        simp only [List.toList_toArray] at hq
        by_cases hbd : bad T < 0
        · have bdd : decide (bad T < 0) = true := by simp [hbd]
          rw [bdd] at hq
          obtain ⟨V, hV⟩ : ∃ V : ByteArray, V = ⟨T.toArray⟩ := ⟨_, rfl⟩
          have hVl : V.size = T.length := by rw [hV, hTs]
          have hVs : (V.size : Int) ≤ 35184372088000 := by omega
          rw [← hV] at hq
          have HV := Lib.hid hV
          by_cases hbig : 4096 < V.size
          · have bb : decide ((4096 : Int) < V.size) = true := by simp; omega
            have hf : textS k s.data.toList = (zv 0, 3) := by rw [hx2, if_neg (by omega)]; unfold kept; rw [if_pos (by omega)]
            have Hf := Lib.hid hf
            clear hf hx2 htx hbig hVl hV hTs h8 hn he hbd bdd
            go_enter Tryz.func91, Tryz.ntmps91
            go_wp2_with fail
            refine (rUnquote_any s hs _).mono ?_
            rintro _ w1 ⟨rfl, hb1⟩
            obtain ⟨⟨q0, q1, q2, q3, q4, q5, q6⟩, qf, qs, hb0⟩ := cells0 hb1
            rw [Hu.out, ← HV.out]
            go_wp2_with fail
            refine (hq _).mono ?_
            rintro _ w2 ⟨rfl, rfl⟩
            go_wp2_with fail
            exact bodyPost_ret (v := .tuple #[.agg #[.int .i64 0, .int .u64 0, .string ⟨#[]⟩, .slice none 0 0, .slice none 0 0, .slice none 0 0, .slice none 0 0], .int .i64 3]) (by simp [results, Tryz.results91, go_sem, q0, q1, q2, q3, q4, q5, q6]) rfl ⟨ret_ve (by rw [Hf.out]; rfl) (by rw [Hf.out]), below7 hb0 (Nat.le_refl _) _ _ _ _ _ _ _⟩
          · have bb : decide ((4096 : Int) < V.size) = false := by simp; omega
            have hf : textS k s.data.toList = (tv k T, 0) := by rw [hx2, if_neg (by omega)]; unfold kept; rw [if_neg (by omega)]
            have Hf := Lib.hid hf
            clear hf hx2 htx hbig hVl hV hTs h8 hn he hbd bdd
            go_enter Tryz.func91, Tryz.ntmps91
            go_wp2_with fail
            refine (rUnquote_any s hs _).mono ?_
            rintro _ w1 ⟨rfl, hb1⟩
            obtain ⟨⟨q0, q1, q2, q3, q4, q5, q6⟩, qf, qs, hb0⟩ := cells0 hb1
            rw [Hu.out, ← HV.out]
            go_wp2_with fail
            refine (hq _).mono ?_
            rintro _ w2 ⟨rfl, rfl⟩
            go_wp2_with fail
            exact bodyPost_ret (v := .tuple #[.agg #[.int .i64 k, .int .u64 0, .string V, .slice none 0 0, .slice none 0 0, .slice none 0 0, .slice none 0 0], .int .i64 0]) (by simp [results, Tryz.results91, go_sem, q0, q1, q2, q3, q4, q5, q6]) rfl ⟨ret_ve (by rw [Hf.out]; rw [HV.out]; rfl) (by rw [Hf.out]), below7 hb0 (Nat.le_refl _) _ _ _ _ _ _ _⟩
        · have bdd : decide (bad T < 0) = false := by simp only [decide_eq_false_iff_not]; exact hbd
          rw [bdd] at hq
          have hf : textS k s.data.toList = (zv 0, 7) := by rw [hx2, if_pos (by omega)]
          have Hf := Lib.hid hf
          clear hf hx2 htx hTs h8 hn he hbd bdd
          go_enter Tryz.func91, Tryz.ntmps91
          go_wp2_with fail
          refine (rUnquote_any s hs _).mono ?_
          rintro _ w1 ⟨rfl, hb1⟩
          obtain ⟨⟨q0, q1, q2, q3, q4, q5, q6⟩, qf, qs, hb0⟩ := cells0 hb1
          rw [Hu.out]
          go_wp2_with fail
          refine (hq _).mono ?_
          rintro _ w2 ⟨rfl, rfl⟩
          go_wp2_with fail
          exact bodyPost_ret (v := .tuple #[.agg #[.int .i64 0, .int .u64 0, .string ⟨#[]⟩, .slice none 0 0, .slice none 0 0, .slice none 0 0, .slice none 0 0], .int .i64 7]) (by simp [results, Tryz.results91, go_sem, q0, q1, q2, q3, q4, q5, q6]) rfl ⟨ret_ve (by rw [Hf.out]; rfl) (by rw [Hf.out]), below7 hb0 (Nat.le_refl _) _ _ _ _ _ _ _⟩
    · have nb : ((n : Int) != s.size) = true := by rw [bne_iff_ne]; omega
      have eb : (e != 0) = false := by rw [he]; rfl
      have hf : textS k s.data.toList = (zv 0, 2) := by rw [htx, if_pos (.inr hn)]
      have Hf := Lib.hid hf
      clear hf htx hn he
      go_enter Tryz.func91, Tryz.ntmps91
      go_wp2_with fail
      refine (rUnquote_any s hs _).mono ?_
      rintro _ w1 ⟨rfl, hb1⟩
      obtain ⟨⟨q0, q1, q2, q3, q4, q5, q6⟩, qf, qs, hb0⟩ := cells0 hb1
      rw [Hu.out]
      go_wp2_with fail
      exact bodyPost_ret (v := .tuple #[.agg #[.int .i64 0, .int .u64 0, .string ⟨#[]⟩, .slice none 0 0, .slice none 0 0, .slice none 0 0, .slice none 0 0], .int .i64 2]) (by simp [results, Tryz.results91, go_sem, q0, q1, q2, q3, q4, q5, q6]) rfl ⟨ret_ve (by rw [Hf.out]; rfl) (by rw [Hf.out]), below7 hb0 (Nat.le_refl _) _ _ _ _ _ _ _⟩
  · have eb : (e != 0) = true := by rw [bne_iff_ne]; exact he
    have hf : textS k s.data.toList = (zv 0, 2) := by rw [htx, if_pos (.inl he)]
    have Hf := Lib.hid hf
    clear hf htx he
    go_enter Tryz.func91, Tryz.ntmps91
    go_wp2_with fail
    refine (rUnquote_any s hs _).mono ?_
    rintro _ w1 ⟨rfl, hb1⟩
    obtain ⟨⟨q0, q1, q2, q3, q4, q5, q6⟩, qf, qs, hb0⟩ := cells0 hb1
    rw [Hu.out]
    go_wp2_with fail
    exact bodyPost_ret (v := .tuple #[.agg #[.int .i64 0, .int .u64 0, .string ⟨#[]⟩, .slice none 0 0, .slice none 0 0, .slice none 0 0, .slice none 0 0], .int .i64 2]) (by simp [results, Tryz.results91, go_sem, q0, q1, q2, q3, q4, q5, q6]) rfl ⟨ret_ve (by rw [Hf.out]; rfl) (by rw [Hf.out]), below7 hb0 (Nat.le_refl _) _ _ _ _ _ _ _⟩
end Go.Proofs.YthjpchnogllliaaGreatDoor.ScaT

/- The contract of whole of the reference of package scalar: whole numbers, read. -/
set_option linter.unusedSimpArgs false
set_option linter.unusedVariables false
namespace Go.Proofs.YthjpchnogllliaaGreatDoor.ScaW
open Go.RowKit Nums Byt UtfM UtfQ UtfH UtfS ScaM ScaV ScaA ScaB ScaC ScaD ScaN ScaT UtfR UtfB UtfK UtfL

/-- A value with a number and nothing else. -/
def nv (k : Int) (b : Nat) : SV := ⟨k, b, ⟨#[]⟩, none, 0, 0, none, 0, 0, none, 0, 0, none, 0, 0⟩
def negN (u : Nat) : Nat := (18446744073709551616 - u) % 18446744073709551616
def outB (k : Int) (u : Nat) (neg : Bool) : Bool := if neg then !sgB k || decide (sgnN < u) else sgB k && decide (sgnN ≤ u)
def wholeS (k : Int) (l : List UInt8) : SV × Int :=
  if (numV l).2.2 ≠ 0 then (zv 0, (numV l).2.2)
  else if outB k (numV l).1 (numV l).2.1 then (zv 0, 6)
  else if fitsB k (sc (nv k (if (numV l).2.1 then negN (numV l).1 else (numV l).1))) then (nv k (if (numV l).2.1 then negN (numV l).1 else (numV l).1), 0) else (zv 0, 6)
theorem numD_le (neg : Bool) (l ds : List UInt8) : (numD neg l ds).1 ≤ 18446744073709551615 := by
  unfold numD
  split
  · simp
  · split
    · simp
    · simp only []; omega
theorem numV_le (l : List UInt8) : (numV l).1 ≤ 18446744073709551615 := by
  unfold numV
  split <;> exact numD_le _ _ _
theorem numV_err (l : List UInt8) : (numV l).2.2 = 0 ∨ (numV l).2.2 = 2 ∨ (numV l).2.2 = 6 := by
  have : ∀ neg a b, (numD neg a b).2.2 = 0 ∨ (numD neg a b).2.2 = 2 ∨ (numD neg a b).2.2 = 6 := by
    intro neg a b
    unfold numD
    split
    · simp
    · split <;> simp
  unfold numV
  split <;> exact this _ _ _
theorem sgn_i : (sgnN : Int) = 9223372036854775808 := rfl
/-- The box of the value under way after a call: its seven cells. -/
def nb (k : Int) (b : Nat) : Obj := .cells #[.int .i64 k, .int .u64 b, .string ⟨#[]⟩, .slice none 0 0, .slice none 0 0, .slice none 0 0, .slice none 0 0] 42
theorem cells2 {w w1 : World} {k : Int} {b : Nat} (hb : Below ((w.alloc zb).alloc (nb k b)).heap.size ((w.alloc zb).alloc (nb k b)) w1) :
    (w1.cell? ⟨w.heap.size, 0, none⟩ = some (.int .i64 0) ∧ w1.cell? ⟨w.heap.size, 1, none⟩ = some (.int .u64 0) ∧ w1.cell? ⟨w.heap.size, 2, none⟩ = some (.string ⟨#[]⟩) ∧ w1.cell? ⟨w.heap.size, 3, none⟩ = some (.slice none 0 0) ∧ w1.cell? ⟨w.heap.size, 4, none⟩ = some (.slice none 0 0) ∧ w1.cell? ⟨w.heap.size, 5, none⟩ = some (.slice none 0 0) ∧ w1.cell? ⟨w.heap.size, 6, none⟩ = some (.slice none 0 0))
    ∧ (w1.cell? ⟨w.heap.size + 1, 0, none⟩ = some (.int .i64 k) ∧ w1.cell? ⟨w.heap.size + 1, 1, none⟩ = some (.int .u64 b) ∧ w1.cell? ⟨w.heap.size + 1, 2, none⟩ = some (.string ⟨#[]⟩) ∧ w1.cell? ⟨w.heap.size + 1, 3, none⟩ = some (.slice none 0 0) ∧ w1.cell? ⟨w.heap.size + 1, 4, none⟩ = some (.slice none 0 0) ∧ w1.cell? ⟨w.heap.size + 1, 5, none⟩ = some (.slice none 0 0) ∧ w1.cell? ⟨w.heap.size + 1, 6, none⟩ = some (.slice none 0 0))
    ∧ (∀ o, w1.frozen? ⟨w.heap.size, o, none⟩ = false) ∧ (∀ o, w1.frozen? ⟨w.heap.size + 1, o, none⟩ = false) ∧ w.heap.size < w1.heap.size ∧ w.heap.size + 1 < w1.heap.size ∧ Below w.heap.size w w1 := by
  have hz : (w.alloc zb).heap.size = w.heap.size + 1 := by simp
  have h1 : Below (w.alloc zb).heap.size (w.alloc zb) w1 := bt (below_box _ _) hb
  obtain ⟨hc, hf, hs, hB⟩ := cells0 h1
  have hlt : w.heap.size + 1 < ((w.alloc zb).alloc (nb k b)).heap.size := by simp
  have hd : ∀ o, w1.cell? ⟨w.heap.size + 1, o, none⟩ = ((w.alloc zb).alloc (nb k b)).cell? ⟨w.heap.size + 1, o, none⟩ := fun o => hb.cell (p := ⟨w.heap.size + 1, o, none⟩) hlt
  refine ⟨hc, ⟨?_, ?_, ?_, ?_, ?_, ?_, ?_⟩, hf, fun o => (hb.frozen (p := ⟨w.heap.size + 1, o, none⟩) hlt).trans ?_, hs, Nat.lt_of_lt_of_le hlt hb.size, hB⟩
  · rw [hd]; unfold nb; rw [World.cell?_alloc_at _ _ _ _ hz.symm]; rfl
  · rw [hd]; unfold nb; rw [World.cell?_alloc_at _ _ _ _ hz.symm]; rfl
  · rw [hd]; unfold nb; rw [World.cell?_alloc_at _ _ _ _ hz.symm]; rfl
  · rw [hd]; unfold nb; rw [World.cell?_alloc_at _ _ _ _ hz.symm]; rfl
  · rw [hd]; unfold nb; rw [World.cell?_alloc_at _ _ _ _ hz.symm]; rfl
  · rw [hd]; unfold nb; rw [World.cell?_alloc_at _ _ _ _ hz.symm]; rfl
  · rw [hd]; unfold nb; rw [World.cell?_alloc_at _ _ _ _ hz.symm]; rfl
  · unfold nb zb; simp

set_option maxHeartbeats 4000000 in
set_option maxRecDepth 100000 in
theorem whole_any (k : Int) (s : ByteArray) (hs : s.size ≤ 35184372088000) (w : World) : Calls Tryz.prog 92 #[.int .i64 k, .string s] w fun e w' => e = .returned (.tuple #[vv (wholeS k s.data.toList).1, .int .i64 (wholeS k s.data.toList).2]) ∧ Below w.heap.size w w' := by
  have hule := numV_le s.data.toList
  obtain ⟨u, neg, e, hu⟩ : ∃ u neg e, numV s.data.toList = (u, neg, e) := ⟨_, _, _, rfl⟩
  rw [hu] at hule; simp only [] at hule
  have htx : ∀ x, wholeS k s.data.toList = x ↔ (if e ≠ 0 then ((zv 0, e) : SV × Int) else if outB k u neg then (zv 0, 6) else if fitsB k (sc (nv k (if neg then negN u else u))) then (nv k (if neg then negN u else u), 0) else (zv 0, 6)) = x := by intro x; unfold wholeS; rw [hu]
  have Hu := Lib.hid hu
  clear hu
  by_cases he : e = 0
  · have eb : (e != 0) = false := by rw [he]; rfl
    have hi := sgn_i
    cases neg with
    | true =>
      cases Sg : sgB k with
      | false =>
        have ho : outB k u true = true := by unfold outB; rw [Sg]; rfl
        have hf : wholeS k s.data.toList = (zv 0, 6) := by rw [htx, if_neg (by intro h; exact h he), if_pos ho]
        have Hf := Lib.hid hf
        clear hf htx he ho hi
        go_enter Tryz.func92, Tryz.ntmps92
        go_wp2_with fail
        refine (number_any s (by omega) _).mono ?_
        rintro _ w1 ⟨rfl, rfl⟩
        rw [Hu.out]
        simp only []
        go_wp2_with fail
        refine (signed_any _ _).mono ?_
        rintro _ w2 ⟨rfl, rfl⟩
        rw [Sg]
        go_wp2_with fail
        exact bodyPost_ret (v := .tuple #[.agg #[.int .i64 0, .int .u64 0, .string ⟨#[]⟩, .slice none 0 0, .slice none 0 0, .slice none 0 0, .slice none 0 0], .int .i64 6]) (by simp [results, Tryz.results92, go_sem]) rfl ⟨ret_ve (by rw [Hf.out]; rfl) (by rw [Hf.out]), below_box _ _⟩
      | true =>
        by_cases hg : sgnN < u
        · have d1 : decide ((9223372036854775808 : Int) < u) = true := by simp only [decide_eq_true_eq]; omega
          have ho : outB k u true = true := by unfold outB; rw [Sg, decide_eq_true hg]; rfl
          clear hg
          have hf : wholeS k s.data.toList = (zv 0, 6) := by rw [htx, if_neg (by intro h; exact h he), if_pos ho]
          have Hf := Lib.hid hf
          clear hf htx he ho hi
          go_enter Tryz.func92, Tryz.ntmps92
          go_wp2_with fail
          refine (number_any s (by omega) _).mono ?_
          rintro _ w1 ⟨rfl, rfl⟩
          rw [Hu.out]
          simp only []
          go_wp2_with fail
          refine (signed_any _ _).mono ?_
          rintro _ w2 ⟨rfl, rfl⟩
          rw [Sg]
          go_wp2_with fail
          exact bodyPost_ret (v := .tuple #[.agg #[.int .i64 0, .int .u64 0, .string ⟨#[]⟩, .slice none 0 0, .slice none 0 0, .slice none 0 0, .slice none 0 0], .int .i64 6]) (by simp [results, Tryz.results92, go_sem]) rfl ⟨ret_ve (by rw [Hf.out]; rfl) (by rw [Hf.out]), below_box _ _⟩
        · have d1 : decide ((9223372036854775808 : Int) < u) = false := by simp only [decide_eq_false_iff_not]; omega
          have ho : outB k u true = false := by unfold outB; rw [Sg, decide_eq_false hg]; rfl
          clear hg
          obtain ⟨b, hb⟩ : ∃ b, b = negN u := ⟨_, rfl⟩
          have hb2 : b ≤ 18446744073709551615 := by rw [hb]; unfold negN; omega
          have hw : IntKind.u64.wrap (-(u : Int)) = (b : Int) := by rw [IntKind.wrap_u64, hb]; unfold negN; omega
          have hx2 : ∀ x, wholeS k s.data.toList = x ↔ (if fitsB k (sc (nv k b)) then ((nv k b, 0) : SV × Int) else (zv 0, 6)) = x := by intro x; rw [htx, if_neg (by intro h; exact h he), if_neg (by rw [ho]; simp), hb]; rfl
          clear hb
          have hq := fits_any k (nv k b) hb2
          simp only [vv, nv] at hq
          cases hft : fitsB k (sc (nv k b)) with
          | true =>
            have hf : wholeS k s.data.toList = (nv k b, 0) := by rw [hx2, hft]; rfl
            simp only [nv] at hft
            rw [hft] at hq
            have Hf := Lib.hid hf
            clear hf hx2 htx he ho hi hft
            go_enter Tryz.func92, Tryz.ntmps92
            go_wp2_with fail
            refine (number_any s (by omega) _).mono ?_
            rintro _ w1 ⟨rfl, rfl⟩
            rw [Hu.out]
            simp only []
            go_wp2_with fail
            refine (signed_any _ _).mono ?_
            rintro _ w2 ⟨rfl, rfl⟩
            rw [Sg]
            go_wp2_with fail
            refine (hq _).mono ?_
            rintro _ w3 ⟨rfl, hb3⟩
            obtain ⟨⟨q0, q1, q2, q3, q4, q5, q6⟩, ⟨r0, r1, r2, r3, r4, r5, r6⟩, qf, rf, qs, rs, hb0⟩ := cells2 hb3
            clear hb3
            go_wp2_with fail
            exact bodyPost_ret (v := .tuple #[.agg #[.int .i64 k, .int .u64 b, .string ⟨#[]⟩, .slice none 0 0, .slice none 0 0, .slice none 0 0, .slice none 0 0], .int .i64 0]) (by simp [results, Tryz.results92, go_sem, q0, q1, q2, q3, q4, q5, q6]) rfl ⟨ret_ve (by rw [Hf.out]; rfl) (by rw [Hf.out]), below7 hb0 (Nat.le_refl _) _ _ _ _ _ _ _⟩
          | false =>
            have hf : wholeS k s.data.toList = (zv 0, 6) := by rw [hx2, hft]; rfl
            simp only [nv] at hft
            rw [hft] at hq
            have Hf := Lib.hid hf
            clear hf hx2 htx he ho hi hft
            go_enter Tryz.func92, Tryz.ntmps92
            go_wp2_with fail
            refine (number_any s (by omega) _).mono ?_
            rintro _ w1 ⟨rfl, rfl⟩
            rw [Hu.out]
            simp only []
            go_wp2_with fail
            refine (signed_any _ _).mono ?_
            rintro _ w2 ⟨rfl, rfl⟩
            rw [Sg]
            go_wp2_with fail
            refine (hq _).mono ?_
            rintro _ w3 ⟨rfl, hb3⟩
            obtain ⟨⟨q0, q1, q2, q3, q4, q5, q6⟩, ⟨r0, r1, r2, r3, r4, r5, r6⟩, qf, rf, qs, rs, hb0⟩ := cells2 hb3
            clear hb3
            go_wp2_with fail
            exact bodyPost_ret (v := .tuple #[.agg #[.int .i64 0, .int .u64 0, .string ⟨#[]⟩, .slice none 0 0, .slice none 0 0, .slice none 0 0, .slice none 0 0], .int .i64 6]) (by simp [results, Tryz.results92, go_sem, q0, q1, q2, q3, q4, q5, q6]) rfl ⟨ret_ve (by rw [Hf.out]; rfl) (by rw [Hf.out]), below7 hb0 (Nat.le_refl _) _ _ _ _ _ _ _⟩
    | false =>
      cases Sg : sgB k with
      | false =>
        have ho : outB k u false = false := by unfold outB; rw [Sg]; rfl
        have hb2 := hule
        have hx2 : ∀ x, wholeS k s.data.toList = x ↔ (if fitsB k (sc (nv k u)) then ((nv k u, 0) : SV × Int) else (zv 0, 6)) = x := by intro x; rw [htx, if_neg (by intro h; exact h he), if_neg (by rw [ho]; simp)]; rfl
        have hq := fits_any k (nv k u) hb2
        simp only [vv, nv] at hq
        cases hft : fitsB k (sc (nv k u)) with
        | true =>
          have hf : wholeS k s.data.toList = (nv k u, 0) := by rw [hx2, hft]; rfl
          simp only [nv] at hft
          rw [hft] at hq
          have Hf := Lib.hid hf
          clear hf hx2 htx he ho hi hft
          go_enter Tryz.func92, Tryz.ntmps92
          go_wp2_with fail
          refine (number_any s (by omega) _).mono ?_
          rintro _ w1 ⟨rfl, rfl⟩
          rw [Hu.out]
          simp only []
          go_wp2_with fail
          refine (signed_any _ _).mono ?_
          rintro _ w2 ⟨rfl, rfl⟩
          rw [Sg]
          go_wp2_with fail
          refine (hq _).mono ?_
          rintro _ w3 ⟨rfl, hb3⟩
          obtain ⟨⟨q0, q1, q2, q3, q4, q5, q6⟩, ⟨r0, r1, r2, r3, r4, r5, r6⟩, qf, rf, qs, rs, hb0⟩ := cells2 hb3
          clear hb3
          go_wp2_with fail
          exact bodyPost_ret (v := .tuple #[.agg #[.int .i64 k, .int .u64 u, .string ⟨#[]⟩, .slice none 0 0, .slice none 0 0, .slice none 0 0, .slice none 0 0], .int .i64 0]) (by simp [results, Tryz.results92, go_sem, q0, q1, q2, q3, q4, q5, q6]) rfl ⟨ret_ve (by rw [Hf.out]; rfl) (by rw [Hf.out]), below7 hb0 (Nat.le_refl _) _ _ _ _ _ _ _⟩
        | false =>
          have hf : wholeS k s.data.toList = (zv 0, 6) := by rw [hx2, hft]; rfl
          simp only [nv] at hft
          rw [hft] at hq
          have Hf := Lib.hid hf
          clear hf hx2 htx he ho hi hft
          go_enter Tryz.func92, Tryz.ntmps92
          go_wp2_with fail
          refine (number_any s (by omega) _).mono ?_
          rintro _ w1 ⟨rfl, rfl⟩
          rw [Hu.out]
          simp only []
          go_wp2_with fail
          refine (signed_any _ _).mono ?_
          rintro _ w2 ⟨rfl, rfl⟩
          rw [Sg]
          go_wp2_with fail
          refine (hq _).mono ?_
          rintro _ w3 ⟨rfl, hb3⟩
          obtain ⟨⟨q0, q1, q2, q3, q4, q5, q6⟩, ⟨r0, r1, r2, r3, r4, r5, r6⟩, qf, rf, qs, rs, hb0⟩ := cells2 hb3
          clear hb3
          go_wp2_with fail
          exact bodyPost_ret (v := .tuple #[.agg #[.int .i64 0, .int .u64 0, .string ⟨#[]⟩, .slice none 0 0, .slice none 0 0, .slice none 0 0, .slice none 0 0], .int .i64 6]) (by simp [results, Tryz.results92, go_sem, q0, q1, q2, q3, q4, q5, q6]) rfl ⟨ret_ve (by rw [Hf.out]; rfl) (by rw [Hf.out]), below7 hb0 (Nat.le_refl _) _ _ _ _ _ _ _⟩
      | true =>
        by_cases hg : sgnN ≤ u
        · have d1 : decide ((9223372036854775808 : Int) ≤ u) = true := by simp only [decide_eq_true_eq]; omega
          have ho : outB k u false = true := by unfold outB; rw [Sg, decide_eq_true hg]; rfl
          clear hg
          have hf : wholeS k s.data.toList = (zv 0, 6) := by rw [htx, if_neg (by intro h; exact h he), if_pos ho]
          have Hf := Lib.hid hf
          clear hf htx he ho hi
          go_enter Tryz.func92, Tryz.ntmps92
          go_wp2_with fail
          refine (number_any s (by omega) _).mono ?_
          rintro _ w1 ⟨rfl, rfl⟩
          rw [Hu.out]
          simp only []
          go_wp2_with fail
          refine (signed_any _ _).mono ?_
          rintro _ w2 ⟨rfl, rfl⟩
          rw [Sg]
          go_wp2_with fail
          exact bodyPost_ret (v := .tuple #[.agg #[.int .i64 0, .int .u64 0, .string ⟨#[]⟩, .slice none 0 0, .slice none 0 0, .slice none 0 0, .slice none 0 0], .int .i64 6]) (by simp [results, Tryz.results92, go_sem]) rfl ⟨ret_ve (by rw [Hf.out]; rfl) (by rw [Hf.out]), below_box _ _⟩
        · have d1 : decide ((9223372036854775808 : Int) ≤ u) = false := by simp only [decide_eq_false_iff_not]; omega
          have ho : outB k u false = false := by unfold outB; rw [Sg, decide_eq_false hg]; rfl
          clear hg
          have hb2 := hule
          have hx2 : ∀ x, wholeS k s.data.toList = x ↔ (if fitsB k (sc (nv k u)) then ((nv k u, 0) : SV × Int) else (zv 0, 6)) = x := by intro x; rw [htx, if_neg (by intro h; exact h he), if_neg (by rw [ho]; simp)]; rfl
          have hq := fits_any k (nv k u) hb2
          simp only [vv, nv] at hq
          cases hft : fitsB k (sc (nv k u)) with
          | true =>
            have hf : wholeS k s.data.toList = (nv k u, 0) := by rw [hx2, hft]; rfl
            simp only [nv] at hft
            rw [hft] at hq
            have Hf := Lib.hid hf
            clear hf hx2 htx he ho hi hft
            go_enter Tryz.func92, Tryz.ntmps92
            go_wp2_with fail
            refine (number_any s (by omega) _).mono ?_
            rintro _ w1 ⟨rfl, rfl⟩
            rw [Hu.out]
            simp only []
            go_wp2_with fail
            refine (signed_any _ _).mono ?_
            rintro _ w2 ⟨rfl, rfl⟩
            rw [Sg]
            go_wp2_with fail
            refine (hq _).mono ?_
            rintro _ w3 ⟨rfl, hb3⟩
            obtain ⟨⟨q0, q1, q2, q3, q4, q5, q6⟩, ⟨r0, r1, r2, r3, r4, r5, r6⟩, qf, rf, qs, rs, hb0⟩ := cells2 hb3
            clear hb3
            go_wp2_with fail
            exact bodyPost_ret (v := .tuple #[.agg #[.int .i64 k, .int .u64 u, .string ⟨#[]⟩, .slice none 0 0, .slice none 0 0, .slice none 0 0, .slice none 0 0], .int .i64 0]) (by simp [results, Tryz.results92, go_sem, q0, q1, q2, q3, q4, q5, q6]) rfl ⟨ret_ve (by rw [Hf.out]; rfl) (by rw [Hf.out]), below7 hb0 (Nat.le_refl _) _ _ _ _ _ _ _⟩
          | false =>
            have hf : wholeS k s.data.toList = (zv 0, 6) := by rw [hx2, hft]; rfl
            simp only [nv] at hft
            rw [hft] at hq
            have Hf := Lib.hid hf
            clear hf hx2 htx he ho hi hft
            go_enter Tryz.func92, Tryz.ntmps92
            go_wp2_with fail
            refine (number_any s (by omega) _).mono ?_
            rintro _ w1 ⟨rfl, rfl⟩
            rw [Hu.out]
            simp only []
            go_wp2_with fail
            refine (signed_any _ _).mono ?_
            rintro _ w2 ⟨rfl, rfl⟩
            rw [Sg]
            go_wp2_with fail
            refine (hq _).mono ?_
            rintro _ w3 ⟨rfl, hb3⟩
            obtain ⟨⟨q0, q1, q2, q3, q4, q5, q6⟩, ⟨r0, r1, r2, r3, r4, r5, r6⟩, qf, rf, qs, rs, hb0⟩ := cells2 hb3
            clear hb3
            go_wp2_with fail
            exact bodyPost_ret (v := .tuple #[.agg #[.int .i64 0, .int .u64 0, .string ⟨#[]⟩, .slice none 0 0, .slice none 0 0, .slice none 0 0, .slice none 0 0], .int .i64 6]) (by simp [results, Tryz.results92, go_sem, q0, q1, q2, q3, q4, q5, q6]) rfl ⟨ret_ve (by rw [Hf.out]; rfl) (by rw [Hf.out]), below7 hb0 (Nat.le_refl _) _ _ _ _ _ _ _⟩
  · have eb : (e != 0) = true := by rw [bne_iff_ne]; exact he
    have hf : wholeS k s.data.toList = (zv 0, e) := by rw [htx, if_pos he]
    have Hf := Lib.hid hf
    clear hf htx he
    go_enter Tryz.func92, Tryz.ntmps92
    go_wp2_with fail
    refine (number_any s (by omega) _).mono ?_
    rintro _ w1 ⟨rfl, rfl⟩
    rw [Hu.out]
    simp only []
    go_wp2_with fail
    exact bodyPost_ret (v := .tuple #[.agg #[.int .i64 0, .int .u64 0, .string ⟨#[]⟩, .slice none 0 0, .slice none 0 0, .slice none 0 0, .slice none 0 0], .int .i64 e]) (by simp [results, Tryz.results92, go_sem]) rfl ⟨ret_ve (by rw [Hf.out]; rfl) (by rw [Hf.out]), below_box _ _⟩
end Go.Proofs.YthjpchnogllliaaGreatDoor.ScaW

/- The contract of Parse of the reference of package scalar, from a contract of double. -/
set_option linter.unusedSimpArgs false
set_option linter.unusedVariables false
namespace Go.Proofs.YthjpchnogllliaaGreatDoor.ScaY
open Go.RowKit Nums Byt UtfM UtfQ UtfH UtfS ScaM ScaV ScaA ScaB ScaC ScaD ScaN ScaT ScaW UtfR UtfB UtfK UtfL

def trueL : List UInt8 := [116, 114, 117, 101]
def falseL : List UInt8 := [102, 97, 108, 115, 101]
def boolS (k : Int) (l : List UInt8) : SV × Int := if l = trueL then (nv k 1, 0) else if l = falseL then (nv k 0, 0) else (zv 0, 2)
def bytesS (k : Int) (l : List UInt8) : SV × Int := if l.head? = some 120 then textS k (l.drop 1) else (zv 0, 2)
def parseS (D : List UInt8 → SV × Int) (k : Int) (l : List UInt8) : SV × Int :=
  if isB k = false then (zv 0, 1) else if k = 1 then boolS k l else if k = 6 then D l else if k = 7 then textS k l else if k = 8 then bytesS k l else wholeS k l
/-- What the contract of double says. -/
def DoubleHas (D : List UInt8 → SV × Int) : Prop := ∀ (s : ByteArray), s.size ≤ 35184372088000 → ∀ w : World,
  Calls Tryz.prog 90 #[.string s] w fun e w' => e = .returned (.tuple #[vv (D s.data.toList).1, .int .i64 (D s.data.toList).2]) ∧ Below w.heap.size w w'

set_option maxHeartbeats 4000000 in
set_option maxRecDepth 100000 in
theorem parse_of {D : List UInt8 → SV × Int} (hD : DoubleHas D) (k : Int) (s : ByteArray) (hs : s.size ≤ 35184372088000) (w : World) : Calls Tryz.prog 64 #[.int .i64 k, .string s] w fun e w' => e = .returned (.tuple #[vv (parseS D k s.data.toList).1, .int .i64 (parseS D k s.data.toList).2]) ∧ Below w.heap.size w w' := by
  have hsi : (s.size : Int) ≤ 35184372088000 := by omega
  cases h1 : isB k with
  | false =>
    have hf : parseS D k s.data.toList = (zv 0, 1) := by unfold parseS; rw [if_pos h1]
    have Hf := Lib.hid hf
    have H1 := Lib.hid h1
    clear hf h1 hD
    go_enter Tryz.func64, Tryz.ntmps64
    go_wp2_with fail
    refine (is_any _ _).mono ?_
    rintro _ w1 ⟨rfl, rfl⟩
    rw [H1.out]
    go_wp2_with fail
    exact bodyPost_ret (v := .tuple #[.agg #[.int .i64 0, .int .u64 0, .string ⟨#[]⟩, .slice none 0 0, .slice none 0 0, .slice none 0 0, .slice none 0 0], .int .i64 1]) (by simp [results, Tryz.results64, go_sem]) rfl ⟨ret_ve (by rw [Hf.out]; rfl) (by rw [Hf.out]), below_box _ _⟩
  | true =>
    have H1 := Lib.hid h1
    have hn1 : ¬ isB k = false := by rw [h1]; simp
    clear h1
    by_cases k1 : k = 1
    · have b1 : (k == 1) = true := by rw [k1]; rfl
      have hx : parseS D k s.data.toList = boolS k s.data.toList := by unfold parseS; rw [if_neg hn1, if_pos k1]
      by_cases ht : s.data.toList = trueL
      · have t1 : (s.toList == [116, 114, 117, 101]) = true := by rw [ByteArray.toList_eq, ht]; rfl
        have hf : parseS D k s.data.toList = (nv k 1, 0) := by rw [hx]; unfold boolS; rw [if_pos ht]
        have Hf := Lib.hid hf
        clear hf hx ht k1 hn1 hD
        go_enter Tryz.func64, Tryz.ntmps64
        go_wp2_with fail
        refine (is_any _ _).mono ?_
        rintro _ w1 ⟨rfl, rfl⟩
        rw [H1.out]
        go_wp2_with fail
        exact bodyPost_ret (v := .tuple #[.agg #[.int .i64 k, .int .u64 1, .string ⟨#[]⟩, .slice none 0 0, .slice none 0 0, .slice none 0 0, .slice none 0 0], .int .i64 0]) (by simp [results, Tryz.results64, go_sem]) rfl ⟨ret_ve (by rw [Hf.out]; rfl) (by rw [Hf.out]), below_box _ _⟩
      · have t1 : (s.toList == [116, 114, 117, 101]) = false := by rw [ByteArray.toList_eq, beq_eq_false_iff_ne]; exact ht
        by_cases hg : s.data.toList = falseL
        · have t2 : (s.toList == [102, 97, 108, 115, 101]) = true := by rw [ByteArray.toList_eq, hg]; rfl
          have hf : parseS D k s.data.toList = (nv k 0, 0) := by rw [hx]; unfold boolS; rw [if_neg ht, if_pos hg]
          have Hf := Lib.hid hf
          clear hf hx ht hg k1 hn1 hD
          go_enter Tryz.func64, Tryz.ntmps64
          go_wp2_with fail
          refine (is_any _ _).mono ?_
          rintro _ w1 ⟨rfl, rfl⟩
          rw [H1.out]
          go_wp2_with fail
          exact bodyPost_ret (v := .tuple #[.agg #[.int .i64 k, .int .u64 0, .string ⟨#[]⟩, .slice none 0 0, .slice none 0 0, .slice none 0 0, .slice none 0 0], .int .i64 0]) (by simp [results, Tryz.results64, go_sem]) rfl ⟨ret_ve (by rw [Hf.out]; rfl) (by rw [Hf.out]), below_box _ _⟩
        · have t2 : (s.toList == [102, 97, 108, 115, 101]) = false := by rw [ByteArray.toList_eq, beq_eq_false_iff_ne]; exact hg
          have hf : parseS D k s.data.toList = (zv 0, 2) := by rw [hx]; unfold boolS; rw [if_neg ht, if_neg hg]
          have Hf := Lib.hid hf
          clear hf hx ht hg k1 hn1 hD
          go_enter Tryz.func64, Tryz.ntmps64
          go_wp2_with fail
          refine (is_any _ _).mono ?_
          rintro _ w1 ⟨rfl, rfl⟩
          rw [H1.out]
          go_wp2_with fail
          exact bodyPost_ret (v := .tuple #[.agg #[.int .i64 0, .int .u64 0, .string ⟨#[]⟩, .slice none 0 0, .slice none 0 0, .slice none 0 0, .slice none 0 0], .int .i64 2]) (by simp [results, Tryz.results64, go_sem]) rfl ⟨ret_ve (by rw [Hf.out]; rfl) (by rw [Hf.out]), below_box _ _⟩
    · have b1 : (k == 1) = false := by rw [beq_eq_false_iff_ne]; exact k1
      by_cases k6 : k = 6
      · have b6 : (k == 6) = true := by rw [k6]; rfl
        have hf : parseS D k s.data.toList = D s.data.toList := by unfold parseS; rw [if_neg hn1, if_neg k1, if_pos k6]
        clear k1 k6 hn1
        have hq := hD s hs
        obtain ⟨⟨vk, vb, vt, a1, l1, c1, a2, l2, c2, a3, l3, c3, a4, l4, c4⟩, E, hE⟩ : ∃ V E, D s.data.toList = (V, E) := ⟨_, _, rfl⟩
        rw [hE] at hq hf
        simp only [vv] at hq
        have Hf := Lib.hid hf
        clear hf hE
        go_enter Tryz.func64, Tryz.ntmps64
        go_wp2_with fail
        refine (is_any _ _).mono ?_
        rintro _ w1 ⟨rfl, rfl⟩
        rw [H1.out]
        go_wp2_with fail
        refine (hq _).mono ?_
        rintro _ w2 ⟨rfl, hb2⟩
        obtain ⟨⟨q0, q1, q2, q3, q4, q5, q6⟩, qf, qs, hb0⟩ := cells0 hb2
        clear hb2
        go_wp2_with fail
        exact bodyPost_ret (v := .tuple #[.agg #[.int .i64 vk, .int .u64 vb, .string vt, .slice a1 l1 c1, .slice a2 l2 c2, .slice a3 l3 c3, .slice a4 l4 c4], .int .i64 E]) (by simp [results, Tryz.results64, go_sem, q0, q1, q2, q3, q4, q5, q6]) rfl ⟨ret_ve (by rw [Hf.out]; rfl) (by rw [Hf.out]), below7 hb0 (Nat.le_refl _) _ _ _ _ _ _ _⟩
      · have b6 : (k == 6) = false := by rw [beq_eq_false_iff_ne]; exact k6
        clear hD
        by_cases k7 : k = 7
        · have b7 : (k == 7) = true := by rw [k7]; rfl
          have hf : parseS D k s.data.toList = textS k s.data.toList := by unfold parseS; rw [if_neg hn1, if_neg k1, if_neg k6, if_pos k7]
          clear k1 k6 k7 hn1
          have hq := text_any k s hs
          obtain ⟨⟨vk, vb, vt, a1, l1, c1, a2, l2, c2, a3, l3, c3, a4, l4, c4⟩, E, hE⟩ : ∃ V E, textS k s.data.toList = (V, E) := ⟨_, _, rfl⟩
          rw [hE] at hq hf
          simp only [vv] at hq
          have Hf := Lib.hid hf
          clear hf hE
          go_enter Tryz.func64, Tryz.ntmps64
          go_wp2_with fail
          refine (is_any _ _).mono ?_
          rintro _ w1 ⟨rfl, rfl⟩
          rw [H1.out]
          go_wp2_with fail
          refine (hq _).mono ?_
          rintro _ w2 ⟨rfl, hb2⟩
          obtain ⟨⟨q0, q1, q2, q3, q4, q5, q6⟩, qf, qs, hb0⟩ := cells0 hb2
          clear hb2
          go_wp2_with fail
          exact bodyPost_ret (v := .tuple #[.agg #[.int .i64 vk, .int .u64 vb, .string vt, .slice a1 l1 c1, .slice a2 l2 c2, .slice a3 l3 c3, .slice a4 l4 c4], .int .i64 E]) (by simp [results, Tryz.results64, go_sem, q0, q1, q2, q3, q4, q5, q6]) rfl ⟨ret_ve (by rw [Hf.out]; rfl) (by rw [Hf.out]), below7 hb0 (Nat.le_refl _) _ _ _ _ _ _ _⟩
        · have b7 : (k == 7) = false := by rw [beq_eq_false_iff_ne]; exact k7
          by_cases k8 : k = 8
          · have b8 : (k == 8) = true := by rw [k8]; rfl
            have hx : parseS D k s.data.toList = bytesS k s.data.toList := by unfold parseS; rw [if_neg hn1, if_neg k1, if_neg k6, if_neg k7, if_pos k8]
            by_cases hz : s.size = 0
            · have he := empty_yes hz
              have hf : parseS D k s.data.toList = (zv 0, 2) := by rw [hx]; unfold bytesS; rw [if_neg (by rw [List.eq_nil_of_length_eq_zero (show s.data.toList.length = 0 from hz)]; simp)]
              have Hf := Lib.hid hf
              clear hf hx hz k1 k6 k7 k8 hn1
              go_enter Tryz.func64, Tryz.ntmps64
              go_wp2_with fail
              refine (is_any _ _).mono ?_
              rintro _ w1 ⟨rfl, rfl⟩
              rw [H1.out]
              go_wp2_with fail
              exact bodyPost_ret (v := .tuple #[.agg #[.int .i64 0, .int .u64 0, .string ⟨#[]⟩, .slice none 0 0, .slice none 0 0, .slice none 0 0, .slice none 0 0], .int .i64 2]) (by simp [results, Tryz.results64, go_sem]) rfl ⟨ret_ve (by rw [Hf.out]; rfl) (by rw [Hf.out]), below_box _ _⟩
            · have he := empty_no hz
              have h0s : 0 < s.size := by omega
              have h1s : (1 : Int) ≤ s.size := by omega
              have hhead : s.data.toList.head? = some s[0] := by rw [List.head?_eq_getElem?]; exact lget h0s
              by_cases hc : s[0] = 120
              · have e1 : ((s[0].toNat : Int) == 120) = true := beq_yes hc
                have hDd : (s.extract 1 s.size).data.toList = s.data.toList.drop 1 := drop_data _ _
                have hf : parseS D k s.data.toList = textS k (s.data.toList.drop 1) := by rw [hx]; unfold bytesS; rw [if_pos (by rw [hhead, hc])]
                rw [← hDd] at hf
                clear hx hz k1 k6 k7 k8 hn1 hhead hc hDd
                have hq := text_any k (s.extract 1 s.size) (by rw [ByteArray.size_extract]; omega)
                obtain ⟨⟨vk, vb, vt, a1, l1, c1, a2, l2, c2, a3, l3, c3, a4, l4, c4⟩, E, hE⟩ : ∃ V E, textS k (s.extract 1 s.size).data.toList = (V, E) := ⟨_, _, rfl⟩
                rw [hE] at hq hf
                simp only [vv] at hq
                have Hf := Lib.hid hf
                clear hf hE
                go_enter Tryz.func64, Tryz.ntmps64
                go_wp2_with fail
                refine (is_any _ _).mono ?_
                rintro _ w1 ⟨rfl, rfl⟩
                rw [H1.out]
                go_wp2_with fail
                refine (hq _).mono ?_
                rintro _ w2 ⟨rfl, hb2⟩
                obtain ⟨⟨q0, q1, q2, q3, q4, q5, q6⟩, qf, qs, hb0⟩ := cells0 hb2
                clear hb2
                go_wp2_with fail
                exact bodyPost_ret (v := .tuple #[.agg #[.int .i64 vk, .int .u64 vb, .string vt, .slice a1 l1 c1, .slice a2 l2 c2, .slice a3 l3 c3, .slice a4 l4 c4], .int .i64 E]) (by simp [results, Tryz.results64, go_sem, q0, q1, q2, q3, q4, q5, q6]) rfl ⟨ret_ve (by rw [Hf.out]; rfl) (by rw [Hf.out]), below7 hb0 (Nat.le_refl _) _ _ _ _ _ _ _⟩
              · have e1 : ((s[0].toNat : Int) == 120) = false := beq_no hc
                have hf : parseS D k s.data.toList = (zv 0, 2) := by rw [hx]; unfold bytesS; rw [if_neg (by rw [hhead]; intro h; injection h with h; exact hc h)]
                have Hf := Lib.hid hf
                clear hf hx hz k1 k6 k7 k8 hn1 hhead hc
                go_enter Tryz.func64, Tryz.ntmps64
                go_wp2_with fail
                refine (is_any _ _).mono ?_
                rintro _ w1 ⟨rfl, rfl⟩
                rw [H1.out]
                go_wp2_with fail
                exact bodyPost_ret (v := .tuple #[.agg #[.int .i64 0, .int .u64 0, .string ⟨#[]⟩, .slice none 0 0, .slice none 0 0, .slice none 0 0, .slice none 0 0], .int .i64 2]) (by simp [results, Tryz.results64, go_sem]) rfl ⟨ret_ve (by rw [Hf.out]; rfl) (by rw [Hf.out]), below_box _ _⟩
          · have b8 : (k == 8) = false := by rw [beq_eq_false_iff_ne]; exact k8
            have hf : parseS D k s.data.toList = wholeS k s.data.toList := by unfold parseS; rw [if_neg hn1, if_neg k1, if_neg k6, if_neg k7, if_neg k8]
            clear k1 k6 k7 k8 hn1
            have hq := whole_any k s hs
            obtain ⟨⟨vk, vb, vt, a1, l1, c1, a2, l2, c2, a3, l3, c3, a4, l4, c4⟩, E, hE⟩ : ∃ V E, wholeS k s.data.toList = (V, E) := ⟨_, _, rfl⟩
            rw [hE] at hq hf
            simp only [vv] at hq
            have Hf := Lib.hid hf
            clear hf hE
            go_enter Tryz.func64, Tryz.ntmps64
            go_wp2_with fail
            refine (is_any _ _).mono ?_
            rintro _ w1 ⟨rfl, rfl⟩
            rw [H1.out]
            go_wp2_with fail
            refine (hq _).mono ?_
            rintro _ w2 ⟨rfl, hb2⟩
            obtain ⟨⟨q0, q1, q2, q3, q4, q5, q6⟩, qf, qs, hb0⟩ := cells0 hb2
            clear hb2
            go_wp2_with fail
            exact bodyPost_ret (v := .tuple #[.agg #[.int .i64 vk, .int .u64 vb, .string vt, .slice a1 l1 c1, .slice a2 l2 c2, .slice a3 l3 c3, .slice a4 l4 c4], .int .i64 E]) (by simp [results, Tryz.results64, go_sem, q0, q1, q2, q3, q4, q5, q6]) rfl ⟨ret_ve (by rw [Hf.out]; rfl) (by rw [Hf.out]), below7 hb0 (Nat.le_refl _) _ _ _ _ _ _ _⟩
end Go.Proofs.YthjpchnogllliaaGreatDoor.ScaY

/- Contracts of Same and Cmp of the reference of package scalar. -/
set_option linter.unusedSimpArgs false
set_option linter.unusedVariables false
namespace Go.Proofs.YthjpchnogllliaaGreatDoor.ScaG
open Go.RowKit Nums Byt UtfM UtfS ScaM ScaV ScaA ScaB ScaC ScaD

/-- A block holds a value. -/
structure HasV (w : World) (B : Nat) (v : SV) : Prop where
  lt : B < w.heap.size
  cells : w.cell? ⟨B, 0, none⟩ = some (.int .i64 v.k) ∧ w.cell? ⟨B, 1, none⟩ = some (.int .u64 v.b) ∧ w.cell? ⟨B, 2, none⟩ = some (.string v.t) ∧ w.cell? ⟨B, 3, none⟩ = some (.slice v.a1 v.l1 v.c1) ∧ w.cell? ⟨B, 4, none⟩ = some (.slice v.a2 v.l2 v.c2) ∧ w.cell? ⟨B, 5, none⟩ = some (.slice v.a3 v.l3 v.c3) ∧ w.cell? ⟨B, 6, none⟩ = some (.slice v.a4 v.l4 v.c4)
theorem has_newV (w : World) (v : SV) (T : TypeId) : HasV (w.alloc (.cells #[.int .i64 v.k, .int .u64 v.b, .string v.t, .slice v.a1 v.l1 v.c1, .slice v.a2 v.l2 v.c2, .slice v.a3 v.l3 v.c3, .slice v.a4 v.l4 v.c4] T)) w.heap.size v := by
  refine ⟨by simp, ?_⟩
  simp [World.cell?_alloc_at _ _ _ _ rfl]
theorem HasV.below {w w' : World} {B : Nat} {v : SV} (h : HasV w B v) (hb : Below w.heap.size w w') : HasV w' B v := by
  have e : ∀ i, w'.cell? ⟨B, i, none⟩ = w.cell? ⟨B, i, none⟩ := fun i => hb.cell (p := ⟨B, i, none⟩) h.lt
  refine ⟨Nat.lt_of_lt_of_le h.lt hb.size, ?_⟩
  simp only [e]
  exact h.cells
theorem HasV.alloc {w : World} {B : Nat} {v : SV} (h : HasV w B v) (o : Obj) : HasV (w.alloc o) B v := h.below (below_box w o)
theorem HasV.drew {w : World} {B : Nat} {v : SV} (h : HasV w B v) : HasV w.drew B v := ⟨h.lt, h.cells⟩

theorem box2 {w w' : World} {o o2 : Obj} (h : Below ((w.alloc o).alloc o2).drew.heap.size ((w.alloc o).alloc o2).drew w') : Below w.heap.size w w' :=
  ((((Below.refl w.heap.size w).alloc (Nat.le_refl _) o).alloc (by simp) o2).drew).trans (h.mono (by show w.heap.size ≤ ((w.alloc o).alloc o2).heap.size; simp; omega))
end Go.Proofs.YthjpchnogllliaaGreatDoor.ScaG

/- The contract of double of the reference of package scalar. -/
set_option linter.unusedSimpArgs false
set_option linter.unusedVariables false
namespace Go.Proofs.YthjpchnogllliaaGreatDoor.ScaX
open Go.RowKit Nums Byt UtfM UtfQ UtfH UtfS ScaM ScaV ScaA ScaB ScaC ScaD ScaG ScaN ScaT ScaW ScaY UtfR UtfB UtfK UtfL

def nanL : List UInt8 := [110, 97, 110]
def infL : List UInt8 := [105, 110, 102]
def ninL : List UInt8 := [45, 105, 110, 102]
def numW (l : List UInt8) : Nat := l.foldl (fun a c => (256 * a + c.toNat) % 18446744073709551616) 0
theorem numW_snoc (l : List UInt8) (c : UInt8) : numW (l ++ [c]) = (256 * numW l + c.toNat) % 18446744073709551616 := by unfold numW; rw [List.foldl_append]; rfl
def bitsS (l : List UInt8) : SV × Int := if uhE l ≠ 0 then (zv 0, 2) else if clsN (numW (uhT l)) ≤ 1 then (zv 0, 2) else (nv 6 (numW (uhT l)), 0)
def doubleS (l : List UInt8) : SV × Int :=
  if l = nanL then (nv 6 nanN, 0) else if l = infL then (nv 6 infN, 0) else if l = ninL then (nv 6 (infN + sgnN), 0)
  else if l.length ≠ 18 ∨ l.take 2 ≠ [48, 120] then (zv 0, 2) else bitsS (l.drop 2)
/-- The two boxes in the loop. -/
structure Two (w wr : World) (K U : Nat) : Prop where
  a : HasV wr w.heap.size (zv 0)
  b : HasV wr K (nv 6 U)
  fa : ∀ o, wr.frozen? ⟨w.heap.size, o, none⟩ = false
  fb : ∀ o, wr.frozen? ⟨K, o, none⟩ = false
  lt : w.heap.size < K
  bel : Below w.heap.size w wr
theorem Two.set {w wr : World} {K U : Nat} (h : Two w wr K U) (V : Nat) : Two w (wr.setCell ⟨K, 1, none⟩ (.int .u64 V)).drew K V := by
  obtain ⟨⟨la, a0, a1, a2, a3, a4, a5, a6⟩, ⟨lb, b0, b1, b2, b3, b4, b5, b6⟩, fa, fb, lt, bel⟩ := h
  have hne : w.heap.size ≠ K := by omega
  have hne2 : K ≠ w.heap.size := by omega
  refine ⟨⟨by simpa using la, ?_⟩, ⟨by simpa using lb, ?_⟩, fun o => by simp [fa], fun o => by simp [fb], lt, (bel.setCell (by show w.heap.size ≤ K; omega) _).drew⟩
  · simp [go_sem, a0, a1, a2, a3, a4, a5, a6, hne, hne2]
  · simp only [nv] at b0 b1 b2 b3 b4 b5 b6 ⊢
    simp [go_sem, b0, b1, b2, b3, b4, b5, b6, hne, hne2]
theorem two_new {w w1 : World} (hb : Below (w.alloc zb).heap.size (w.alloc zb) w1) : Two w (w1.alloc (nb 6 0)) w1.heap.size 0 := by
  obtain ⟨hc, hf, hs, hB⟩ := cells0 hb
  have hv : HasV w1 w.heap.size (zv 0) := ⟨hs, hc⟩
  refine ⟨hv.alloc _, has_newV w1 (nv 6 0) _, fun o => ?_, fun o => by simp [nb], hs, hB.alloc (by omega) _⟩
  have := (below_box w1 (nb 6 0)).frozen (p := ⟨w.heap.size, o, none⟩) hs
  rw [this, hf]

set_option maxHeartbeats 2000000 in
set_option maxRecDepth 100000 in
theorem double_any (s : ByteArray) (hs : s.size ≤ 35184372088000) (w : World) : Calls Tryz.prog 90 #[.string s] w fun e w' => e = .returned (.tuple #[vv (doubleS s.data.toList).1, .int .i64 (doubleS s.data.toList).2]) ∧ Below w.heap.size w w' := by
  have hsi : (s.size : Int) ≤ 35184372088000 := by omega
  by_cases h1 : s.data.toList = nanL
  · have t1 : (s.toList == [110, 97, 110]) = true := by rw [ByteArray.toList_eq, h1]; rfl
    have hf : doubleS s.data.toList = (nv 6 nanN, 0) := by unfold doubleS; rw [if_pos h1]
    have Hf := Lib.hid hf
    clear hf h1 
    go_enter Tryz.func90, Tryz.ntmps90
    go_wp2_with fail
    exact bodyPost_ret (v := .tuple #[.agg #[.int .i64 6, .int .u64 9221120237041090560, .string ⟨#[]⟩, .slice none 0 0, .slice none 0 0, .slice none 0 0, .slice none 0 0], .int .i64 0]) (by simp [results, Tryz.results90, go_sem]) rfl ⟨ret_ve (by rw [Hf.out]; rfl) (by rw [Hf.out]), below_box _ _⟩
  · have t1 : (s.toList == [110, 97, 110]) = false := by rw [ByteArray.toList_eq, beq_eq_false_iff_ne]; exact h1
    by_cases h2 : s.data.toList = infL
    · have t2 : (s.toList == [105, 110, 102]) = true := by rw [ByteArray.toList_eq, h2]; rfl
      have hf : doubleS s.data.toList = (nv 6 infN, 0) := by unfold doubleS; rw [if_neg h1, if_pos h2]
      have Hf := Lib.hid hf
      clear hf h2 h1
      go_enter Tryz.func90, Tryz.ntmps90
      go_wp2_with fail
      exact bodyPost_ret (v := .tuple #[.agg #[.int .i64 6, .int .u64 9218868437227405312, .string ⟨#[]⟩, .slice none 0 0, .slice none 0 0, .slice none 0 0, .slice none 0 0], .int .i64 0]) (by simp [results, Tryz.results90, go_sem]) rfl ⟨ret_ve (by rw [Hf.out]; rfl) (by rw [Hf.out]), below_box _ _⟩
    · have t2 : (s.toList == [105, 110, 102]) = false := by rw [ByteArray.toList_eq, beq_eq_false_iff_ne]; exact h2
      by_cases h3 : s.data.toList = ninL
      · have t3 : (s.toList == [45, 105, 110, 102]) = true := by rw [ByteArray.toList_eq, h3]; rfl
        have hf : doubleS s.data.toList = (nv 6 (infN + sgnN), 0) := by unfold doubleS; rw [if_neg h1, if_neg h2, if_pos h3]
        have Hf := Lib.hid hf
        clear hf h3 h1 h2
        go_enter Tryz.func90, Tryz.ntmps90
        go_wp2_with fail
        exact bodyPost_ret (v := .tuple #[.agg #[.int .i64 6, .int .u64 18442240474082181120, .string ⟨#[]⟩, .slice none 0 0, .slice none 0 0, .slice none 0 0, .slice none 0 0], .int .i64 0]) (by simp [results, Tryz.results90, go_sem]) rfl ⟨ret_ve (by rw [Hf.out]; rfl) (by rw [Hf.out]), below_box _ _⟩
      · have t3 : (s.toList == [45, 105, 110, 102]) = false := by rw [ByteArray.toList_eq, beq_eq_false_iff_ne]; exact h3
        have hlen : s.data.toList.length = s.size := rfl
        have hx : ∀ x, doubleS s.data.toList = x ↔ (if s.size ≠ 18 ∨ s.data.toList.take 2 ≠ [48, 120] then ((zv 0, 2) : SV × Int) else bitsS (s.data.toList.drop 2)) = x := by intro x; unfold doubleS; rw [if_neg h1, if_neg h2, if_neg h3, hlen]
        clear h1 h2 h3 hlen
        by_cases hz : s.size = 18
        · have nz : ((s.size : Int) != 18) = false := by rw [hz]; rfl
          have hz2 : (2 : Int) ≤ s.size := by omega
          have htk : (s.extract 0 2).data.toList = s.data.toList.take 2 := by simp
          by_cases hp : s.data.toList.take 2 = [48, 120]
          · have np : ((s.extract 0 2).toList == [48, 120]) = true := by rw [ByteArray.toList_eq, htk, hp]; rfl
            have hdr : (s.extract 2 s.size).data.toList = s.data.toList.drop 2 := drop_data _ _
            have hx2 : ∀ x, doubleS s.data.toList = x ↔ bitsS (s.data.toList.drop 2) = x := by intro x; rw [hx, if_neg (by intro h; rcases h with h | h; exact h hz; exact h hp)]
            have hq := rUnhex_any (s.extract 2 s.size) (by rw [ByteArray.size_extract]; omega)
            rw [hdr] at hq
            have hTl : (s.data.toList.drop 2).length ≤ 35184372088000 := by rw [List.length_drop]; have : s.data.toList.length = s.size := rfl; omega
            generalize s.data.toList.drop 2 = T at hq hx2 hTl
            obtain ⟨V, hV⟩ : ∃ V : ByteArray, V = ⟨(uhT T).toArray⟩ := ⟨_, rfl⟩
            obtain ⟨E, hE⟩ : ∃ E : Int, E = uhE T := ⟨_, rfl⟩
            have hVl : V.data.toList = uhT T := by rw [hV]
            have hVs : (V.size : Int) ≤ 35184372088000 := by have h1 := uhT_len T; have h2 : V.size = V.data.toList.length := rfl; rw [hVl] at h2; omega
            rw [← hV, ← hE] at hq
            clear hx hz hp htk hdr hTl
            by_cases hE0 : E = 0
            · have Eb : (E != 0) = false := by rw [hE0]; rfl
              have hx3 : ∀ x, doubleS s.data.toList = x ↔ (if clsN (numW V.data.toList) ≤ 1 then ((zv 0, 2) : SV × Int) else (nv 6 (numW V.data.toList), 0)) = x := by intro x; rw [hx2, hVl]; unfold bitsS; rw [if_neg (by rw [← hE, hE0]; simp)]
              have Hx := Lib.hid hx3
              clear hx2 hx3 hVl hE hE0 hV
              go_enter Tryz.func90, Tryz.ntmps90
              go_wp2_with fail
              refine (hq _).mono ?_
              rintro _ w1 ⟨rfl, hb1⟩
              have Hb1 := Lib.hid hb1
              obtain ⟨⟨q0, q1, q2, q3, q4, q5, q6⟩, qf, qs, hb0⟩ := cells0 hb1
              clear hb1
              go_wp2_with fail
              go_loopw [7] (fun t wr => ∃ (k U : Nat), k ≤ V.size ∧ U ≤ 18446744073709551615 ∧ t = .int .i64 k ∧ Hid (Two w wr w1.heap.size U) ∧ Hid (U = numW (V.data.toList.take k))) (fun t _ => V.size - (intOf t).toNat)
              case atStart => exact ⟨0, 0, by omega, by omega, rfl, Lib.hid (two_new Hb1.out), Lib.hid rfl⟩
              case round =>
                obtain ⟨k, U, hk, hU, rfl, H2, HU⟩ := hrel
                clear q0 q1 q2 q3 q4 q5 q6 qf
                by_cases hlt : k < V.size
                · have hc256 : (V[k].toNat : Int) < 256 := by have := V[k].toNat_lt; omega
                  obtain ⟨P, hP⟩ : ∃ P : Nat, P = 256 * U % 18446744073709551616 := ⟨_, rfl⟩
                  obtain ⟨q, hq⟩ : ∃ q : Nat, q = (P + V[k].toNat) % 18446744073709551616 := ⟨_, rfl⟩
                  have hPl : P ≤ 18446744073709551615 := by omega
                  have hql : q ≤ 18446744073709551615 := by omega
                  have hwp : IntKind.u64.wrap (256 * (U : Int)) = (P : Int) := by rw [IntKind.wrap_u64, hP]; omega
                  have hwq : IntKind.u64.wrap ((P : Int) + V[k].toNat) = (q : Int) := by rw [IntKind.wrap_u64, hq]; omega
                  have HQ : Hid (q = numW (V.data.toList.take (k + 1))) := Lib.hid (by rw [take_snoc hlt, numW_snoc, ← HU.out, hq, hP]; omega)
                  clear hP hq
                  obtain ⟨⟨la, a0, a1, a2, a3, a4, a5, a6⟩, ⟨lb, b0, b1, b2, b3, b4, b5, b6⟩, fa, fb, lt, bel⟩ := H2.out
                  simp only [nv] at b0 b1 b2 b3 b4 b5 b6
                  simp only [zv] at a0 a1 a2 a3 a4 a5 a6
                  go_wp2_with fail
                  go_region
                  go_wp2_with fail
                  refine ⟨⟨k + 1, q, by omega, hql, by go_num, Lib.hid (H2.out.set q), HQ⟩, by simp [intOf]; omega⟩
                · obtain rfl : k = V.size := by omega
                  have hfull : V.data.toList.take V.size = V.data.toList := List.take_length
                  have hx4 := Hx.out
                  have hu := HU.out
                  rw [hfull] at hu
                  rw [← hu] at hx4
                  clear hfull hu
                  obtain ⟨⟨la, a0, a1, a2, a3, a4, a5, a6⟩, ⟨lb, b0, b1, b2, b3, b4, b5, b6⟩, fa, fb, lt, bel⟩ := H2.out
                  simp only [nv] at b0 b1 b2 b3 b4 b5 b6
                  simp only [zv] at a0 a1 a2 a3 a4 a5 a6
                  by_cases hcl : clsN U ≤ 1
                  · have dc : decide (clsN U ≤ 1) = true := by simp [hcl]
                    have hf : doubleS s.data.toList = (zv 0, 2) := by rw [hx4, if_pos hcl]
                    have Hf := Lib.hid hf
                    clear hf hx4 hcl
                    go_wp2_with fail
                    refine (class_any U _).mono ?_
                    rintro _ w2 ⟨rfl, rfl⟩
                    go_wp2_with fail
                    exact bodyPost_ret (v := .tuple #[.agg #[.int .i64 0, .int .u64 0, .string ⟨#[]⟩, .slice none 0 0, .slice none 0 0, .slice none 0 0, .slice none 0 0], .int .i64 2]) (by simp [results, Tryz.results90, go_sem, a0, a1, a2, a3, a4, a5, a6]) rfl ⟨ret_ve (by rw [Hf.out]; rfl) (by rw [Hf.out]), below7 bel (Nat.le_refl _) _ _ _ _ _ _ _⟩
                  · have dc : decide (clsN U ≤ 1) = false := by simp [hcl]
                    have hf : doubleS s.data.toList = (nv 6 U, 0) := by rw [hx4, if_neg hcl]
                    have Hf := Lib.hid hf
                    clear hf hx4 hcl
                    go_wp2_with fail
                    refine (class_any U _).mono ?_
                    rintro _ w2 ⟨rfl, rfl⟩
                    go_wp2_with fail
                    exact bodyPost_ret (v := .tuple #[.agg #[.int .i64 6, .int .u64 U, .string ⟨#[]⟩, .slice none 0 0, .slice none 0 0, .slice none 0 0, .slice none 0 0], .int .i64 0]) (by simp [results, Tryz.results90, go_sem, a0, a1, a2, a3, a4, a5, a6]) rfl ⟨ret_ve (by rw [Hf.out]; rfl) (by rw [Hf.out]), below7 bel (Nat.le_refl _) _ _ _ _ _ _ _⟩
            · have Eb : (E != 0) = true := by rw [bne_iff_ne]; exact hE0
              have hf : doubleS s.data.toList = (zv 0, 2) := by rw [hx2]; unfold bitsS; rw [if_pos (by rw [← hE]; exact hE0)]
              have Hf := Lib.hid hf
              clear hf hx2 hVl hE hE0 hV
              go_enter Tryz.func90, Tryz.ntmps90
              go_wp2_with fail
              refine (hq _).mono ?_
              rintro _ w1 ⟨rfl, hb1⟩
              obtain ⟨⟨q0, q1, q2, q3, q4, q5, q6⟩, qf, qs, hb0⟩ := cells0 hb1
              clear hb1
              go_wp2_with fail
              exact bodyPost_ret (v := .tuple #[.agg #[.int .i64 0, .int .u64 0, .string ⟨#[]⟩, .slice none 0 0, .slice none 0 0, .slice none 0 0, .slice none 0 0], .int .i64 2]) (by simp [results, Tryz.results90, go_sem, q0, q1, q2, q3, q4, q5, q6]) rfl ⟨ret_ve (by rw [Hf.out]; rfl) (by rw [Hf.out]), below7 hb0 (Nat.le_refl _) _ _ _ _ _ _ _⟩
          · have np : ((s.extract 0 2).toList == [48, 120]) = false := by rw [ByteArray.toList_eq, htk, beq_eq_false_iff_ne]; exact hp
            have hf : doubleS s.data.toList = (zv 0, 2) := by rw [hx, if_pos (.inr hp)]
            have Hf := Lib.hid hf
            clear hf hx hz hp htk
            go_enter Tryz.func90, Tryz.ntmps90
            go_wp2_with fail
            exact bodyPost_ret (v := .tuple #[.agg #[.int .i64 0, .int .u64 0, .string ⟨#[]⟩, .slice none 0 0, .slice none 0 0, .slice none 0 0, .slice none 0 0], .int .i64 2]) (by simp [results, Tryz.results90, go_sem]) rfl ⟨ret_ve (by rw [Hf.out]; rfl) (by rw [Hf.out]), below_box _ _⟩
        · have nz : ((s.size : Int) != 18) = true := by rw [bne_iff_ne]; omega
          have hf : doubleS s.data.toList = (zv 0, 2) := by rw [hx, if_pos (.inl hz)]
          have Hf := Lib.hid hf
          clear hf hx hz
          go_enter Tryz.func90, Tryz.ntmps90
          go_wp2_with fail
          exact bodyPost_ret (v := .tuple #[.agg #[.int .i64 0, .int .u64 0, .string ⟨#[]⟩, .slice none 0 0, .slice none 0 0, .slice none 0 0, .slice none 0 0], .int .i64 2]) (by simp [results, Tryz.results90, go_sem]) rfl ⟨ret_ve (by rw [Hf.out]; rfl) (by rw [Hf.out]), below_box _ _⟩
theorem doubleHas : DoubleHas doubleS := fun s hs w => double_any s hs w
theorem parse_any (k : Int) (s : ByteArray) (hs : s.size ≤ 35184372088000) (w : World) : Calls Tryz.prog 64 #[.int .i64 k, .string s] w fun e w' => e = .returned (.tuple #[vv (parseS doubleS k s.data.toList).1, .int .i64 (parseS doubleS k s.data.toList).2]) ∧ Below w.heap.size w w' := parse_of doubleHas k s hs w
end Go.Proofs.YthjpchnogllliaaGreatDoor.ScaX
