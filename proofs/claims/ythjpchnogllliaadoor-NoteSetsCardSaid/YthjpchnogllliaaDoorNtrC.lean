/- The reference of stage 8: Check. -/
import Derived.Test.YthjpchnogllliaaDoorNtrB
set_option linter.unusedSimpArgs false
set_option linter.unusedVariables false
namespace Go.Proofs.YthjpchnogllliaaDoor.NtrC
open Go.RowKit Nums ScaM ScaV ScaB Val NotM NotK NtrA NtrB Box

/-- The name before a place. -/
def prevN (l : List Mn) : Nat → Option (List UInt8)
  | 0 => none
  | k + 1 => (l[k]?).map key
theorem chk_drop {tg : Int} {l : List Mn} {k : Nat} {m : Mn} (h : l[k]? = some m) : chk tg (prevN l k) ((l.map Mn.nt).drop k) = if chk1 tg (prevN l k) m.nt ≠ 0 then chk1 tg (prevN l k) m.nt else chk tg (prevN l (k + 1)) ((l.map Mn.nt).drop (k + 1)) := by
  have h1 : (l.map Mn.nt)[k]? = some m.nt := by rw [List.getElem?_map, h]; rfl
  obtain ⟨h2, h3⟩ := List.getElem?_eq_some_iff.1 h1
  rw [List.drop_eq_getElem_cons h2, h3, chk]
  have : prevN l (k + 1) = some m.nt.nm := by
    show (l[k]?).map key = _
    rw [h]; rfl
  rw [this]
set_option maxHeartbeats 4000000 in
set_option maxRecDepth 100000 in
theorem check_any (v : Value) (l : List Mn) (tg : Int) (w : World) (hk : KnN w v l) (hl : l.length ≤ 9223372036854775807) (hok : ∀ m ∈ l, m.v.b ≤ 18446744073709551615) :
    Calls Tryd.prog 11 #[v, .int .i64 tg] w fun e w' => e = .returned (.int .i64 (checkN (l.map Mn.nt) tg)) ∧ Below w.heap.size w w' := by
  obtain ⟨a1, cap1, rfl, hcap1, hcells1⟩ := hk
  have H1 := Lib.hid hcells1
  have Hok := Lib.hid hok
  clear hcells1 hok
  obtain ⟨X, hX⟩ : ∃ X, X = checkN (l.map Mn.nt) tg := ⟨_, rfl⟩
  rw [← hX]
  unfold checkN at hX
  rw [List.length_map] at hX
  by_cases hbig : 8 < l.length
  · have d1 : decide ((8 : Int) < l.length) = true := decide_eq_true (by omega)
    rw [if_pos hbig] at hX
    have HXe := Lib.hid hX
    clear hX
    go_enter Tryd.func11, Tryd.ntmps11
    go_wp2_with fail
    go_ret
    exact ⟨by rw [HXe.out]; rfl, Below.refl _ _⟩
  · have d1 : decide ((8 : Int) < l.length) = false := decide_eq_false (by omega)
    rw [if_neg hbig] at hX
    have HX := Lib.hid hX
    clear hX
    go_enter Tryd.func11, Tryd.ntmps11
    go_wp2_with fail
    go_loopw [5] (fun iv wr => ∃ k : Nat, k ≤ l.length ∧ iv = .int .i64 k ∧ Hid (Below w.heap.size w wr) ∧ Hid (X = chk tg (prevN l k) ((l.map Mn.nt).drop k))) (fun iv _ => l.length - (intOf iv).toNat)
    case atStart => exact ⟨0, by omega, rfl, Lib.hid (Below.refl _ _), Lib.hid (by rw [List.drop_zero]; exact HX.out)⟩
    case round =>
      obtain ⟨k, hk, rfl, HB, Hk⟩ := hrel
      by_cases hlt : k < l.length
      · obtain ⟨m, hm⟩ : ∃ m, l[k]? = some m := ⟨_, List.getElem?_eq_getElem hlt⟩
        obtain ⟨kb, ko, ha, hb0, h8⟩ := H1.out k m hm
        subst ha
        have hmb := Hok.out m (List.mem_of_getElem? hm)
        have g8 := h8.below HB.out hb0
        obtain ⟨c0, c1, c2, c3, c4, c5, c6, c7⟩ := g8
        have g8 := h8.below HB.out hb0
        have hx := Hk.out
        rw [chk_drop hm] at hx
        obtain ⟨K, hK⟩ : ∃ K, kindN m.nm.data.toList = K := ⟨_, rfl⟩
        have HK := Lib.hid hK
        have hc1 : chk1 tg (prevN l k) m.nt = if K = 0 then 8 else if fitsT m.nm.data.toList tg = false then 1 else if rightB m.nt = false then 12 else
            match prevN l k with
            | none => 0
            | some p => if less m.nm.data.toList p = true then 11 else if m.nm.data.toList = p then 9 else 0 := by
          rw [← hK]; rfl
        obtain ⟨Ft, hFt⟩ : ∃ Ft, fitsT m.nm.data.toList tg = Ft := ⟨_, rfl⟩
        have HFt := Lib.hid hFt
        rw [hFt] at hc1
        obtain ⟨Rt, hRt⟩ : ∃ Rt, rightB m.nt = Rt := ⟨_, rfl⟩
        have HR := Lib.hid hRt
        rw [hRt] at hc1
        clear hK hFt hRt h8
        by_cases hK0 : K = 0
        · have e0 : (K == 0) = true := by rw [beq_iff_eq]; exact hK0
          rw [if_pos hK0] at hc1
          rw [hc1, if_pos (by decide)] at hx
          have HXe := Lib.hid hx
          clear hx hc1 hK0 hm g8
          go_wp2_with fail
          refine (kind_any m.nm _).mono ?_
          rintro _ wz ⟨rfl, rfl⟩
          rw [HK.out]
          go_wp2_with fail
          go_ret
          exact ⟨by rw [HXe.out]; rfl, HB.out⟩
        · have e0 : (K == 0) = false := by rw [beq_eq_false_iff_ne]; exact hK0
          rw [if_neg hK0] at hc1
          cases Ft with
          | false =>
            rw [if_pos rfl] at hc1
            rw [hc1, if_pos (by decide)] at hx
            have HXe := Lib.hid hx
            clear hx hc1 hK0 hm g8
            go_wp2_with fail
            refine (kind_any m.nm _).mono ?_
            rintro _ wz ⟨rfl, rfl⟩
            rw [HK.out]
            go_wp2_with fail
            refine (fits_any m.nm tg _).mono ?_
            rintro _ wz ⟨rfl, rfl⟩
            rw [HFt.out]
            go_wp2_with fail
            go_ret
            exact ⟨by rw [HXe.out]; rfl, HB.out⟩
          | true =>
            rw [if_neg (by simp)] at hc1
            cases Rt with
            | false =>
              rw [if_pos rfl] at hc1
              rw [hc1, if_pos (by decide)] at hx
              have HXe := Lib.hid hx
              clear hx hc1 hK0 hm
              go_wp2_with fail
              refine (kind_any m.nm _).mono ?_
              rintro _ wz ⟨rfl, rfl⟩
              rw [HK.out]
              go_wp2_with fail
              refine (fits_any m.nm tg _).mono ?_
              rintro _ wz ⟨rfl, rfl⟩
              rw [HFt.out]
              go_wp2_with fail
              refine (right_any m hmb _).mono ?_
              rintro _ w1 ⟨rfl, hb1c⟩
              rw [HR.out]
              have Hb1 := Lib.hid (HB.out.trans (hb1c.mono HB.out.size))
              have c0' := g8.c0
              replace c0' := (hb1c.cell (p := ⟨kb, ko + k * 8, none⟩) (Nat.lt_of_lt_of_le hb0 HB.out.size)).trans c0'
              clear c0 c1 c2 c3 c4 c5 c6 c7
              go_wp2_with fail
              go_ret
              exact ⟨by rw [HXe.out]; rfl, Hb1.out⟩
            | true =>
              rw [if_neg (by simp)] at hc1
              have Hm := Lib.hid hm
              cases hk0 : decide (0 < k) with
              | false =>
                have hk00 : k = 0 := by have := of_decide_eq_false hk0; omega
                have hp : prevN l k = none := by rw [hk00]; rfl
                rw [hp] at hc1 hx
                simp only at hc1
                rw [hc1, if_neg (by simp)] at hx
                have Hx := Lib.hid hx
                clear hx hc1 hK0 hm hp hk00
                go_wp2_with fail
                refine (kind_any m.nm _).mono ?_
                rintro _ wz ⟨rfl, rfl⟩
                rw [HK.out]
                go_wp2_with fail
                refine (fits_any m.nm tg _).mono ?_
                rintro _ wz ⟨rfl, rfl⟩
                rw [HFt.out]
                go_wp2_with fail
                refine (right_any m hmb _).mono ?_
                rintro _ w1 ⟨rfl, hb1c⟩
                rw [HR.out]
                have Hb1 := Lib.hid (HB.out.trans (hb1c.mono HB.out.size))
                have c0' := g8.c0
                replace c0' := (hb1c.cell (p := ⟨kb, ko + k * 8, none⟩) (Nat.lt_of_lt_of_le hb0 HB.out.size)).trans c0'
                clear c0 c1 c2 c3 c4 c5 c6 c7
                go_wp2_with fail
                go_quiet (fail)
                go_wp2_with fail
                go_quiet (fail)
                go_wp2_with fail
                exact ⟨⟨k + 1, by omega, by go_num, Lib.hid (by first | exact below_q (below_q Hb1.out _) _ | exact below_q Hb1.out _ | exact Hb1.out), Hx⟩, by simp [intOf]; omega⟩
              | true =>
                have hk00 : 1 ≤ k := by have := of_decide_eq_true hk0; omega
                obtain ⟨y, hy⟩ : ∃ y, l[k - 1]? = some y := ⟨_, List.getElem?_eq_getElem (by omega)⟩
                obtain ⟨kb2, ko2, ha2, hb2, y8⟩ := H1.out (k - 1) y hy
                injection ha2 with ha2
                injection ha2 with e1 e2 _
                subst e1 e2
                have hp : prevN l k = some y.nm.data.toList := by
                  obtain ⟨q, rfl⟩ : ∃ q, k = q + 1 := ⟨k - 1, by omega⟩
                  show (l[q]?).map key = _
                  rw [show l[q]? = some y from hy]; rfl
                rw [hp] at hc1 hx
                simp only at hc1
                have y0 := (y8.below HB.out hb0).c0
                have hkm : ((k : Int) - 1).toNat = k - 1 := by omega
                have hk1 : (0 : Int) ≤ (k : Int) - 1 := by omega
                have hk2 : (k : Int) - 1 < l.length := by omega
                cases h11 : less m.nm.data.toList y.nm.data.toList with
                | true =>
                  have t11 : Op.bytesLess m.nm.toList y.nm.toList = true := by rw [ByteArray.toList_eq, ByteArray.toList_eq]; exact h11
                  rw [h11, if_pos rfl] at hc1
                  rw [hc1, if_pos (by decide)] at hx
                  have HXe := Lib.hid hx
                  clear hx hc1 hK0 hm hp h11 y8 hy
                  go_wp2_with fail
                  refine (kind_any m.nm _).mono ?_
                  rintro _ wz ⟨rfl, rfl⟩
                  rw [HK.out]
                  go_wp2_with fail
                  refine (fits_any m.nm tg _).mono ?_
                  rintro _ wz ⟨rfl, rfl⟩
                  rw [HFt.out]
                  go_wp2_with fail
                  refine (right_any m hmb _).mono ?_
                  rintro _ w1 ⟨rfl, hb1c⟩
                  rw [HR.out]
                  have Hb1 := Lib.hid (HB.out.trans (hb1c.mono HB.out.size))
                  have c0' := g8.c0
                  replace c0' := (hb1c.cell (p := ⟨kb, ko + k * 8, none⟩) (Nat.lt_of_lt_of_le hb0 HB.out.size)).trans c0'
                  clear c0 c1 c2 c3 c4 c5 c6 c7
                  replace y0 := (hb1c.cell (p := ⟨kb, ko + (k - 1) * 8, none⟩) (Nat.lt_of_lt_of_le hb0 HB.out.size)).trans y0
                  go_wp2_with fail
                  go_quiet (fail)
                  go_wp2_with fail
                  go_ret
                  exact ⟨by rw [HXe.out]; rfl, below_q Hb1.out _⟩
                | false =>
                  have t11 : Op.bytesLess m.nm.toList y.nm.toList = false := by rw [ByteArray.toList_eq, ByteArray.toList_eq]; exact h11
                  rw [h11, if_neg (by simp)] at hc1
                  cases h9 : decide (m.nm.data.toList = y.nm.data.toList) with
                  | true =>
                    have t9 := str_eq m.nm y.nm h9
                    rw [if_pos (of_decide_eq_true h9)] at hc1
                    rw [hc1, if_pos (by decide)] at hx
                    have HXe := Lib.hid hx
                    clear hx hc1 hK0 hm hp h11 h9 y8 hy
                    go_wp2_with fail
                    refine (kind_any m.nm _).mono ?_
                    rintro _ wz ⟨rfl, rfl⟩
                    rw [HK.out]
                    go_wp2_with fail
                    refine (fits_any m.nm tg _).mono ?_
                    rintro _ wz ⟨rfl, rfl⟩
                    rw [HFt.out]
                    go_wp2_with fail
                    refine (right_any m hmb _).mono ?_
                    rintro _ w1 ⟨rfl, hb1c⟩
                    rw [HR.out]
                    have Hb1 := Lib.hid (HB.out.trans (hb1c.mono HB.out.size))
                    have c0' := g8.c0
                    replace c0' := (hb1c.cell (p := ⟨kb, ko + k * 8, none⟩) (Nat.lt_of_lt_of_le hb0 HB.out.size)).trans c0'
                    clear c0 c1 c2 c3 c4 c5 c6 c7
                    replace y0 := (hb1c.cell (p := ⟨kb, ko + (k - 1) * 8, none⟩) (Nat.lt_of_lt_of_le hb0 HB.out.size)).trans y0
                    go_wp2_with fail
                    go_quiet (fail)
                    go_wp2_with fail
                    go_quiet (fail)
                    go_wp2_with fail
                    go_ret
                    exact ⟨by rw [HXe.out]; rfl, below_q (below_q Hb1.out _) _⟩
                  | false =>
                    have t9 := str_eq m.nm y.nm h9
                    rw [if_neg (of_decide_eq_false h9)] at hc1
                    rw [hc1, if_neg (by simp)] at hx
                    have Hx := Lib.hid hx
                    clear hx hc1 hK0 hm hp h11 h9 y8 hy
                    go_wp2_with fail
                    refine (kind_any m.nm _).mono ?_
                    rintro _ wz ⟨rfl, rfl⟩
                    rw [HK.out]
                    go_wp2_with fail
                    refine (fits_any m.nm tg _).mono ?_
                    rintro _ wz ⟨rfl, rfl⟩
                    rw [HFt.out]
                    go_wp2_with fail
                    refine (right_any m hmb _).mono ?_
                    rintro _ w1 ⟨rfl, hb1c⟩
                    rw [HR.out]
                    have Hb1 := Lib.hid (HB.out.trans (hb1c.mono HB.out.size))
                    have c0' := g8.c0
                    replace c0' := (hb1c.cell (p := ⟨kb, ko + k * 8, none⟩) (Nat.lt_of_lt_of_le hb0 HB.out.size)).trans c0'
                    clear c0 c1 c2 c3 c4 c5 c6 c7
                    replace y0 := (hb1c.cell (p := ⟨kb, ko + (k - 1) * 8, none⟩) (Nat.lt_of_lt_of_le hb0 HB.out.size)).trans y0
                    go_wp2_with fail
                    go_quiet (fail)
                    go_wp2_with fail
                    go_quiet (fail)
                    go_wp2_with fail
                    exact ⟨⟨k + 1, by omega, by go_num, Lib.hid (by first | exact below_q (below_q Hb1.out _) _ | exact below_q Hb1.out _ | exact Hb1.out), Hx⟩, by simp [intOf]; omega⟩
      · obtain rfl : k = l.length := by omega
        have hx := Hk.out
        rw [List.drop_of_length_le (by simp), chk] at hx
        have HXe := Lib.hid hx
        clear hx
        go_wp2_with fail
        go_ret
        exact ⟨by rw [HXe.out]; rfl, HB.out⟩
end Go.Proofs.YthjpchnogllliaaDoor.NtrC
