import Derived.Test.YthjpchnogllliaaGreatDoorNtpK
import Derived.Test.YthjpchnogllliaaGreatDoorOwnN
import Derived.Test.YthjpchnogllliaaGreatDoorScpC
/- The program of stage 8: Check. -/
set_option linter.unusedSimpArgs false
set_option linter.unusedVariables false
namespace Go.Proofs.YthjpchnogllliaaGreatDoor.NtpE
open Go.RowKit Nums ScaM ScaV ScaB Val NotM NotK NtrA NtrB NtrC Box NtpA NtpB NtpK ScpA

theorem right_fits {n : Nt} (h : kindN n.nm ≠ 0) : rightB n = fitsB (kindN n.nm) n.v := by
  unfold rightB
  have h1 : (kindN n.nm != 0) = true := by rw [bne_iff_ne]; exact h
  rw [h1, Bool.true_and]
  cases hf : fitsB (kindN n.nm) n.v with
  | false => rw [Bool.and_false]
  | true =>
    rw [Bool.and_true]
    unfold fitsB at hf
    simp only [Bool.and_eq_true] at hf
    exact hf.1.1.2
theorem right_no {n : Nt} (h : kindN n.nm = 0) : rightB n = false := by
  unfold rightB
  rw [h]
  rfl

set_option maxHeartbeats 4000000 in
set_option maxRecDepth 100000 in
theorem pcheck (v : Value) (l : List Mn) (tg : Int) (w : World) (hL : Tld.Ld w) (hk : KnN w v l) (hl : l.length ≤ 9223372036854775807) (hok : ∀ m ∈ l, m.ok) :
    Calls Tryz.prog 12 #[v, .int .i64 tg] w fun e w' => e = .returned (.int .i64 (checkN (l.map Mn.nt) tg)) ∧ Below w.heap.size w w' := by
  obtain ⟨a1, cap1, rfl, hcap1, hcells1⟩ := hk
  have H1 := Lib.hid hcells1
  have Hok := Lib.hid hok
  clear hcells1 hok hL
  obtain ⟨X, hX⟩ : ∃ X, X = checkN (l.map Mn.nt) tg := ⟨_, rfl⟩
  rw [← hX]
  unfold checkN at hX
  rw [List.length_map] at hX
  by_cases hbig : 8 < l.length
  · have d1 : decide ((8 : Int) < l.length) = true := decide_eq_true (by omega)
    rw [if_pos hbig] at hX
    have HXe := Lib.hid hX
    clear hX
    go_enter Tryz.func12, Tryz.ntmps12
    go_wp2_with fail
    go_ret
    exact ⟨by rw [HXe.out]; rfl, Below.refl _ _⟩
  · have d1 : decide ((8 : Int) < l.length) = false := decide_eq_false (by omega)
    rw [if_neg hbig] at hX
    have HX := Lib.hid hX
    clear hX
    go_enter Tryz.func12, Tryz.ntmps12
    go_wp2_with fail
    refine (rules_any w).mono ?_
    rintro _ wm ⟨b, rfl, hR0, hbm⟩
    have HR0 := Lib.hid hR0
    have HBm := Lib.hid hbm
    clear hR0 hbm
    go_wp2_with fail
    go_loopw [16, 6, 7, 8, 9] (fun iv _ _ _ _ wr => ∃ k : Nat, k ≤ l.length ∧ iv = .int .i64 k ∧ Hid (Below w.heap.size w wr) ∧ Hid (Rul wr b) ∧ Hid (X = chk tg (prevN l k) ((l.map Mn.nt).drop k))) (fun iv _ _ _ _ _ => l.length - (intOf iv).toNat)
    case atStart => exact ⟨0, by omega, rfl, HBm, HR0, Lib.hid (by rw [List.drop_zero]; exact HX.out)⟩
    case round =>
      obtain ⟨k, hk, rfl, HB, HRu, Hk⟩ := hrel
      clear HR0 HBm HX
      by_cases hlt : k < l.length
      · obtain ⟨m, hm⟩ : ∃ m, l[k]? = some m := ⟨_, List.getElem?_eq_getElem hlt⟩
        obtain ⟨kb, ko, ha, hb0, h8⟩ := H1.out k m hm
        subst ha
        have hmo := Hok.out m (List.mem_of_getElem? hm)
        have HF := Lib.hid fun (K : Int) (W : World) => fits_p K m.v hmo.2.b hmo.2.ts hmo.2.sum W
        have g8 := h8.below HB.out hb0
        obtain ⟨c0, c1, c2, c3, c4, c5, c6, c7⟩ := g8
        have hx := Hk.out
        rw [chk_drop hm] at hx
        have hXb : Below wr.heap.size wr (wr.alloc (.cells #[.string m.nm, .int .i64 m.v.k, .int .u64 m.v.b, .string m.v.t, .slice m.v.a1 m.v.l1 m.v.c1, .slice m.v.a2 m.v.l2 m.v.c2, .slice m.v.a3 m.v.l3 m.v.c3, .slice m.v.a4 m.v.l4 m.v.c4] 44)) := (Below.refl _ _).alloc (Nat.le_refl _) _
        have HXb := Lib.hid hXb
        have hbox := box8 wr m 44
        have HBox := Lib.hid hbox
        have hlook := (HRu.out.below hXb).look hmo.1
        obtain ⟨K, hK⟩ : ∃ K, kindN m.nm.data.toList = K := ⟨_, rfl⟩
        have hc1 : chk1 tg (prevN l k) m.nt = if K = 0 then 8 else if fitsT m.nm.data.toList tg = false then 1 else if rightB m.nt = false then 12 else
            match prevN l k with
            | none => 0
            | some p => if less m.nm.data.toList p = true then 11 else if m.nm.data.toList = p then 9 else 0 := by
          rw [← hK]; rfl
        have Hmo := Lib.hid hmo
        clear h8 hXb hbox hmo
        rcases hlook with ⟨hK0, hl1⟩ | ⟨hK0, tb, ts, hl1, hT, hts, hct⟩
        · replace hl1 := hl1 true
          rw [if_pos rfl] at hl1
          rw [hK] at hK0
          rw [if_pos hK0] at hc1
          rw [hc1, if_pos (by decide)] at hx
          have HXe := Lib.hid hx
          clear hx hc1 hK0 hm hK
          go_wp2_with fail
          go_ret
          exact ⟨by rw [HXe.out]; rfl, HB.out.trans ((HXb.out.alloc HXb.out.size _).mono HB.out.size)⟩
        · replace hl1 := hl1 true
          rw [if_pos rfl] at hl1
          unfold rl at hl1
          have hrf := right_fits (n := m.nt) hK0
          rw [hK] at hK0 hl1
          rw [if_neg hK0, ← hct tg] at hc1
          obtain ⟨Ft, hFt⟩ : ∃ Ft, ts.contains tg = Ft := ⟨_, rfl⟩
          have HFt := Lib.hid hFt
          rw [hFt] at hc1
          obtain ⟨Rt, hRt⟩ : ∃ Rt, fitsB K (sc m.v) = Rt := ⟨_, rfl⟩
          have HR := Lib.hid hRt
          have hrf2 : rightB m.nt = Rt := by rw [hrf, ← hRt, ← hK]; rfl
          rw [hrf2] at hc1
          have HT := Lib.hid hT
          have HBY : Hid (Below wr.heap.size wr ((wr.alloc (.cells #[.string m.nm, .int .i64 m.v.k, .int .u64 m.v.b, .string m.v.t, .slice m.v.a1 m.v.l1 m.v.c1, .slice m.v.a2 m.v.l2 m.v.c2, .slice m.v.a3 m.v.l3 m.v.c3, .slice m.v.a4 m.v.l4 m.v.c4] 44)).alloc (.cells #[.int .i64 K, .slice (some ⟨tb, 0, none⟩) ts.length ts.length] 62))) := Lib.hid (HXb.out.alloc HXb.out.size _)
          clear hFt hRt hT hrf hrf2 hct hK hK0
          cases Ft with
          | false =>
            rw [if_pos rfl] at hc1
            rw [hc1, if_pos (by decide)] at hx
            have HXe := Lib.hid hx
            clear hx hc1 hm
            go_wp2_with fail
            refine (containsI tb ts tg _ (HT.out.alloc _) hts).mono ?_
            rintro _ wz ⟨rfl, rfl⟩
            rw [HFt.out]
            go_wp2_with fail
            go_ret
            exact ⟨by rw [HXe.out]; rfl, HB.out.trans (HBY.out.mono HB.out.size)⟩
          | true =>
            rw [if_neg (by simp)] at hc1
            have hbox1 := HBox.out.below ((Below.refl _ _).alloc (Nat.le_refl _) (.cells #[.int .i64 K, .slice (some ⟨tb, 0, none⟩) ts.length ts.length] 62)) (by simp)
            have HBox1 := Lib.hid hbox1
            clear hbox1
            cases Rt with
            | false =>
              rw [if_pos rfl] at hc1
              rw [hc1, if_pos (by decide)] at hx
              have HXe := Lib.hid hx
              clear hx hc1 hm
              go_wp2_with fail
              refine (containsI tb ts tg _ (HT.out.alloc _) hts).mono ?_
              rintro _ wz ⟨rfl, rfl⟩
              rw [HFt.out]
              go_wp2_with fail
              refine (HF.out K _).mono ?_
              rintro _ w1 ⟨rfl, hb1c⟩
              rw [HR.out]
              have Hb1 := Lib.hid (HB.out.trans ((HBY.out.trans (hb1c.mono HBY.out.size)).mono HB.out.size))
              have HRu1 := Lib.hid ((HRu.out.below HBY.out).below hb1c)
              have b8 := HBox1.out.below hb1c (by simp; omega)
              clear c0 c1 c2 c3 c4 c5 c6 c7
              have x0 := b8.c0
              clear b8
              go_wp2_with fail
              go_ret
              exact ⟨by rw [HXe.out]; rfl, Hb1.out⟩
            | true =>
              rw [if_neg (by simp)] at hc1
              have Hm := Lib.hid hm
              cases hk0 : decide (0 < k) with
              | false =>
                have hk00 : k = 0 := by have := of_decide_eq_false hk0; omega
                have hp : prevN l k = none := by rw [hk00]; rfl
                rw [hp] at hc1 hx
                simp only at hc1
                rw [hc1, if_neg (by simp)] at hx
                have Hx := Lib.hid hx
                clear hx hc1 hm hp hk00
                go_wp2_with fail
                refine (containsI tb ts tg _ (HT.out.alloc _) hts).mono ?_
                rintro _ wz ⟨rfl, rfl⟩
                rw [HFt.out]
                go_wp2_with fail
                refine (HF.out K _).mono ?_
                rintro _ w1 ⟨rfl, hb1c⟩
                rw [HR.out]
                have Hb1 := Lib.hid (HB.out.trans ((HBY.out.trans (hb1c.mono HBY.out.size)).mono HB.out.size))
                have HRu1 := Lib.hid ((HRu.out.below HBY.out).below hb1c)
                have b8 := HBox1.out.below hb1c (by simp; omega)
                clear c0 c1 c2 c3 c4 c5 c6 c7
                have x0 := b8.c0
                clear b8
                go_wp2_with fail
                go_quiet (fail)
                go_wp2_with fail
                go_quiet (fail)
                go_wp2_with fail
                exact ⟨⟨k + 1, by omega, by go_num, Lib.hid (by first | exact below_q (below_q Hb1.out _) _ | exact below_q Hb1.out _ | exact Hb1.out), Lib.hid (by first | exact HRu1.out | exact HRu1.out.below (below_q (below_q (Below.refl _ _) _) _)), Hx⟩, by simp [intOf]; omega⟩
              | true =>
                have hk00 : 1 ≤ k := by have := of_decide_eq_true hk0; omega
                obtain ⟨y, hy⟩ : ∃ y, l[k - 1]? = some y := ⟨_, List.getElem?_eq_getElem (by omega)⟩
                obtain ⟨kb2, ko2, ha2, hb2, y8⟩ := H1.out (k - 1) y hy
                injection ha2 with ha2
                injection ha2 with e1 e2 _
                subst e1 e2
                have hp : prevN l k = some y.nm.data.toList := by
                  obtain ⟨q, rfl⟩ : ∃ q, k = q + 1 := ⟨k - 1, by omega⟩
                  show (l[q]?).map key = _
                  rw [show l[q]? = some y from hy]; rfl
                rw [hp] at hc1 hx
                simp only at hc1
                have Y8 := Lib.hid y8
                have Hb0 := Lib.hid hb0
                have hkm : ((k : Int) - 1).toNat = k - 1 := by omega
                have hk1 : (0 : Int) ≤ (k : Int) - 1 := by omega
                have hk2 : (k : Int) - 1 < l.length := by omega
                clear y8 hb2
                cases h11 : less m.nm.data.toList y.nm.data.toList with
                | true =>
                  have t11 : Op.bytesLess m.nm.toList y.nm.toList = true := by rw [ByteArray.toList_eq, ByteArray.toList_eq]; exact h11
                  rw [h11, if_pos rfl] at hc1
                  rw [hc1, if_pos (by decide)] at hx
                  have HXe := Lib.hid hx
                  clear hx hc1 hm hp h11 hy
                  go_wp2_with fail
                  refine (containsI tb ts tg _ (HT.out.alloc _) hts).mono ?_
                  rintro _ wz ⟨rfl, rfl⟩
                  rw [HFt.out]
                  go_wp2_with fail
                  refine (HF.out K _).mono ?_
                  rintro _ w1 ⟨rfl, hb1c⟩
                  rw [HR.out]
                  have Hb1 := Lib.hid (HB.out.trans ((HBY.out.trans (hb1c.mono HBY.out.size)).mono HB.out.size))
                  have HRu1 := Lib.hid ((HRu.out.below HBY.out).below hb1c)
                  have b8 := HBox1.out.below hb1c (by simp; omega)
                  clear c0 c1 c2 c3 c4 c5 c6 c7
                  have x0 := b8.c0
                  have y0 := (Y8.out.below Hb1.out Hb0.out).c0
                  clear b8
                  go_wp2_with fail
                  go_quiet (fail)
                  go_wp2_with fail
                  go_ret
                  exact ⟨by rw [HXe.out]; rfl, below_q Hb1.out _⟩
                | false =>
                  have t11 : Op.bytesLess m.nm.toList y.nm.toList = false := by rw [ByteArray.toList_eq, ByteArray.toList_eq]; exact h11
                  rw [h11, if_neg (by simp)] at hc1
                  cases h9 : decide (m.nm.data.toList = y.nm.data.toList) with
                  | true =>
                    have t9 := str_eq m.nm y.nm h9
                    rw [if_pos (of_decide_eq_true h9)] at hc1
                    rw [hc1, if_pos (by decide)] at hx
                    have HXe := Lib.hid hx
                    clear hx hc1 hm hp h11 h9 hy
                    go_wp2_with fail
                    refine (containsI tb ts tg _ (HT.out.alloc _) hts).mono ?_
                    rintro _ wz ⟨rfl, rfl⟩
                    rw [HFt.out]
                    go_wp2_with fail
                    refine (HF.out K _).mono ?_
                    rintro _ w1 ⟨rfl, hb1c⟩
                    rw [HR.out]
                    have Hb1 := Lib.hid (HB.out.trans ((HBY.out.trans (hb1c.mono HBY.out.size)).mono HB.out.size))
                    have HRu1 := Lib.hid ((HRu.out.below HBY.out).below hb1c)
                    have b8 := HBox1.out.below hb1c (by simp; omega)
                    clear c0 c1 c2 c3 c4 c5 c6 c7
                    have x0 := b8.c0
                    have y0 := (Y8.out.below Hb1.out Hb0.out).c0
                    clear b8
                    go_wp2_with fail
                    go_quiet (fail)
                    go_wp2_with fail
                    go_quiet (fail)
                    go_wp2_with fail
                    go_ret
                    exact ⟨by rw [HXe.out]; rfl, by first | exact below_q Hb1.out _ | exact below_q (below_q Hb1.out _) _⟩
                  | false =>
                    have t9 := str_eq m.nm y.nm h9
                    rw [if_neg (of_decide_eq_false h9)] at hc1
                    rw [hc1, if_neg (by simp)] at hx
                    have hpn : prevN l (k + 1) = some m.nm.data.toList := by
                      show (l[k]?).map key = _
                      rw [hm]; rfl
                    have Hx := Lib.hid hx
                    clear hx hc1 hm hp h11 h9 hy hpn
                    go_wp2_with fail
                    refine (containsI tb ts tg _ (HT.out.alloc _) hts).mono ?_
                    rintro _ wz ⟨rfl, rfl⟩
                    rw [HFt.out]
                    go_wp2_with fail
                    refine (HF.out K _).mono ?_
                    rintro _ w1 ⟨rfl, hb1c⟩
                    rw [HR.out]
                    have Hb1 := Lib.hid (HB.out.trans ((HBY.out.trans (hb1c.mono HBY.out.size)).mono HB.out.size))
                    have HRu1 := Lib.hid ((HRu.out.below HBY.out).below hb1c)
                    have b8 := HBox1.out.below hb1c (by simp; omega)
                    clear c0 c1 c2 c3 c4 c5 c6 c7
                    have x0 := b8.c0
                    have y0 := (Y8.out.below Hb1.out Hb0.out).c0
                    clear b8
                    go_wp2_with fail
                    go_quiet (fail)
                    go_wp2_with fail
                    go_quiet (fail)
                    go_wp2_with fail
                    exact ⟨⟨k + 1, by omega, by go_num, Lib.hid (by first | exact below_q Hb1.out _ | exact below_q (below_q Hb1.out _) _), Lib.hid (by first | exact HRu1.out | exact HRu1.out.below (below_q (below_q (Below.refl _ _) _) _)), Hx⟩, by simp [intOf]; omega⟩
      · obtain rfl : k = l.length := by omega
        have hx := Hk.out
        rw [List.drop_of_length_le (by simp), chk] at hx
        have Hx := Lib.hid hx
        clear hx
        go_wp2_with fail
        go_ret
        exact ⟨by rw [Hx.out]; rfl, HB.out⟩
end Go.Proofs.YthjpchnogllliaaGreatDoor.NtpE
