/- The walk of the law NoteStays. -/
import Derived.Test.YthjpchnogllliaaDoorNtX
import Derived.Test.YthjpchnogllliaaDoorNtpS
set_option linter.unusedSimpArgs false
set_option linter.unusedVariables false
namespace Go.Proofs.YthjpchnogllliaaDoor.NoteStaysW
open Go.RowKit Nums ScaM ScaV ScaB Val NotM NotK NtrB NtpD NtpS NtZ NtX

theorem known1 (W : World) (x : Mn) : KnN (W.alloc (.cells (fields x).toArray 42)) (.slice (some ⟨W.heap.size, 0, none⟩) 1 1) [x] := by
  refine ⟨_, 1, rfl, Nat.le_refl _, fun j m hm => ⟨_, _, rfl, by simp, ?_⟩⟩
  match j, hm with
  | 0, hm =>
    cases hm
    exact box8 W x _
  | j + 1, hm => simp at hm

set_option maxHeartbeats 4000000 in
set_option maxRecDepth 100000 in
theorem walk (v : Value) (l : List Mn) (x : Mn) (tg : Int) (ytg : -9223372036854775808 ≤ tg ∧ tg ≤ 9223372036854775807) (w : World) (hk : KnN w v l) (hok : l.length ≤ 9223372036854775807 ∧ (∀ m ∈ l, m.ok) ∧ ∃ n, ∀ m ∈ l, Tree w (· < w.heap.size) n m.v) (hx0 : x.ok ∧ ∃ n, Tree w (· < w.heap.size) n x.v) (hL : Ld w) :
    Calls Tryd.prog 6 #[v, nn x, .int .i64 tg] w fun e w' => e = .returned (.bool true) ∧ Below w.heap.size w w' := by
  obtain ⟨hl, ho, htr⟩ := hok
  obtain ⟨hx, nx, hxt⟩ := hx0
  have HTr : Hid (Trs w l) := Lib.hid htr
  have HXt := Lib.hid hxt
  clear htr hxt
  have HbB : Hid (Below w.heap.size w (w.alloc (.cells (fields x).toArray 42))) := Lib.hid ((Below.refl _ _).alloc (Nat.le_refl _) _)
  have Hk := Lib.hid (hk.below HbB.out)
  have HX := Lib.hid (box8 w x 42)
  have Ho := Lib.hid ho
  obtain ⟨a, cap, rfl, _, _⟩ := hk
  clear ho
  unfold nn
  by_cases h40 : 40 < l.length
  · have d1 : decide ((40 : Int) < l.length) = true := decide_eq_true (by omega)
    have d2 : decide (40 < l.length) = true := decide_eq_true h40
    go_enter Tryd.func6, Tryd.ntmps6
    go_wp2_with fail
    refine (awake_any _ (hL.below HbB.out)).mono ?_
    rintro _ wa ⟨rfl, hba⟩
    go_wp2_with fail
    go_ret
    exact ⟨rfl, NtX.bt HbB.out hba⟩
  · have d1 : decide ((40 : Int) < l.length) = false := decide_eq_false (by omega)
    have d2 : decide (40 < l.length) = false := decide_eq_false h40
    obtain ⟨C1, hC1⟩ : ∃ C, checkN (l.map Mn.nt) tg = C := ⟨_, rfl⟩
    have HC1 := Lib.hid hC1
    clear hC1
    go_enter Tryd.func6, Tryd.ntmps6
    go_wp2_with fail
    refine (pcheck _ l tg _ (hL.below HbB.out) Hk.out (by omega) Ho.out).mono ?_
    rintro _ w1 ⟨rfl, hb1⟩
    rw [HC1.out]
    have H1 := Lib.hid (NtX.bt HbB.out hb1)
    have K1 := Lib.hid (Hk.out.below hb1)
    have X1 := HX.out.below hb1 (by simp)
    have hb1c := Lib.hid hb1
    clear hb1
    obtain ⟨x0, x1, x2, x3, x4, x5, x6, x7⟩ := X1
    by_cases hc1 : C1 = 0
    · have e1 : (C1 != 0) = false := by rw [bne_eq_false_iff_eq]; exact hc1
      by_cases h8 : 8 ≤ l.length
      · have g1 : decide ((8 : Int) ≤ l.length) = true := decide_eq_true (by omega)
        have g2 : decide (8 ≤ l.length) = true := decide_eq_true h8
        clear hc1 x0 x1 x2 x3 x4 x5 x6 x7
        go_wp2_with fail
        refine (awake_any _ (hL.below H1.out)).mono ?_
        rintro _ wa ⟨rfl, hba⟩
        go_wp2_with fail
        go_ret
        exact ⟨rfl, NtX.bt H1.out hba⟩
      · have g1 : decide ((8 : Int) ≤ l.length) = false := decide_eq_false (by omega)
        have g2 : decide (8 ≤ l.length) = false := decide_eq_false h8
        obtain ⟨C2, hC2⟩ : ∃ C, checkN ([x].map Mn.nt) tg = C := ⟨_, rfl⟩
        have HC2 := Lib.hid hC2
        have Hc1 := Lib.hid hc1
        have H8 := Lib.hid h8
        have Hs1 := Lib.hid (known1 w1 x)
        have HbC : Hid (Below w1.heap.size w1 (w1.alloc (.cells (fields x).toArray 42))) := Lib.hid ((Below.refl _ _).alloc (Nat.le_refl _) _)
        clear hC2 hc1 h8
        go_wp2_with fail
        refine (pcheck _ [x] tg _ (hL.below (NtX.bt H1.out HbC.out)) Hs1.out (by simp) (by intro m hm; simp at hm; subst hm; exact hx)).mono ?_
        rintro _ w2 ⟨rfl, hb2⟩
        rw [HC2.out]
        have H2 := Lib.hid (NtX.bt (NtX.bt H1.out HbC.out) hb2)
        have K2 := Lib.hid ((K1.out.below HbC.out).below hb2)
        have X2 := ((HX.out.below hb1c.out (by simp)).below HbC.out (by have := hb1c.out.size; simp at this; omega)).below hb2 (by have := hb1c.out.size; simp at this; simp; omega)
        clear hb2 x0 x1 x2 x3 x4 x5 x6 x7
        obtain ⟨x0, x1, x2, x3, x4, x5, x6, x7⟩ := X2
        by_cases hc2 : C2 = 0
        · have e2 : (C2 != 0) = false := by rw [bne_eq_false_iff_eq]; exact hc2
          have hst : checkN ((setG key x l).map Mn.nt) tg = 0 := by
            rw [map_set (key := key) (key2 := Nt.nm) Mn.nt (fun _ => rfl)]
            exact check_set (HC1.out.trans Hc1.out) (by rw [List.length_map]; have := H8.out; omega) (HC2.out.trans hc2)
          have Hst := Lib.hid hst
          clear hc2 hst
          go_wp2_with fail
          refine (pset _ l x _ (hL.below H2.out) K2.out (by omega) Ho.out hx (HTr.out.below H2.out) ⟨nx, tree_below HXt.out H2.out⟩).mono ?_
          rintro _ w3 ⟨v3, M', rfl, k3, hm3, hok3, _, hb3⟩
          have H3 := Lib.hid (NtX.bt H2.out hb3)
          have K3 := Lib.hid k3
          have hlen : M'.length ≤ l.length + 1 := by
            have h1 := set_len (key := key) x l
            have h2 := congrArg List.length hm3
            rw [List.length_map, List.length_map] at h2
            omega
          have Hall := Lib.hid hok3
          have Hm3 := Lib.hid hm3
          clear hb3 k3 hok3 hm3 x0 x1 x2 x3 x4 x5 x6 x7
          go_wp2_with fail
          refine (pcheck _ M' tg _ (hL.below H3.out) K3.out (by omega) Hall.out).mono ?_
          rintro _ w4 ⟨rfl, hb4⟩
          rw [Hm3.out, Hst.out]
          have H4 := Lib.hid (NtX.bt H3.out hb4)
          clear hb4
          go_wp2_with fail
          refine (awake_any _ (hL.below H4.out)).mono ?_
          rintro _ wa ⟨rfl, hba⟩
          go_wp2_with fail
          go_ret
          exact ⟨rfl, NtX.bt H4.out hba⟩
        · have e2 : (C2 != 0) = true := by rw [bne_iff_ne]; exact hc2
          clear hc2 x0 x1 x2 x3 x4 x5 x6 x7
          go_wp2_with fail
          refine (awake_any _ (hL.below H2.out)).mono ?_
          rintro _ wa ⟨rfl, hba⟩
          go_wp2_with fail
          go_ret
          exact ⟨rfl, NtX.bt H2.out hba⟩
    · have e1 : (C1 != 0) = true := by rw [bne_iff_ne]; exact hc1
      clear hc1 x0 x1 x2 x3 x4 x5 x6 x7
      go_wp2_with fail
      refine (awake_any _ (hL.below H1.out)).mono ?_
      rintro _ wa ⟨rfl, hba⟩
      go_wp2_with fail
      go_ret
      exact ⟨rfl, NtX.bt H1.out hba⟩
end Go.Proofs.YthjpchnogllliaaDoor.NoteStaysW
