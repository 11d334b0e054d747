/- The walk of the law NoteSets. -/
import Derived.Test.YthjpchnogllliaaDoorNtL
import Derived.Test.YthjpchnogllliaaDoorNtpS
import Derived.Test.YthjpchnogllliaaDoorNtpF
import Derived.Test.YthjpchnogllliaaDoorNtrD
set_option linter.unusedSimpArgs false
set_option linter.unusedVariables false
namespace Go.Proofs.YthjpchnogllliaaDoor.NoteSetsW
open Go.RowKit Nums ScaM ScaV ScaB Val NotM NotK NtrB NtpD NtpF NtpS NtZ NtX

set_option maxHeartbeats 4000000 in
set_option maxRecDepth 100000 in
theorem walk (v : Value) (l : List Mn) (x : Mn) (s : ByteArray) (z : s.size ≤ 140737488351232) (w : World) (hk : KnN w v l) (hok : l.length ≤ 9223372036854775807 ∧ (∀ m ∈ l, m.ok) ∧ ∃ n, ∀ m ∈ l, Tree w (· < w.heap.size) n m.v) (hx0 : x.ok ∧ ∃ n, Tree w (· < w.heap.size) n x.v) (hL : Ld w) :
    Calls Tryd.prog 5 #[v, nn x, .string s] w fun e w' => e = .returned (.bool true) ∧ Below w.heap.size w w' := by
  obtain ⟨hl, ho, htr⟩ := hok
  obtain ⟨hx, nx, hxt⟩ := hx0
  have HTr : Hid (Trs w l) := Lib.hid htr
  have HXt := Lib.hid hxt
  clear htr hxt
  have HbB : Hid (Below w.heap.size w (w.alloc (.cells (fields x).toArray 42))) := Lib.hid ((Below.refl _ _).alloc (Nat.le_refl _) _)
  have Hk := Lib.hid (hk.below HbB.out)
  have HX := Lib.hid (box8 w x 42)
  have Ho := Lib.hid ho
  obtain ⟨a, cap, rfl, _, _⟩ := hk
  clear ho
  unfold nn
  by_cases h40 : 40 < l.length
  · have d1 : decide ((40 : Int) < l.length) = true := decide_eq_true (by omega)
    have d2 : decide (40 < l.length) = true := decide_eq_true h40
    go_enter Tryd.func5, Tryd.ntmps5
    go_wp2_with fail
    refine (awake_any _ (hL.below HbB.out)).mono ?_
    rintro _ wa ⟨rfl, hba⟩
    go_wp2_with fail
    go_ret
    exact ⟨rfl, NtX.bt HbB.out hba⟩
  · have d1 : decide ((40 : Int) < l.length) = false := decide_eq_false (by omega)
    have d2 : decide (40 < l.length) = false := decide_eq_false h40
    have hall : ∀ m ∈ setG key x l, m.ok := by
      intro m hm
      rcases mem_set hm with rfl | hm
      · exact hx
      · exact Ho.out m hm
    have Hall := Lib.hid hall
    have hlen := set_len (key := key) x l
    obtain ⟨M, hM⟩ : ∃ M, setG key x l = M := ⟨_, rfl⟩
    have hf1 : findV x.nm.data.toList M = (x.v, true) := by
      unfold findV
      rw [← hM, show x.nm.data.toList = key x from rfl, find_set]
    rw [hM] at hall hlen
    have HM := Lib.hid hM
    have Hf1 := Lib.hid hf1
    have Hall2 := Lib.hid hall
    clear hall hM hf1
    go_enter Tryd.func5, Tryd.ntmps5
    go_wp2_with fail
    refine (pset _ l x _ (hL.below HbB.out) Hk.out (by omega) Ho.out hx (HTr.out.below HbB.out) ⟨nx, tree_below HXt.out HbB.out⟩).mono ?_
    rintro _ w1 ⟨v1, M1, rfl, k1, hm1, hok1, ht1, hb1⟩
    rw [HM.out] at hm1
    have hlen1 : M1.length ≤ l.length + 1 := by
      have h2 := congrArg List.length hm1
      rw [List.length_map, List.length_map] at h2
      omega
    have Hm1 := Lib.hid hm1
    have HT1 := Lib.hid ht1
    clear hm1 hok1 ht1
    have H1 := Lib.hid (NtX.bt HbB.out hb1)
    have K1 := Lib.hid k1
    have L1 := Lib.hid (Hk.out.below hb1)
    have X1 := Lib.hid (HX.out.below hb1 (by simp))
    have hwlt : w.heap.size < w1.heap.size := by have := hb1.size; simp at this; omega
    clear hb1 k1
    obtain ⟨x0, x1, x2, x3, x4, x5, x6, x7⟩ := X1.out
    go_wp2_with fail
    refine (pfind _ M1 x.nm _ (hL.below H1.out) K1.out (by omega) HT1.out).mono ?_
    rintro _ w2 ⟨⟨xk, xb, xt, xa1, xl1, xc1, xa2, xl2, xc2, xa3, xl3, xc3, xa4, xl4, xc4⟩, ok1, rfl, hsx, hok1, hb2⟩
    have hfe : (sc (findV x.nm.data.toList M1).1, (findV x.nm.data.toList M1).2) = (sc x.v, true) := by
      rw [NtL.find_nt, Hm1.out, ← NtL.find_nt, Hf1.out]
    injection hfe with hfe1 hfe2
    rw [hfe1] at hsx
    rw [hfe2] at hok1
    subst hok1
    have Hsx := Lib.hid hsx
    have HT2 := Lib.hid (HT1.out.below hb2)
    clear hsx hfe1 hfe2
    simp only [vv]
    have HbC : Hid (Below w2.heap.size w2 (w2.alloc (.cells #[.int .i64 xk, .int .u64 xb, .string xt, .slice xa1 xl1 xc1, .slice xa2 xl2 xc2, .slice xa3 xl3 xc3, .slice xa4 xl4 xc4] 34))) := Lib.hid ((Below.refl _ _).alloc (Nat.le_refl _) _)
    have H2 := Lib.hid (NtX.bt (NtX.bt H1.out hb2) HbC.out)
    have K2 := Lib.hid ((K1.out.below hb2).below HbC.out)
    have L2 := Lib.hid ((L1.out.below hb2).below HbC.out)
    have X2 := Lib.hid ((X1.out.below hb2 hwlt).below HbC.out (by have := hb2.size; omega))
    have BX := Lib.hid (Box.b7_new w2 (.int .i64 xk) (.int .u64 xb) (.string xt) (.slice xa1 xl1 xc1) (.slice xa2 xl2 xc2) (.slice xa3 xl3 xc3) (.slice xa4 xl4 xc4) 34)
    have hwlt2 : w.heap.size < w2.heap.size := by have := hb2.size; omega
    have X2' := X1.out.below hb2 hwlt
    clear hb2 x0 x1 x2 x3 x4 x5 x6 x7
    obtain ⟨x0, x1, x2, x3, x4, x5, x6, x7⟩ := X2'
    go_wp2_with fail
    refine (NtrD.set_any _ l x _ L2.out (by omega)).mono ?_
    rintro _ w3 ⟨v3, rfl, k3, hb3⟩
    rw [HM.out] at k3
    have H3 := Lib.hid (NtX.bt H2.out hb3)
    have HT3 := Lib.hid ((HT2.out.below HbC.out).below hb3)
    have K3 := Lib.hid (K2.out.below hb3)
    have L3 := Lib.hid (L2.out.below hb3)
    have X3 := Lib.hid (X2.out.below hb3 (by simp; omega))
    have B3 := Lib.hid (BX.out.below hb3)
    have Q3 := Lib.hid k3
    have hwlt3 : w.heap.size < w3.heap.size := by have := hb3.size; simp at this; omega
    clear hb3 k3 x0 x1 x2 x3 x4 x5 x6 x7
    go_wp2_with fail
    refine (same_any v1 v3 M1 M _ K3.out Q3.out (by omega) (by omega)).mono ?_
    rintro _ w4 ⟨rfl, hb4⟩
    rw [NtL.same_nt Hm1.out]
    have H4 := Lib.hid (NtX.bt H3.out hb4)
    have HT4 := Lib.hid (HT3.out.below hb4)
    have K4 := Lib.hid (K3.out.below hb4)
    have L4 := Lib.hid (L3.out.below hb4)
    have X4 := Lib.hid (X3.out.below hb4 hwlt3)
    have hwlt4 : w.heap.size < w4.heap.size := by have := hb4.size; omega
    have B4' := B3.out.below hb4
    have ⟨plt, p0, p1, p2, p3, p4, p5, p6, pf⟩ := B4'
    obtain ⟨x0, x1, x2, x3, x4, x5, x6, x7⟩ := X4.out
    clear hb4
    go_wp2_with fail
    refine (NtL.samev2 ⟨xk, xb, xt, xa1, xl1, xc1, xa2, xl2, xc2, xa3, xl3, xc3, xa4, xl4, xc4⟩ x.v Hsx.out _).mono ?_
    rintro _ w5 ⟨rfl, hb5⟩
    have H5 := Lib.hid (NtX.bt H4.out hb5)
    have HTM5 := Lib.hid (HT4.out.below hb5)
    have K5 := Lib.hid (K4.out.below hb5)
    have L5 := Lib.hid (L4.out.below hb5)
    have X5 := X4.out.below hb5 hwlt4
    clear hb5 p0 p1 p2 p3 p4 p5 p6 pf x0 x1 x2 x3 x4 x5 x6 x7 B4' plt
    obtain ⟨x0, x1, x2, x3, x4, x5, x6, x7⟩ := X5
    cases hne : decide (s.data.toList = x.nm.data.toList) with
    | true =>
      have e1 : (s.toList != x.nm.toList) = false := NtrB.str_ne s x.nm hne
      have e1b : (s.toList == x.nm.toList) = true := NtrB.str_eq s x.nm hne
      clear hne
      go_wp2_with fail
      refine (awake_any _ (hL.below H5.out)).mono ?_
      rintro _ wa ⟨rfl, hba⟩
      go_wp2_with fail
      go_ret
      exact ⟨rfl, NtX.bt H5.out hba⟩
    | false =>
      have e1 : (s.toList != x.nm.toList) = true := NtrB.str_ne s x.nm hne
      have e1b : (s.toList == x.nm.toList) = false := NtrB.str_eq s x.nm hne
      have hf2 : findV s.data.toList M = findV s.data.toList l := by
        unfold findV
        rw [← HM.out, find_set_other (show s.data.toList ≠ key x from of_decide_eq_false hne)]
      have Hf2 := Lib.hid hf2
      obtain ⟨⟨fv, ok⟩, hP⟩ : ∃ p, findV s.data.toList l = p := ⟨_, rfl⟩
      have HP := Lib.hid hP
      clear hne hf2 hP
      go_wp2_with fail
      have HT5 := Lib.hid (HTr.out.below H5.out)
      refine (pfind _ M1 s _ (hL.below H5.out) K5.out (by omega) HTM5.out).mono ?_
      rintro _ w6 ⟨⟨pk, pb, pt, pa1, pl1, pc1, pa2, pl2, pc2, pa3, pl3, pc3, pa4, pl4, pc4⟩, okp, rfl, hsp, hokp, hb6⟩
      have hfe : (sc (findV s.data.toList M1).1, (findV s.data.toList M1).2) = (sc fv, ok) := by
        rw [NtL.find_nt, Hm1.out, ← NtL.find_nt, Hf2.out, HP.out]
      injection hfe with hfe1 hfe2
      rw [hfe1] at hsp
      rw [hfe2] at hokp
      subst hokp
      have Hsp := Lib.hid hsp
      clear hsp hfe1 hfe2
      simp only [vv]
      have HbD : Hid (Below w6.heap.size w6 (w6.alloc (.cells #[.int .i64 pk, .int .u64 pb, .string pt, .slice pa1 pl1 pc1, .slice pa2 pl2 pc2, .slice pa3 pl3 pc3, .slice pa4 pl4 pc4] 34))) := Lib.hid ((Below.refl _ _).alloc (Nat.le_refl _) _)
      have H6 := Lib.hid (NtX.bt (NtX.bt H5.out hb6) HbD.out)
      have L6 := Lib.hid ((L5.out.below hb6).below HbD.out)
      have BY := Lib.hid (Box.b7_new w6 (.int .i64 pk) (.int .u64 pb) (.string pt) (.slice pa1 pl1 pc1) (.slice pa2 pl2 pc2) (.slice pa3 pl3 pc3) (.slice pa4 pl4 pc4) 34)
      clear hb6 x0 x1 x2 x3 x4 x5 x6 x7
      go_wp2_with fail
      refine (pfind _ l s _ (hL.below H6.out) L6.out (by omega) (HTr.out.below H6.out)).mono ?_
      rintro _ w7 ⟨⟨qk, qb, qt, qa1, ql1, qc1, qa2, ql2, qc2, qa3, ql3, qc3, qa4, ql4, qc4⟩, okq, rfl, hsq, hokq, hb7⟩
      rw [HP.out] at hsq hokq
      simp only at hokq
      subst hokq
      have Hsq := Lib.hid hsq
      clear hsq
      simp only [vv]
      have HbE : Hid (Below w7.heap.size w7 (w7.alloc (.cells #[.int .i64 qk, .int .u64 qb, .string qt, .slice qa1 ql1 qc1, .slice qa2 ql2 qc2, .slice qa3 ql3 qc3, .slice qa4 ql4 qc4] 34))) := Lib.hid ((Below.refl _ _).alloc (Nat.le_refl _) _)
      have H7 := Lib.hid (NtX.bt (NtX.bt H6.out hb7) HbE.out)
      have BY2 := BY.out.below hb7
      have ⟨plt, p0, p1, p2, p3, p4, p5, p6, pf⟩ := BY2
      have hlt67 : w6.heap.size < w7.heap.size := plt
      have hoo : (okq != okq) = false := by simp
      clear hb7
      go_wp2_with fail
      refine (NtL.samev2 ⟨pk, pb, pt, pa1, pl1, pc1, pa2, pl2, pc2, pa3, pl3, pc3, pa4, pl4, pc4⟩ ⟨qk, qb, qt, qa1, ql1, qc1, qa2, ql2, qc2, qa3, ql3, qc3, qa4, ql4, qc4⟩ (Hsp.out.trans Hsq.out.symm) _).mono ?_
      rintro _ w8 ⟨rfl, hb8⟩
      have H8 := Lib.hid (NtX.bt H7.out hb8)
      clear hb8 p0 p1 p2 p3 p4 p5 p6 pf BY2
      go_wp2_with fail
      refine (awake_any _ (hL.below H8.out)).mono ?_
      rintro _ wa ⟨rfl, hba⟩
      go_wp2_with fail
      go_ret
      exact ⟨rfl, NtX.bt H8.out hba⟩
end Go.Proofs.YthjpchnogllliaaDoor.NoteSetsW
