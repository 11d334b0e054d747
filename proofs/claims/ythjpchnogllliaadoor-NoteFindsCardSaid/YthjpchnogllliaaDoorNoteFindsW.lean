/- The walk of the law NoteFinds. -/
import Derived.Test.YthjpchnogllliaaDoorNtL
import Derived.Test.YthjpchnogllliaaDoorNtpF
set_option linter.unusedSimpArgs false
set_option linter.unusedVariables false
namespace Go.Proofs.YthjpchnogllliaaDoor.NoteFindsW
open Go.RowKit Nums ScaM ScaV ScaB Val NotM NotK NtrB NtpD NtpF NtZ NtX

set_option maxHeartbeats 4000000 in
set_option maxRecDepth 100000 in
theorem walk (va : Value) (la : List Mn) (vb : Value) (lb : List Mn) (s : ByteArray) (z : s.size ≤ 140737488351232) (w : World) (hka : KnN w va la) (hoa : la.length ≤ 9223372036854775807 ∧ (∀ m ∈ la, m.ok) ∧ ∃ n, ∀ m ∈ la, Tree w (· < w.heap.size) n m.v) (hkb : KnN w vb lb) (hob : lb.length ≤ 9223372036854775807 ∧ ∀ m ∈ lb, m.ok) (hL : Ld w) :
    Calls Tryd.prog 4 #[va, vb, .string s] w fun e w' => e = .returned (.bool true) ∧ Below w.heap.size w w' := by
  obtain ⟨hla, ha, htr⟩ := hoa
  have HTr : Hid (Trs w la) := Lib.hid htr
  clear htr
  obtain ⟨hlb, hb⟩ := hob
  have Ka := Lib.hid hka
  have Kb := Lib.hid hkb
  have Ha := Lib.hid ha
  obtain ⟨a1, cap1, rfl, _, _⟩ := hka
  obtain ⟨a2, cap2, rfl, _, _⟩ := hkb
  clear ha hb
  obtain ⟨⟨⟨pk, pb, pt, pa1, pl1, pc1, pa2, pl2, pc2, pa3, pl3, pc3, pa4, pl4, pc4⟩, ok⟩, hP⟩ : ∃ p, findV s.data.toList la = p := ⟨_, rfl⟩
  obtain ⟨fl, hfl⟩ : ∃ f, flagB s.data.toList la = f := ⟨_, rfl⟩
  obtain ⟨sm, hsm⟩ : ∃ f, sameN la lb = f := ⟨_, rfl⟩
  have HP := Lib.hid hP
  have Hfl := Lib.hid hfl
  have Hsm := Lib.hid hsm
  clear hP hfl hsm
  go_enter Tryd.func4, Tryd.ntmps4
  go_wp2_with fail
  refine (pfind _ la s _ hL Ka.out hla HTr.out).mono ?_
  rintro _ w1 ⟨⟨xk, xb, xt, xa1, xl1, xc1, xa2, xl2, xc2, xa3, xl3, xc3, xa4, xl4, xc4⟩, ok1, rfl, hsx, hok1, hb1⟩
  rw [HP.out] at hsx hok1
  simp only at hok1
  subst hok1
  have Hsx := Lib.hid hsx
  clear hsx
  simp only [vv]
  have HbA : Hid (Below w1.heap.size w1 (w1.alloc (.cells #[.int .i64 xk, .int .u64 xb, .string xt, .slice xa1 xl1 xc1, .slice xa2 xl2 xc2, .slice xa3 xl3 xc3, .slice xa4 xl4 xc4] 34))) := Lib.hid ((Below.refl _ _).alloc (Nat.le_refl _) _)
  have H1 := Lib.hid (NtX.bt hb1 HbA.out)
  have BX := Lib.hid (Box.b7_new w1 (.int .i64 xk) (.int .u64 xb) (.string xt) (.slice xa1 xl1 xc1) (.slice xa2 xl2 xc2) (.slice xa3 xl3 xc3) (.slice xa4 xl4 xc4) 34)
  clear hb1
  go_wp2_with fail
  refine (find_any _ la s _ (Ka.out.below H1.out) hla).mono ?_
  rintro _ w2 ⟨rfl, hb2⟩
  rw [HP.out]
  simp only [vv]
  have HbB : Hid (Below w2.heap.size w2 (w2.alloc (.cells #[.int .i64 pk, .int .u64 pb, .string pt, .slice pa1 pl1 pc1, .slice pa2 pl2 pc2, .slice pa3 pl3 pc3, .slice pa4 pl4 pc4] 34))) := Lib.hid ((Below.refl _ _).alloc (Nat.le_refl _) _)
  have H2 := Lib.hid (NtX.bt (NtX.bt H1.out hb2) HbB.out)
  have BX2 := (BX.out.below hb2)
  have ⟨plt, p0, p1, p2, p3, p4, p5, p6, pf⟩ := BX2
  have hlt : w1.heap.size < w2.heap.size := plt
  clear hb2
  have hoo : (ok1 == ok1) = true := beq_self_eq_true _
  go_wp2_with fail
  refine (NtL.samev2 ⟨xk, xb, xt, xa1, xl1, xc1, xa2, xl2, xc2, xa3, xl3, xc3, xa4, xl4, xc4⟩ ⟨pk, pb, pt, pa1, pl1, pc1, pa2, pl2, pc2, pa3, pl3, pc3, pa4, pl4, pc4⟩ Hsx.out _).mono ?_
  rintro _ w3 ⟨rfl, hb3⟩
  have H3 := Lib.hid (NtX.bt H2.out hb3)
  clear hb3 p0 p1 p2 p3 p4 p5 p6 pf BX2
  go_wp2_with fail
  refine (pflag _ la s _ (hL.below H3.out) (Ka.out.below H3.out) hla).mono ?_
  rintro _ w4 ⟨rfl, hb4⟩
  rw [Hfl.out]
  have H4 := Lib.hid (NtX.bt H3.out hb4)
  clear hb4
  go_wp2_with fail
  refine (flag_any _ la s _ (Ka.out.below H4.out) hla).mono ?_
  rintro _ w5 ⟨rfl, hb5⟩
  rw [Hfl.out]
  have H5 := Lib.hid (NtX.bt H4.out hb5)
  have hff : (fl == fl) = true := beq_self_eq_true _
  clear hb5
  go_wp2_with fail
  refine (psame _ _ la lb _ (hL.below H5.out) (Ka.out.below H5.out) (Kb.out.below H5.out) hla hlb).mono ?_
  rintro _ w6 ⟨rfl, hb6⟩
  rw [Hsm.out]
  have H6 := Lib.hid (NtX.bt H5.out hb6)
  clear hb6
  go_wp2_with fail
  refine (same_any _ _ la lb _ (Ka.out.below H6.out) (Kb.out.below H6.out) hla hlb).mono ?_
  rintro _ w7 ⟨rfl, hb7⟩
  rw [Hsm.out]
  have H7 := Lib.hid (NtX.bt H6.out hb7)
  have hss : (sm == sm) = true := beq_self_eq_true _
  clear hb7
  go_wp2_with fail
  refine (psame _ _ la la _ (hL.below H7.out) (Ka.out.below H7.out) (Ka.out.below H7.out) hla hla).mono ?_
  rintro _ w8 ⟨rfl, hb8⟩
  rw [NtL.same_refl]
  have H8 := Lib.hid (NtX.bt H7.out hb8)
  clear hb8
  go_wp2_with fail
  refine (awake_any _ (hL.below H8.out)).mono ?_
  rintro _ wa ⟨rfl, hba⟩
  go_wp2_with fail
  go_ret
  exact ⟨rfl, NtX.bt H8.out hba⟩
end Go.Proofs.YthjpchnogllliaaDoor.NoteFindsW
