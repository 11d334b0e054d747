import Derived.Test.YthjpchnogllliaaGreatDoorNtpK
import Derived.Test.YthjpchnogllliaaGreatDoorOwnN
import Derived.Test.YthjpchnogllliaaGreatDoorNotR
import Derived.Test.YthjpchnogllliaaGreatDoorTkrG
import Derived.Test.YthjpchnogllliaaGreatDoorPrsQ
import Derived.Test.YthjpchnogllliaaGreatDoorTxtP
import Derived.Test.YthjpchnogllliaaGreatDoorScpC
import Derived.Test.YthjpchnogllliaaGreatDoorTld
/- The program of stage 8, reading: the token at a place, signs. -/
set_option linter.unusedSimpArgs false
set_option linter.unusedVariables false
namespace Go.Proofs.YthjpchnogllliaaGreatDoor.NtpQ
open Go.RowKit Nums ScaM ScaV ScaB Val NotM NotR NotK NtrB TkrF Box4

/-- No token. -/
def tk0 : Mt := ⟨0, ⟨#[]⟩, 0, 0⟩
/-- The token at a place. -/
def atT (l : List Mt) (z : Int) : Mt := if 0 ≤ z then (l[z.toNat]?).getD tk0 else tk0
def tt (m : Mt) : Value := .agg #[.int .i64 m.kd, .string m.t, .int .i64 m.nu, .int .i64 m.ln]
theorem at_ok {l : List Mt} (h : ∀ m ∈ l, m.ok) (z : Int) : (atT l z).ok := by
  have h0 : tk0.ok := ⟨by decide, by decide, by decide, by decide⟩
  unfold atT
  split
  · cases e : l[z.toNat]? with
    | none => exact h0
    | some m => exact h m (List.mem_of_getElem? e)
  · exact h0
theorem at_sg (l : List Mt) (z : Int) (b : UInt8) : isSg (atT l z).tok b = sgAt (l.map Mt.tok) z b := by
  have h0 : isSg tk0.tok b = false := rfl
  unfold atT sgAt
  by_cases hz : 0 ≤ z
  · rw [if_pos hz, decide_eq_true hz, Bool.true_and, List.getElem?_map]
    cases e : l[z.toNat]? with
    | none => exact h0
    | some m => rfl
  · rw [if_neg hz, decide_eq_false hz, Bool.false_and]
    exact h0
theorem below4s {B : Nat} {a w : World} (h : Below B a w) {g : Nat} (hg : B ≤ g) (v0 v1 v2 v3 : Value) : Below B a ((((w.setCell ⟨g, 0, none⟩ v0).setCell ⟨g, 1, none⟩ v1).setCell ⟨g, 2, none⟩ v2).setCell ⟨g, 3, none⟩ v3) :=
  (((h.setCell (p := ⟨g, 0, none⟩) hg _).setCell (p := ⟨g, 1, none⟩) hg _).setCell (p := ⟨g, 2, none⟩) hg _).setCell (p := ⟨g, 3, none⟩) hg _

set_option maxHeartbeats 4000000 in
set_option maxRecDepth 100000 in
theorem tokenAt_p (v : Value) (l : List Mt) (z : Int) (w : World) (hk : KnT w v l) (hl : l.length ≤ 100000) (hz : -9223372036854775808 ≤ z ∧ z ≤ 9223372036854775807) :
    Calls Tryz.prog 15 #[v, .int .i64 z] w fun e w' => e = .returned (tt (atT l z)) ∧ Below w.heap.size w w' := by
  have hb0 : Below w.heap.size w (w.alloc (.cells #[.int .i64 0, .string ⟨#[]⟩, .int .i64 0, .int .i64 0] 34)) := (Below.refl _ _).alloc (Nat.le_refl _) _
  have HB0 := Lib.hid hb0
  obtain ⟨a1, cap1, rfl, hcap1, hcells1⟩ := hk
  have H1 := Lib.hid hcells1
  clear hcells1 hb0
  unfold atT
  by_cases h0 : z < 0
  · have d0 : decide (z < 0) = true := decide_eq_true h0
    rw [if_neg (by omega)]
    unfold tt tk0
    go_enter Tryz.func15, Tryz.ntmps15
    go_wp2_with fail
    exact bodyPost_ret (v := .agg #[.int .i64 0, .string ⟨#[]⟩, .int .i64 0, .int .i64 0]) (by simp [results, Tryz.results15, go_sem]) rfl ⟨rfl, HB0.out⟩
  · have d0 : decide (z < 0) = false := decide_eq_false h0
    rw [if_pos (by omega)]
    obtain ⟨k, rfl⟩ : ∃ k : Nat, z = k := ⟨z.toNat, by omega⟩
    rw [Int.toNat_natCast]
    by_cases hlt : k < l.length
    · have d1 : decide ((l.length : Int) ≤ (k : Int)) = false := decide_eq_false (by omega)
      have d2 : decide (l.length ≤ k) = false := decide_eq_false (by omega)
      obtain ⟨m, hm⟩ : ∃ m, l[k]? = some m := ⟨_, List.getElem?_eq_getElem hlt⟩
      rw [hm]
      obtain ⟨kb, ko, rfl, hb1, c0, c1, c2, c3⟩ := H1.out k m hm
      have cc : ∀ q, (w.alloc (.cells #[.int .i64 0, .string ⟨#[]⟩, .int .i64 0, .int .i64 0] 34)).cell? ⟨kb, q, none⟩ = w.cell? ⟨kb, q, none⟩ := fun q => HB0.out.cell (p := ⟨kb, q, none⟩) hb1
      replace c0 := (cc _).trans c0
      replace c1 := (cc _).trans c1
      replace c2 := (cc _).trans c2
      replace c3 := (cc _).trans c3
      have hne : (kb == w.heap.size) = false := by rw [beq_eq_false_iff_ne]; omega
      clear cc hm
      unfold tt
      go_enter Tryz.func15, Tryz.ntmps15
      go_wp2_with fail
      exact bodyPost_ret (v := .agg #[.int .i64 m.kd, .string m.t, .int .i64 m.nu, .int .i64 m.ln]) (by simp [results, Tryz.results15, go_sem]) rfl ⟨rfl, (Below.refl _ _).alloc (Nat.le_refl _) _⟩
    · have d1 : decide ((l.length : Int) ≤ (k : Int)) = true := decide_eq_true (by omega)
      have d2 : decide (l.length ≤ k) = true := decide_eq_true (by omega)
      rw [List.getElem?_eq_none (by omega)]
      show Calls _ _ _ _ fun e w' => e = .returned (tt tk0) ∧ _
      unfold tt tk0
      go_enter Tryz.func15, Tryz.ntmps15
      go_wp2_with fail
      exact bodyPost_ret (v := .agg #[.int .i64 0, .string ⟨#[]⟩, .int .i64 0, .int .i64 0]) (by simp [results, Tryz.results15, go_sem]) rfl ⟨rfl, HB0.out⟩

set_option maxHeartbeats 4000000 in
set_option maxRecDepth 100000 in
theorem isSign_p (m : Mt) (s : ByteArray) (c : UInt8) (hs : s.data.toList = [c]) (w : World) :
    Calls Tryz.prog 14 #[tt m, .string s] w fun e w' => e = .returned (.bool (isSg m.tok c)) ∧ Below w.heap.size w w' := by
  obtain ⟨B, hB⟩ : ∃ B, B = isSg m.tok c := ⟨_, rfl⟩
  rw [← hB]
  unfold tt
  have hd : isSg m.tok c = ((m.kd == 4) && (m.t.toList == s.toList)) := by
    unfold isSg
    rw [ByteArray.toList_eq, ByteArray.toList_eq, hs]
    rfl
  rw [hd] at hB
  cases e1 : (m.kd == 4) with
  | false =>
    rw [e1, Bool.false_and] at hB
    have HB := Lib.hid hB
    clear hB hd
    go_enter Tryz.func14, Tryz.ntmps14
    go_wp2_with fail
    go_ret
    exact ⟨by rw [HB.out]; rfl, (Below.refl _ _).alloc (Nat.le_refl _) _⟩
  | true =>
    rw [e1, Bool.true_and] at hB
    have HB := Lib.hid hB
    clear hB hd
    go_enter Tryz.func14, Tryz.ntmps14
    go_wp2_with fail
    go_ret
    exact ⟨by rw [HB.out]; rfl, (Below.refl _ _).alloc (Nat.le_refl _) _⟩
end Go.Proofs.YthjpchnogllliaaGreatDoor.NtpQ

/- The program of stage 8, reading: the value that a token holds. -/
set_option linter.unusedSimpArgs false
set_option linter.unusedVariables false
namespace Go.Proofs.YthjpchnogllliaaGreatDoor.NtpR
open Go.RowKit Nums ScaM ScaV ScaB Val NotM NotR NotK NtrB TkrF Box NtpQ

/-- What boolOf gives. -/
def boV (m : Mt) : SV × Int := if m.kd = 1 then ScpD.finB 1 (PrsP.pbP m.t.data.toList) else (zv 0, 2)
set_option maxHeartbeats 4000000 in
set_option maxRecDepth 100000 in
theorem boolOf_p (m : Mt) (w : World) (hL : Tld.Ld w) :
    Calls Tryz.prog 61 #[tt m] w fun e w' => e = .returned (.tuple #[vv (boV m).1, .int .i64 (boV m).2]) ∧ Below w.heap.size w w' := by
  obtain ⟨⟨⟨xk, xb, xt, xa1, xl1, xc1, xa2, xl2, xc2, xa3, xl3, xc3, xa4, xl4, xc4⟩, er⟩, hB⟩ : ∃ B, B = boV m := ⟨_, rfl⟩
  rw [← hB]
  unfold tt
  simp only [vv]
  have hb0 : Below w.heap.size w ((w.alloc (.cells #[.int .i64 m.kd, .string m.t, .int .i64 m.nu, .int .i64 m.ln] 34)).alloc (.cells #[.int .i64 0, .int .u64 0, .string ⟨#[]⟩, .slice none 0 0, .slice none 0 0, .slice none 0 0, .slice none 0 0] 42)) := ((Below.refl _ _).alloc (Nat.le_refl _) _).alloc (by simp) _
  have HB0 := Lib.hid hb0
  have HP := Lib.hid (PrsP.parse_1b m.t _ (hL.v.below hb0))
  have BR0 := Lib.hid (b7_new (w.alloc (.cells #[.int .i64 m.kd, .string m.t, .int .i64 m.nu, .int .i64 m.ln] 34)) (.int .i64 0) (.int .u64 0) (.string ⟨#[]⟩) (.slice none 0 0) (.slice none 0 0) (.slice none 0 0) (.slice none 0 0) 42)
  rw [World.size_alloc] at BR0
  unfold boV at hB
  clear hb0 hL
  by_cases hk : m.kd = 1
  · have e1 : (m.kd != 1) = false := by rw [bne_eq_false_iff_eq]; exact hk
    rw [if_pos hk] at hB
    rw [← hB] at HP
    simp only [vv] at HP
    clear hB hk
    go_enter Tryz.func61, Tryz.ntmps61
    go_wp2_with fail
    refine (HP.out).mono ?_
    rintro _ w1 ⟨rfl, hb⟩
    have B1 := BR0.out.below hb
    have hw1 : w.heap.size ≤ w.heap.size + 1 := Nat.le_succ _
    have HB1 := Lib.hid (HB0.out.trans (hb.mono (by simp; omega)))
    have ⟨_, p0, p1, p2, p3, p4, p5, p6, pf⟩ := B1
    clear hb HP
    go_wp2_with fail
    have BF := (((((((B1.set0 (.int .i64 xk)).set1 (.int .u64 xb)).set2 (.string xt)).set3 (.slice xa1 xl1 xc1)).set4 (.slice xa2 xl2 xc2)).set5 (.slice xa3 xl3 xc3)).set6 (.slice xa4 xl4 xc4))
    obtain ⟨_, q0, q1, q2, q3, q4, q5, q6, _⟩ := BF
    exact bodyPost_ret (v := .tuple #[.agg #[.int .i64 xk, .int .u64 xb, .string xt, .slice xa1 xl1 xc1, .slice xa2 xl2 xc2, .slice xa3 xl3 xc3, .slice xa4 xl4 xc4], .int .i64 er]) (by simp [results, Tryz.results61, go_sem, q0, q1, q2, q3, q4, q5, q6]) rfl ⟨rfl, below7s HB1.out hw1 _ _ _ _ _ _ _⟩
  · have e1 : (m.kd != 1) = true := by rw [bne_iff_ne]; exact hk
    rw [if_neg hk] at hB
    simp only [zv, Prod.mk.injEq, SV.mk.injEq] at hB
    obtain ⟨⟨rfl, rfl, rfl, rfl, rfl, rfl, rfl, rfl, rfl, rfl, rfl, rfl, rfl, rfl, rfl⟩, rfl⟩ := hB
    clear hk HP BR0
    go_enter Tryz.func61, Tryz.ntmps61
    go_wp2_with fail
    exact bodyPost_ret (v := .tuple #[.agg #[.int .i64 0, .int .u64 0, .string ⟨#[]⟩, .slice none 0 0, .slice none 0 0, .slice none 0 0, .slice none 0 0], .int .i64 2]) (by simp [results, Tryz.results61, go_sem]) rfl ⟨rfl, HB0.out⟩
/-- What textOf gives. -/
def txV (m : Mt) : SV × Int := if m.kd ≠ 3 then (zv 0, 2) else if 4096 < m.t.size then (zv 0, 3) else if fitsB 7 (sc ⟨7, 0, m.t, none, 0, 0, none, 0, 0, none, 0, 0, none, 0, 0⟩) = true then (⟨7, 0, m.t, none, 0, 0, none, 0, 0, none, 0, 0, none, 0, 0⟩, 0) else (zv 0, 7)
set_option maxHeartbeats 4000000 in
set_option maxRecDepth 100000 in
theorem textOf_p (m : Mt) (hm : m.ok) (w : World) (hL : Tld.Ld w) :
    Calls Tryz.prog 62 #[tt m] w fun e w' => e = .returned (.tuple #[vv (txV m).1, .int .i64 (txV m).2]) ∧ Below w.heap.size w w' := by
  have HF := Lib.hid fun (W : World) => ScpA.fits_p 7 ⟨7, 0, m.t, none, 0, 0, none, 0, 0, none, 0, 0, none, 0, 0⟩ (Nat.zero_le _) (by have := hm.1; show m.t.size ≤ _; omega) (by show 0 + 0 + 0 + 0 ≤ _; omega) W
  obtain ⟨⟨⟨xk, xb, xt, xa1, xl1, xc1, xa2, xl2, xc2, xa3, xl3, xc3, xa4, xl4, xc4⟩, er⟩, hB⟩ : ∃ B, B = txV m := ⟨_, rfl⟩
  rw [← hB]
  unfold tt
  simp only [vv]
  have hb0 : Below w.heap.size w (((w.alloc (.cells #[.int .i64 m.kd, .string m.t, .int .i64 m.nu, .int .i64 m.ln] 34)).alloc (.cells #[.int .i64 0, .int .u64 0, .string ⟨#[]⟩, .slice none 0 0, .slice none 0 0, .slice none 0 0, .slice none 0 0] 42)).alloc (.cells #[.int .i64 7, .int .u64 0, .string m.t, .slice none 0 0, .slice none 0 0, .slice none 0 0, .slice none 0 0] 42)) := (((Below.refl _ _).alloc (Nat.le_refl _) _).alloc (by simp) _).alloc (by simp; omega) _
  have HB0 := Lib.hid hb0
  have BR0 := Lib.hid ((b7_new (w.alloc (.cells #[.int .i64 m.kd, .string m.t, .int .i64 m.nu, .int .i64 m.ln] 34)) (.int .i64 0) (.int .u64 0) (.string ⟨#[]⟩) (.slice none 0 0) (.slice none 0 0) (.slice none 0 0) (.slice none 0 0) 42).alloc (.cells #[.int .i64 7, .int .u64 0, .string m.t, .slice none 0 0, .slice none 0 0, .slice none 0 0, .slice none 0 0] 42))
  have BX0 := Lib.hid (b7_new ((w.alloc (.cells #[.int .i64 m.kd, .string m.t, .int .i64 m.nu, .int .i64 m.ln] 34)).alloc (.cells #[.int .i64 0, .int .u64 0, .string ⟨#[]⟩, .slice none 0 0, .slice none 0 0, .slice none 0 0, .slice none 0 0] 42)) (.int .i64 7) (.int .u64 0) (.string m.t) (.slice none 0 0) (.slice none 0 0) (.slice none 0 0) (.slice none 0 0) 42)
  rw [World.size_alloc] at BR0
  rw [World.size_alloc, World.size_alloc] at BX0
  unfold txV at hB
  clear hb0 hL
  by_cases hk : m.kd = 3
  · have e1 : (m.kd != 3) = false := by rw [bne_eq_false_iff_eq]; exact hk
    rw [if_neg (not_not_intro hk)] at hB
    by_cases hs : 4096 < m.t.size
    · have e2 : decide ((4096 : Int) < (m.t.size : Int)) = true := decide_eq_true (by omega)
      have e3 : decide (4096 < m.t.size) = true := decide_eq_true hs
      rw [if_pos hs] at hB
      simp only [zv, Prod.mk.injEq, SV.mk.injEq] at hB
      obtain ⟨⟨rfl, rfl, rfl, rfl, rfl, rfl, rfl, rfl, rfl, rfl, rfl, rfl, rfl, rfl, rfl⟩, rfl⟩ := hB
      clear hk hs
      go_enter Tryz.func62, Tryz.ntmps62
      go_wp2_with fail
      exact bodyPost_ret (v := .tuple #[.agg #[.int .i64 0, .int .u64 0, .string ⟨#[]⟩, .slice none 0 0, .slice none 0 0, .slice none 0 0, .slice none 0 0], .int .i64 3]) (by simp [results, Tryz.results62, go_sem]) rfl ⟨rfl, HB0.out⟩
    · have e2 : decide ((4096 : Int) < (m.t.size : Int)) = false := decide_eq_false (by omega)
      have e3 : decide (4096 < m.t.size) = false := decide_eq_false hs
      rw [if_neg hs] at hB
      obtain ⟨Rt, hRt⟩ : ∃ Rt, fitsB 7 (sc ⟨7, 0, m.t, none, 0, 0, none, 0, 0, none, 0, 0, none, 0, 0⟩) = Rt := ⟨_, rfl⟩
      have HR := Lib.hid hRt
      rw [hRt] at hB
      clear hk hs hRt
      cases Rt with
      | true =>
        rw [if_pos rfl] at hB
        simp only [Prod.mk.injEq, SV.mk.injEq] at hB
        obtain ⟨⟨rfl, rfl, rfl, rfl, rfl, rfl, rfl, rfl, rfl, rfl, rfl, rfl, rfl, rfl, rfl⟩, rfl⟩ := hB
        go_enter Tryz.func62, Tryz.ntmps62
        go_wp2_with fail
        refine (HF.out _).mono ?_
        rintro _ w1 ⟨rfl, hb⟩
        rw [HR.out]
        have B1 := BR0.out.below hb
        have hw1 : w.heap.size ≤ w.heap.size + 1 := Nat.le_succ _
        have HB1 := Lib.hid (HB0.out.trans (hb.mono (by simp; omega)))
        have ⟨_, p0, p1, p2, p3, p4, p5, p6, pf⟩ := B1
        have ⟨_, y0, y1, y2, y3, y4, y5, y6, yf⟩ := BX0.out.below hb
        clear hb
        go_wp2_with fail
        have BF := (((((((B1.set0 (.int .i64 7)).set1 (.int .u64 0)).set2 (.string m.t)).set3 (.slice none 0 0)).set4 (.slice none 0 0)).set5 (.slice none 0 0)).set6 (.slice none 0 0))
        obtain ⟨_, q0, q1, q2, q3, q4, q5, q6, _⟩ := BF
        exact bodyPost_ret (v := .tuple #[.agg #[.int .i64 7, .int .u64 0, .string m.t, .slice none 0 0, .slice none 0 0, .slice none 0 0, .slice none 0 0], .int .i64 0]) (by simp [results, Tryz.results62, go_sem, q0, q1, q2, q3, q4, q5, q6]) rfl ⟨rfl, below7s HB1.out hw1 _ _ _ _ _ _ _⟩
      | false =>
        rw [if_neg (by simp)] at hB
        simp only [zv, Prod.mk.injEq, SV.mk.injEq] at hB
        obtain ⟨⟨rfl, rfl, rfl, rfl, rfl, rfl, rfl, rfl, rfl, rfl, rfl, rfl, rfl, rfl, rfl⟩, rfl⟩ := hB
        go_enter Tryz.func62, Tryz.ntmps62
        go_wp2_with fail
        refine (HF.out _).mono ?_
        rintro _ w1 ⟨rfl, hb⟩
        rw [HR.out]
        have B1 := BR0.out.below hb
        have hw1 : w.heap.size ≤ w.heap.size + 1 := Nat.le_succ _
        have HB1 := Lib.hid (HB0.out.trans (hb.mono (by simp; omega)))
        have ⟨_, p0, p1, p2, p3, p4, p5, p6, pf⟩ := B1
        clear hb
        go_wp2_with fail
        have BF := (((((((B1.set0 (.int .i64 0)).set1 (.int .u64 0)).set2 (.string ⟨#[]⟩)).set3 (.slice none 0 0)).set4 (.slice none 0 0)).set5 (.slice none 0 0)).set6 (.slice none 0 0))
        obtain ⟨_, q0, q1, q2, q3, q4, q5, q6, _⟩ := BF
        exact bodyPost_ret (v := .tuple #[.agg #[.int .i64 0, .int .u64 0, .string ⟨#[]⟩, .slice none 0 0, .slice none 0 0, .slice none 0 0, .slice none 0 0], .int .i64 7]) (by simp [results, Tryz.results62, go_sem, q0, q1, q2, q3, q4, q5, q6]) rfl ⟨rfl, below7s HB1.out hw1 _ _ _ _ _ _ _⟩
  · have e1 : (m.kd != 3) = true := by rw [bne_iff_ne]; exact hk
    rw [if_pos hk] at hB
    simp only [zv, Prod.mk.injEq, SV.mk.injEq] at hB
    obtain ⟨⟨rfl, rfl, rfl, rfl, rfl, rfl, rfl, rfl, rfl, rfl, rfl, rfl, rfl, rfl, rfl⟩, rfl⟩ := hB
    clear hk
    go_enter Tryz.func62, Tryz.ntmps62
    go_wp2_with fail
    exact bodyPost_ret (v := .tuple #[.agg #[.int .i64 0, .int .u64 0, .string ⟨#[]⟩, .slice none 0 0, .slice none 0 0, .slice none 0 0, .slice none 0 0], .int .i64 2]) (by simp [results, Tryz.results62, go_sem]) rfl ⟨rfl, HB0.out⟩
end Go.Proofs.YthjpchnogllliaaGreatDoor.NtpR

/- The program of stage 8, reading: an integer among tokens. -/
set_option linter.unusedSimpArgs false
set_option linter.unusedVariables false
namespace Go.Proofs.YthjpchnogllliaaGreatDoor.NtpU
open Go.RowKit Nums ScaM ScaV ScaB ScaW ScaX ScaY Val NotM NotR NotK NtrB TkrF Box NtpQ

/-- What integerOf gives. -/
def inV (k : Int) (q : List UInt8) (m : Mt) : SV × Int := if m.kd = 2 then parseS doubleS k (q ++ ScaM.dec (TokS.uI m.nu)) else (zv 0, 2)
set_option maxHeartbeats 4000000 in
set_option maxRecDepth 100000 in
theorem integerOf_p (k : Int) (b : ByteArray) (hbs : b.size ≤ 1) (m : Mt) (hm : m.ok) (w : World) (hL : Tld.Ld w) :
    Calls Tryz.prog 63 #[.int .i64 k, .string b, tt m] w fun e w' => e = .returned (.tuple #[vv (inV k b.data.toList m).1, .int .i64 (inV k b.data.toList m).2]) ∧ Below w.heap.size w w' := by
  obtain ⟨⟨⟨xk, xb, xt, xa1, xl1, xc1, xa2, xl2, xc2, xa3, xl3, xc3, xa4, xl4, xc4⟩, er⟩, hB⟩ : ∃ B, B = inV k b.data.toList m := ⟨_, rfl⟩
  rw [← hB]
  unfold tt
  simp only [vv]
  have hb0 : Below w.heap.size w ((w.alloc (.cells #[.int .i64 m.kd, .string m.t, .int .i64 m.nu, .int .i64 m.ln] 34)).alloc (.cells #[.int .i64 0, .int .u64 0, .string ⟨#[]⟩, .slice none 0 0, .slice none 0 0, .slice none 0 0, .slice none 0 0] 42)) := ((Below.refl _ _).alloc (Nat.le_refl _) _).alloc (by simp) _
  have HB0 := Lib.hid hb0
  have BR0 := Lib.hid (b7_new (w.alloc (.cells #[.int .i64 m.kd, .string m.t, .int .i64 m.nu, .int .i64 m.ln] 34)) (.int .i64 0) (.int .u64 0) (.string ⟨#[]⟩) (.slice none 0 0) (.slice none 0 0) (.slice none 0 0) (.slice none 0 0) 42)
  rw [World.size_alloc] at BR0
  have HL0 := Lib.hid (hL.v.below hb0)
  unfold inV at hB
  clear hb0 hL
  by_cases hk : m.kd = 2
  · have e1 : (m.kd != 2) = false := by rw [bne_eq_false_iff_eq]; exact hk
    rw [if_pos hk] at hB
    have hwu := TkrE.wrap_uI m.nu hm.2.2.1.1 hm.2.2.1.2
    have hul := TkrE.uI_le m.nu hm.2.2.1.1 hm.2.2.1.2
    generalize TokS.uI m.nu = U at *
    obtain ⟨D, hD⟩ : ∃ D : ByteArray, D = ⟨(Lib.decDigits U).toArray⟩ := ⟨_, rfl⟩
    have hDl := ScaM.dec_len 19 U (by omega)
    have hDs : D.size ≤ 20 := by rw [hD, size_mk, TxtM.dec_digits]; exact hDl
    have hsum : b.size + D.size ≤ 9223372036854775807 := by omega
    obtain ⟨Y, hY⟩ : ∃ Y : ByteArray, Y = b ++ D := ⟨_, rfl⟩
    have hYd : Y.data.toList = b.data.toList ++ ScaM.dec U := by rw [hY, append_toList, hD, TxtM.dec_digits]
    have hYs : Y.size ≤ 21 := by rw [hY, ByteArray.size_append]; omega
    rw [← hYd] at hB
    have HP := Lib.hid fun (W : World) (hW : Ld.Ld W) => PrsQ.parse_p k Y (by omega) W hW
    rw [← hB] at HP
    simp only [vv] at HP
    have HU := Lib.hid fun (W : World) (hW : Ld.Ld W) => FmtU.fmtU_any U hul W hW.tab
    have HD := Lib.hid hD
    have HY := Lib.hid hY
    rw [← hD] at HU
    clear hB hD hY hYd hk hDl hm
    go_enter Tryz.func63, Tryz.ntmps63
    go_wp2_with fail
    refine (HU.out _ HL0.out).mono ?_
    rintro _ w1 ⟨rfl, hb1⟩
    have hL1 := HL0.out.below hb1
    have B1 := BR0.out.below hb1
    have hw1 : w.heap.size ≤ w.heap.size + 1 := Nat.le_succ _
    have HB1 := Lib.hid (HB0.out.trans (hb1.mono (by simp; omega)))
    have hsz1 := hb1.size
    simp only [World.size_alloc] at hsz1
    clear hb1
    go_wp2_with fail
    rw [← HY.out]
    refine (HP.out _ hL1).mono ?_
    rintro _ w2 ⟨rfl, hb2⟩
    have B2 := B1.below hb2
    have HB2 := Lib.hid (HB1.out.trans (hb2.mono (by omega)))
    have ⟨_, p0, p1, p2, p3, p4, p5, p6, pf⟩ := B2
    clear hb2
    go_wp2_with fail
    have BF := (((((((B2.set0 (.int .i64 xk)).set1 (.int .u64 xb)).set2 (.string xt)).set3 (.slice xa1 xl1 xc1)).set4 (.slice xa2 xl2 xc2)).set5 (.slice xa3 xl3 xc3)).set6 (.slice xa4 xl4 xc4))
    obtain ⟨_, q0, q1, q2, q3, q4, q5, q6, _⟩ := BF
    exact bodyPost_ret (v := .tuple #[.agg #[.int .i64 xk, .int .u64 xb, .string xt, .slice xa1 xl1 xc1, .slice xa2 xl2 xc2, .slice xa3 xl3 xc3, .slice xa4 xl4 xc4], .int .i64 er]) (by simp [results, Tryz.results63, go_sem, q0, q1, q2, q3, q4, q5, q6]) rfl ⟨rfl, below7s HB2.out hw1 _ _ _ _ _ _ _⟩
  · have e1 : (m.kd != 2) = true := by rw [bne_iff_ne]; exact hk
    rw [if_neg hk] at hB
    simp only [zv, Prod.mk.injEq, SV.mk.injEq] at hB
    obtain ⟨⟨rfl, rfl, rfl, rfl, rfl, rfl, rfl, rfl, rfl, rfl, rfl, rfl, rfl, rfl, rfl⟩, rfl⟩ := hB
    clear hk BR0
    go_enter Tryz.func63, Tryz.ntmps63
    go_wp2_with fail
    exact bodyPost_ret (v := .tuple #[.agg #[.int .i64 0, .int .u64 0, .string ⟨#[]⟩, .slice none 0 0, .slice none 0 0, .slice none 0 0, .slice none 0 0], .int .i64 2]) (by simp [results, Tryz.results63, go_sem]) rfl ⟨rfl, HB0.out⟩
end Go.Proofs.YthjpchnogllliaaGreatDoor.NtpU

/- The program of stage 8, reading: a value among tokens. -/
set_option linter.unusedSimpArgs false
set_option linter.unusedVariables false
namespace Go.Proofs.YthjpchnogllliaaGreatDoor.NtpV
open Go.RowKit Nums ScaM ScaV ScaB ScaW ScaX ScaY Val NotM NotR NotK NtrB TkrF Box NtpQ NtpR NtpU

/-- What is given back for a value that was found. -/
def fin (C : SV × Int) (z : Int) : SV × Int × Int := if C.2 ≠ 0 then (zv 0, z, C.2) else (C.1, z + 1, 0)
/-- What readValue gives. -/
def rvV (k : Int) (l : List Mt) (z : Int) : SV × Int × Int :=
  if k = 1 then fin (boV (atT l z)) z else if k = 7 then fin (txV (atT l z)) z
  else if isSg (atT l z).tok 45 = true then fin (inV k [45] (atT l (z + 1))) (z + 1) else fin (inV k [] (atT l z)) z
set_option maxHeartbeats 8000000 in
set_option maxRecDepth 100000 in
theorem readValue_p (k : Int) (v : Value) (l : List Mt) (z : Int) (w : World) (hk : KnT w v l) (hl : l.length ≤ 100000) (hz : 0 ≤ z ∧ z ≤ 1000000) (hok : ∀ m ∈ l, m.ok) (hL : Tld.Ld w) :
    Calls Tryz.prog 31 #[.int .i64 k, v, .int .i64 z] w fun e w' => e = .returned (.tuple #[vv (rvV k l z).1, .int .i64 (rvV k l z).2.1, .int .i64 (rvV k l z).2.2]) ∧ Below w.heap.size w w' := by
  have hb0 : Below w.heap.size w ((w.alloc (.cells #[.int .i64 0, .int .u64 0, .string ⟨#[]⟩, .slice none 0 0, .slice none 0 0, .slice none 0 0, .slice none 0 0] 42)).alloc (.cells #[.int .i64 0, .int .u64 0, .string ⟨#[]⟩, .slice none 0 0, .slice none 0 0, .slice none 0 0, .slice none 0 0] 42)) := ((Below.refl _ _).alloc (Nat.le_refl _) _).alloc (by simp) _
  have HB0 := Lib.hid hb0
  have HL0 := Lib.hid (hL.below hb0)
  have BR0 := Lib.hid ((b7_new w (.int .i64 0) (.int .u64 0) (.string ⟨#[]⟩) (.slice none 0 0) (.slice none 0 0) (.slice none 0 0) (.slice none 0 0) 42).alloc (.cells #[.int .i64 0, .int .u64 0, .string ⟨#[]⟩, .slice none 0 0, .slice none 0 0, .slice none 0 0, .slice none 0 0] 42))
  have BV0 := Lib.hid (b7_new (w.alloc (.cells #[.int .i64 0, .int .u64 0, .string ⟨#[]⟩, .slice none 0 0, .slice none 0 0, .slice none 0 0, .slice none 0 0] 42)) (.int .i64 0) (.int .u64 0) (.string ⟨#[]⟩) (.slice none 0 0) (.slice none 0 0) (.slice none 0 0) (.slice none 0 0) 42)
  rw [World.size_alloc] at BV0
  have HT : Hid (∀ (W : World) (y : Int), Below w.heap.size w W → (-9223372036854775808 ≤ y ∧ y ≤ 9223372036854775807) → Calls Tryz.prog 15 #[v, .int .i64 y] W fun e w' => e = .returned (tt (atT l y)) ∧ Below W.heap.size W w') := Lib.hid (fun W y hW hy => tokenAt_p v l y W (hk.below hW) hl hy)
  have hne : w.heap.size ≠ w.heap.size + 1 := by omega
  have hw1 : w.heap.size ≤ w.heap.size + 1 := Nat.le_succ _
  have hz1 : -9223372036854775808 ≤ z ∧ z ≤ 9223372036854775807 := by omega
  have hz2 : -9223372036854775808 ≤ z + 1 ∧ z + 1 ≤ 9223372036854775807 := by omega
  obtain ⟨X, hX⟩ : ∃ X, X = rvV k l z := ⟨_, rfl⟩
  rw [← hX]
  unfold rvV at hX
  have A0 := at_ok hok z
  have A1 := at_ok hok (z + 1)
  clear hb0 hL hk hok
  by_cases h1 : k = 1
  · have d1 : (k == 1) = true := beq_iff_eq.2 h1
    rw [if_pos h1] at hX
    clear h1
    obtain ⟨⟨⟨xk, xb, xt, xa1, xl1, xc1, xa2, xl2, xc2, xa3, xl3, xc3, xa4, xl4, xc4⟩, er⟩, hC⟩ : ∃ C, C = boV (atT l z) := ⟨_, rfl⟩
    have HF : Hid (∀ W : World, Tld.Ld W → Calls Tryz.prog 61 #[tt (atT l z)] W fun e w' => e = .returned (.tuple #[vv (boV (atT l z)).1, .int .i64 (boV (atT l z)).2]) ∧ Below W.heap.size W w') := Lib.hid (fun W hW => NtpR.boolOf_p (atT l z) W hW)
    rw [← hC] at HF hX
    simp only [vv] at HF
    clear hC
    unfold fin at hX
    by_cases her : er = 0
    · have e3 : (er != 0) = false := by rw [bne_eq_false_iff_eq]; exact her
      rw [if_neg (not_not_intro her)] at hX
      subst hX
      clear her
      simp only [vv, zv]
      go_enter Tryz.func31, Tryz.ntmps31
      go_wp2_with fail
      have B0 := BR0.out; have V0 := BV0.out
      have hs0 := HB0.out.size
      refine (HT.out _ (z) HB0.out hz1).mono ?_
      rintro _ w1 ⟨rfl, hb1⟩
      have HB1 := Lib.hid (HB0.out.trans (hb1.mono (by first | exact HB0.out.size | (simp; omega))))
      have HL1 := Lib.hid (HL0.out.below hb1)
      have B1 := B0.below hb1
      have V1 := V0.below hb1
      clear hb1
      go_wp2_with fail
      refine (HF.out _ HL1.out).mono ?_
      rintro _ w2 ⟨rfl, hb2⟩
      have HB2 := Lib.hid (HB1.out.trans (hb2.mono (by first | exact HB1.out.size | (simp; omega))))
      have HL2 := Lib.hid (HL1.out.below hb2)
      have B2 := B1.below hb2
      have V2 := V1.below hb2
      clear hb2
      have ⟨_, p0, p1, p2, p3, p4, p5, p6, pf⟩ := B2
      have ⟨_, y0, y1, y2, y3, y4, y5, y6, yf⟩ := V2
      go_wp2_with fail
      have BF := ((((((((((((((B2.set_other hne 0 (.int .i64 xk)).set_other hne 1 (.int .u64 xb)).set_other hne 2 (.string xt)).set_other hne 3 (.slice xa1 xl1 xc1)).set_other hne 4 (.slice xa2 xl2 xc2)).set_other hne 5 (.slice xa3 xl3 xc3)).set_other hne 6 (.slice xa4 xl4 xc4)).set0 (.int .i64 xk)).set1 (.int .u64 xb)).set2 (.string xt)).set3 (.slice xa1 xl1 xc1)).set4 (.slice xa2 xl2 xc2)).set5 (.slice xa3 xl3 xc3)).set6 (.slice xa4 xl4 xc4))
      obtain ⟨_, q0, q1, q2, q3, q4, q5, q6, _⟩ := BF
      exact bodyPost_ret (v := .tuple #[.agg #[.int .i64 xk, .int .u64 xb, .string xt, .slice xa1 xl1 xc1, .slice xa2 xl2 xc2, .slice xa3 xl3 xc3, .slice xa4 xl4 xc4], .int .i64 (z + 1), .int .i64 0]) (by simp [results, Tryz.results31, go_sem, q0, q1, q2, q3, q4, q5, q6]) rfl ⟨rfl, below7s (below7s HB2.out hw1 _ _ _ _ _ _ _) (Nat.le_refl _) _ _ _ _ _ _ _⟩
    · have e3 : (er != 0) = true := by rw [bne_iff_ne]; exact her
      rw [if_pos her] at hX
      subst hX
      clear her
      simp only [vv, zv]
      go_enter Tryz.func31, Tryz.ntmps31
      go_wp2_with fail
      have B0 := BR0.out; have V0 := BV0.out
      have hs0 := HB0.out.size
      refine (HT.out _ (z) HB0.out hz1).mono ?_
      rintro _ w1 ⟨rfl, hb1⟩
      have HB1 := Lib.hid (HB0.out.trans (hb1.mono (by first | exact HB0.out.size | (simp; omega))))
      have HL1 := Lib.hid (HL0.out.below hb1)
      have B1 := B0.below hb1
      have V1 := V0.below hb1
      clear hb1
      go_wp2_with fail
      refine (HF.out _ HL1.out).mono ?_
      rintro _ w2 ⟨rfl, hb2⟩
      have HB2 := Lib.hid (HB1.out.trans (hb2.mono (by first | exact HB1.out.size | (simp; omega))))
      have HL2 := Lib.hid (HL1.out.below hb2)
      have B2 := B1.below hb2
      have V2 := V1.below hb2
      clear hb2
      have ⟨_, p0, p1, p2, p3, p4, p5, p6, pf⟩ := B2
      have ⟨_, y0, y1, y2, y3, y4, y5, y6, yf⟩ := V2
      go_wp2_with fail
      have BF := ((((((((((((((B2.set_other hne 0 (.int .i64 xk)).set_other hne 1 (.int .u64 xb)).set_other hne 2 (.string xt)).set_other hne 3 (.slice xa1 xl1 xc1)).set_other hne 4 (.slice xa2 xl2 xc2)).set_other hne 5 (.slice xa3 xl3 xc3)).set_other hne 6 (.slice xa4 xl4 xc4)).set0 (.int .i64 0)).set1 (.int .u64 0)).set2 (.string ⟨#[]⟩)).set3 (.slice none 0 0)).set4 (.slice none 0 0)).set5 (.slice none 0 0)).set6 (.slice none 0 0))
      obtain ⟨_, q0, q1, q2, q3, q4, q5, q6, _⟩ := BF
      exact bodyPost_ret (v := .tuple #[.agg #[.int .i64 0, .int .u64 0, .string ⟨#[]⟩, .slice none 0 0, .slice none 0 0, .slice none 0 0, .slice none 0 0], .int .i64 (z), .int .i64 er]) (by simp [results, Tryz.results31, go_sem, q0, q1, q2, q3, q4, q5, q6]) rfl ⟨rfl, below7s (below7s HB2.out hw1 _ _ _ _ _ _ _) (Nat.le_refl _) _ _ _ _ _ _ _⟩
  · have d1 : (k == 1) = false := beq_eq_false_iff_ne.2 h1
    rw [if_neg h1] at hX
    by_cases h7 : k = 7
    · have d7 : (k == 7) = true := beq_iff_eq.2 h7
      rw [if_pos h7] at hX
      clear h1 h7
      obtain ⟨⟨⟨xk, xb, xt, xa1, xl1, xc1, xa2, xl2, xc2, xa3, xl3, xc3, xa4, xl4, xc4⟩, er⟩, hC⟩ : ∃ C, C = txV (atT l z) := ⟨_, rfl⟩
      have HF : Hid (∀ W : World, Tld.Ld W → Calls Tryz.prog 62 #[tt (atT l z)] W fun e w' => e = .returned (.tuple #[vv (txV (atT l z)).1, .int .i64 (txV (atT l z)).2]) ∧ Below W.heap.size W w') := Lib.hid (fun W hW => NtpR.textOf_p (atT l z) A0 W hW)
      rw [← hC] at HF hX
      simp only [vv] at HF
      clear hC
      unfold fin at hX
      by_cases her : er = 0
      · have e3 : (er != 0) = false := by rw [bne_eq_false_iff_eq]; exact her
        rw [if_neg (not_not_intro her)] at hX
        subst hX
        clear her
        simp only [vv, zv]
        go_enter Tryz.func31, Tryz.ntmps31
        go_wp2_with fail
        have B0 := BR0.out; have V0 := BV0.out
        have hs0 := HB0.out.size
        refine (HT.out _ (z) HB0.out hz1).mono ?_
        rintro _ w1 ⟨rfl, hb1⟩
        have HB1 := Lib.hid (HB0.out.trans (hb1.mono (by first | exact HB0.out.size | (simp; omega))))
        have HL1 := Lib.hid (HL0.out.below hb1)
        have B1 := B0.below hb1
        have V1 := V0.below hb1
        clear hb1
        go_wp2_with fail
        refine (HF.out _ HL1.out).mono ?_
        rintro _ w2 ⟨rfl, hb2⟩
        have HB2 := Lib.hid (HB1.out.trans (hb2.mono (by first | exact HB1.out.size | (simp; omega))))
        have HL2 := Lib.hid (HL1.out.below hb2)
        have B2 := B1.below hb2
        have V2 := V1.below hb2
        clear hb2
        have ⟨_, p0, p1, p2, p3, p4, p5, p6, pf⟩ := B2
        have ⟨_, y0, y1, y2, y3, y4, y5, y6, yf⟩ := V2
        go_wp2_with fail
        have BF := ((((((((((((((B2.set_other hne 0 (.int .i64 xk)).set_other hne 1 (.int .u64 xb)).set_other hne 2 (.string xt)).set_other hne 3 (.slice xa1 xl1 xc1)).set_other hne 4 (.slice xa2 xl2 xc2)).set_other hne 5 (.slice xa3 xl3 xc3)).set_other hne 6 (.slice xa4 xl4 xc4)).set0 (.int .i64 xk)).set1 (.int .u64 xb)).set2 (.string xt)).set3 (.slice xa1 xl1 xc1)).set4 (.slice xa2 xl2 xc2)).set5 (.slice xa3 xl3 xc3)).set6 (.slice xa4 xl4 xc4))
        obtain ⟨_, q0, q1, q2, q3, q4, q5, q6, _⟩ := BF
        exact bodyPost_ret (v := .tuple #[.agg #[.int .i64 xk, .int .u64 xb, .string xt, .slice xa1 xl1 xc1, .slice xa2 xl2 xc2, .slice xa3 xl3 xc3, .slice xa4 xl4 xc4], .int .i64 (z + 1), .int .i64 0]) (by simp [results, Tryz.results31, go_sem, q0, q1, q2, q3, q4, q5, q6]) rfl ⟨rfl, below7s (below7s HB2.out hw1 _ _ _ _ _ _ _) (Nat.le_refl _) _ _ _ _ _ _ _⟩
      · have e3 : (er != 0) = true := by rw [bne_iff_ne]; exact her
        rw [if_pos her] at hX
        subst hX
        clear her
        simp only [vv, zv]
        go_enter Tryz.func31, Tryz.ntmps31
        go_wp2_with fail
        have B0 := BR0.out; have V0 := BV0.out
        have hs0 := HB0.out.size
        refine (HT.out _ (z) HB0.out hz1).mono ?_
        rintro _ w1 ⟨rfl, hb1⟩
        have HB1 := Lib.hid (HB0.out.trans (hb1.mono (by first | exact HB0.out.size | (simp; omega))))
        have HL1 := Lib.hid (HL0.out.below hb1)
        have B1 := B0.below hb1
        have V1 := V0.below hb1
        clear hb1
        go_wp2_with fail
        refine (HF.out _ HL1.out).mono ?_
        rintro _ w2 ⟨rfl, hb2⟩
        have HB2 := Lib.hid (HB1.out.trans (hb2.mono (by first | exact HB1.out.size | (simp; omega))))
        have HL2 := Lib.hid (HL1.out.below hb2)
        have B2 := B1.below hb2
        have V2 := V1.below hb2
        clear hb2
        have ⟨_, p0, p1, p2, p3, p4, p5, p6, pf⟩ := B2
        have ⟨_, y0, y1, y2, y3, y4, y5, y6, yf⟩ := V2
        go_wp2_with fail
        have BF := ((((((((((((((B2.set_other hne 0 (.int .i64 xk)).set_other hne 1 (.int .u64 xb)).set_other hne 2 (.string xt)).set_other hne 3 (.slice xa1 xl1 xc1)).set_other hne 4 (.slice xa2 xl2 xc2)).set_other hne 5 (.slice xa3 xl3 xc3)).set_other hne 6 (.slice xa4 xl4 xc4)).set0 (.int .i64 0)).set1 (.int .u64 0)).set2 (.string ⟨#[]⟩)).set3 (.slice none 0 0)).set4 (.slice none 0 0)).set5 (.slice none 0 0)).set6 (.slice none 0 0))
        obtain ⟨_, q0, q1, q2, q3, q4, q5, q6, _⟩ := BF
        exact bodyPost_ret (v := .tuple #[.agg #[.int .i64 0, .int .u64 0, .string ⟨#[]⟩, .slice none 0 0, .slice none 0 0, .slice none 0 0, .slice none 0 0], .int .i64 (z), .int .i64 er]) (by simp [results, Tryz.results31, go_sem, q0, q1, q2, q3, q4, q5, q6]) rfl ⟨rfl, below7s (below7s HB2.out hw1 _ _ _ _ _ _ _) (Nat.le_refl _) _ _ _ _ _ _ _⟩
    · have d7 : (k == 7) = false := beq_eq_false_iff_ne.2 h7
      rw [if_neg h7] at hX
      clear h1 h7
      have HI := Lib.hid fun W => isSign_p (atT l z) ⟨#[45]⟩ 45 rfl W
      obtain ⟨Q, hQ⟩ : ∃ Q, isSg (atT l z).tok 45 = Q := ⟨_, rfl⟩
      have HS := Lib.hid hQ
      rw [hQ] at hX
      clear hQ
      cases Q with
      | true =>
        rw [if_pos rfl] at hX
        obtain ⟨⟨⟨xk, xb, xt, xa1, xl1, xc1, xa2, xl2, xc2, xa3, xl3, xc3, xa4, xl4, xc4⟩, er⟩, hC⟩ : ∃ C, C = inV k [45] (atT l (z + 1)) := ⟨_, rfl⟩
        have HF : Hid (∀ W : World, Tld.Ld W → Calls Tryz.prog 63 #[.int .i64 k, .string ⟨#[45]⟩, tt (atT l (z + 1))] W fun e w' => e = .returned (.tuple #[vv (inV k [45] (atT l (z + 1))).1, .int .i64 (inV k [45] (atT l (z + 1))).2]) ∧ Below W.heap.size W w') := Lib.hid (fun W hW => NtpU.integerOf_p k ⟨#[45]⟩ (by decide) (atT l (z + 1)) A1 W hW)
        rw [← hC] at HF hX
        simp only [vv] at HF
        clear hC
        unfold fin at hX
        by_cases her : er = 0
        · have e3 : (er != 0) = false := by rw [bne_eq_false_iff_eq]; exact her
          rw [if_neg (not_not_intro her)] at hX
          subst hX
          clear her
          simp only [vv, zv]
          go_enter Tryz.func31, Tryz.ntmps31
          go_wp2_with fail
          have B0 := BR0.out; have V0 := BV0.out
          have hs0 := HB0.out.size
          refine (HT.out _ z HB0.out hz1).mono ?_
          rintro _ w1 ⟨rfl, hb1⟩
          have HB1 := Lib.hid (HB0.out.trans (hb1.mono (by first | exact HB0.out.size | (simp; omega))))
          have HL1 := Lib.hid (HL0.out.below hb1)
          have B1 := B0.below hb1
          have V1 := V0.below hb1
          clear hb1
          go_wp2_with fail
          refine (HI.out _).mono ?_
          rintro _ w2 ⟨rfl, hb2⟩
          rw [HS.out]
          have HB2 := Lib.hid (HB1.out.trans (hb2.mono (by first | exact HB1.out.size | (simp; omega))))
          have HL2 := Lib.hid (HL1.out.below hb2)
          have B2 := B1.below hb2
          have V2 := V1.below hb2
          clear hb2
          go_wp2_with fail
          refine (HT.out _ (z + 1) HB2.out hz2).mono ?_
          rintro _ w3 ⟨rfl, hb3⟩
          have HB3 := Lib.hid (HB2.out.trans (hb3.mono (by first | exact HB2.out.size | (simp; omega))))
          have HL3 := Lib.hid (HL2.out.below hb3)
          have B3 := B2.below hb3
          have V3 := V2.below hb3
          clear hb3
          go_wp2_with fail
          refine (HF.out _ HL3.out).mono ?_
          rintro _ w4 ⟨rfl, hb4⟩
          have HB4 := Lib.hid (HB3.out.trans (hb4.mono (by first | exact HB3.out.size | (simp; omega))))
          have HL4 := Lib.hid (HL3.out.below hb4)
          have B4 := B3.below hb4
          have V4 := V3.below hb4
          clear hb4
          have ⟨_, p0, p1, p2, p3, p4, p5, p6, pf⟩ := B4
          have ⟨_, y0, y1, y2, y3, y4, y5, y6, yf⟩ := V4
          go_wp2_with fail
          have BF := ((((((((((((((B4.set_other hne 0 (.int .i64 xk)).set_other hne 1 (.int .u64 xb)).set_other hne 2 (.string xt)).set_other hne 3 (.slice xa1 xl1 xc1)).set_other hne 4 (.slice xa2 xl2 xc2)).set_other hne 5 (.slice xa3 xl3 xc3)).set_other hne 6 (.slice xa4 xl4 xc4)).set0 (.int .i64 xk)).set1 (.int .u64 xb)).set2 (.string xt)).set3 (.slice xa1 xl1 xc1)).set4 (.slice xa2 xl2 xc2)).set5 (.slice xa3 xl3 xc3)).set6 (.slice xa4 xl4 xc4))
          obtain ⟨_, q0, q1, q2, q3, q4, q5, q6, _⟩ := BF
          exact bodyPost_ret (v := .tuple #[.agg #[.int .i64 xk, .int .u64 xb, .string xt, .slice xa1 xl1 xc1, .slice xa2 xl2 xc2, .slice xa3 xl3 xc3, .slice xa4 xl4 xc4], .int .i64 (z + 1 + 1), .int .i64 0]) (by simp [results, Tryz.results31, go_sem, q0, q1, q2, q3, q4, q5, q6]) rfl ⟨rfl, below7s (below7s HB4.out hw1 _ _ _ _ _ _ _) (Nat.le_refl _) _ _ _ _ _ _ _⟩
        · have e3 : (er != 0) = true := by rw [bne_iff_ne]; exact her
          rw [if_pos her] at hX
          subst hX
          clear her
          simp only [vv, zv]
          go_enter Tryz.func31, Tryz.ntmps31
          go_wp2_with fail
          have B0 := BR0.out; have V0 := BV0.out
          have hs0 := HB0.out.size
          refine (HT.out _ z HB0.out hz1).mono ?_
          rintro _ w1 ⟨rfl, hb1⟩
          have HB1 := Lib.hid (HB0.out.trans (hb1.mono (by first | exact HB0.out.size | (simp; omega))))
          have HL1 := Lib.hid (HL0.out.below hb1)
          have B1 := B0.below hb1
          have V1 := V0.below hb1
          clear hb1
          go_wp2_with fail
          refine (HI.out _).mono ?_
          rintro _ w2 ⟨rfl, hb2⟩
          rw [HS.out]
          have HB2 := Lib.hid (HB1.out.trans (hb2.mono (by first | exact HB1.out.size | (simp; omega))))
          have HL2 := Lib.hid (HL1.out.below hb2)
          have B2 := B1.below hb2
          have V2 := V1.below hb2
          clear hb2
          go_wp2_with fail
          refine (HT.out _ (z + 1) HB2.out hz2).mono ?_
          rintro _ w3 ⟨rfl, hb3⟩
          have HB3 := Lib.hid (HB2.out.trans (hb3.mono (by first | exact HB2.out.size | (simp; omega))))
          have HL3 := Lib.hid (HL2.out.below hb3)
          have B3 := B2.below hb3
          have V3 := V2.below hb3
          clear hb3
          go_wp2_with fail
          refine (HF.out _ HL3.out).mono ?_
          rintro _ w4 ⟨rfl, hb4⟩
          have HB4 := Lib.hid (HB3.out.trans (hb4.mono (by first | exact HB3.out.size | (simp; omega))))
          have HL4 := Lib.hid (HL3.out.below hb4)
          have B4 := B3.below hb4
          have V4 := V3.below hb4
          clear hb4
          have ⟨_, p0, p1, p2, p3, p4, p5, p6, pf⟩ := B4
          have ⟨_, y0, y1, y2, y3, y4, y5, y6, yf⟩ := V4
          go_wp2_with fail
          have BF := ((((((((((((((B4.set_other hne 0 (.int .i64 xk)).set_other hne 1 (.int .u64 xb)).set_other hne 2 (.string xt)).set_other hne 3 (.slice xa1 xl1 xc1)).set_other hne 4 (.slice xa2 xl2 xc2)).set_other hne 5 (.slice xa3 xl3 xc3)).set_other hne 6 (.slice xa4 xl4 xc4)).set0 (.int .i64 0)).set1 (.int .u64 0)).set2 (.string ⟨#[]⟩)).set3 (.slice none 0 0)).set4 (.slice none 0 0)).set5 (.slice none 0 0)).set6 (.slice none 0 0))
          obtain ⟨_, q0, q1, q2, q3, q4, q5, q6, _⟩ := BF
          exact bodyPost_ret (v := .tuple #[.agg #[.int .i64 0, .int .u64 0, .string ⟨#[]⟩, .slice none 0 0, .slice none 0 0, .slice none 0 0, .slice none 0 0], .int .i64 (z + 1), .int .i64 er]) (by simp [results, Tryz.results31, go_sem, q0, q1, q2, q3, q4, q5, q6]) rfl ⟨rfl, below7s (below7s HB4.out hw1 _ _ _ _ _ _ _) (Nat.le_refl _) _ _ _ _ _ _ _⟩
      | false =>
        rw [if_neg (by simp)] at hX
        obtain ⟨⟨⟨xk, xb, xt, xa1, xl1, xc1, xa2, xl2, xc2, xa3, xl3, xc3, xa4, xl4, xc4⟩, er⟩, hC⟩ : ∃ C, C = inV k [] (atT l z) := ⟨_, rfl⟩
        have HF : Hid (∀ W : World, Tld.Ld W → Calls Tryz.prog 63 #[.int .i64 k, .string ⟨#[]⟩, tt (atT l z)] W fun e w' => e = .returned (.tuple #[vv (inV k [] (atT l z)).1, .int .i64 (inV k [] (atT l z)).2]) ∧ Below W.heap.size W w') := Lib.hid (fun W hW => NtpU.integerOf_p k ⟨#[]⟩ (by decide) (atT l z) A0 W hW)
        rw [← hC] at HF hX
        simp only [vv] at HF
        clear hC
        unfold fin at hX
        by_cases her : er = 0
        · have e3 : (er != 0) = false := by rw [bne_eq_false_iff_eq]; exact her
          rw [if_neg (not_not_intro her)] at hX
          subst hX
          clear her
          simp only [vv, zv]
          go_enter Tryz.func31, Tryz.ntmps31
          go_wp2_with fail
          have B0 := BR0.out; have V0 := BV0.out
          have hs0 := HB0.out.size
          refine (HT.out _ z HB0.out hz1).mono ?_
          rintro _ w1 ⟨rfl, hb1⟩
          have HB1 := Lib.hid (HB0.out.trans (hb1.mono (by first | exact HB0.out.size | (simp; omega))))
          have HL1 := Lib.hid (HL0.out.below hb1)
          have B1 := B0.below hb1
          have V1 := V0.below hb1
          clear hb1
          go_wp2_with fail
          refine (HI.out _).mono ?_
          rintro _ w2 ⟨rfl, hb2⟩
          rw [HS.out]
          have HB2 := Lib.hid (HB1.out.trans (hb2.mono (by first | exact HB1.out.size | (simp; omega))))
          have HL2 := Lib.hid (HL1.out.below hb2)
          have B2 := B1.below hb2
          have V2 := V1.below hb2
          clear hb2
          go_wp2_with fail
          refine (HT.out _ (z) HB2.out hz1).mono ?_
          rintro _ w3 ⟨rfl, hb3⟩
          have HB3 := Lib.hid (HB2.out.trans (hb3.mono (by first | exact HB2.out.size | (simp; omega))))
          have HL3 := Lib.hid (HL2.out.below hb3)
          have B3 := B2.below hb3
          have V3 := V2.below hb3
          clear hb3
          go_wp2_with fail
          refine (HF.out _ HL3.out).mono ?_
          rintro _ w4 ⟨rfl, hb4⟩
          have HB4 := Lib.hid (HB3.out.trans (hb4.mono (by first | exact HB3.out.size | (simp; omega))))
          have HL4 := Lib.hid (HL3.out.below hb4)
          have B4 := B3.below hb4
          have V4 := V3.below hb4
          clear hb4
          have ⟨_, p0, p1, p2, p3, p4, p5, p6, pf⟩ := B4
          have ⟨_, y0, y1, y2, y3, y4, y5, y6, yf⟩ := V4
          go_wp2_with fail
          have BF := ((((((((((((((B4.set_other hne 0 (.int .i64 xk)).set_other hne 1 (.int .u64 xb)).set_other hne 2 (.string xt)).set_other hne 3 (.slice xa1 xl1 xc1)).set_other hne 4 (.slice xa2 xl2 xc2)).set_other hne 5 (.slice xa3 xl3 xc3)).set_other hne 6 (.slice xa4 xl4 xc4)).set0 (.int .i64 xk)).set1 (.int .u64 xb)).set2 (.string xt)).set3 (.slice xa1 xl1 xc1)).set4 (.slice xa2 xl2 xc2)).set5 (.slice xa3 xl3 xc3)).set6 (.slice xa4 xl4 xc4))
          obtain ⟨_, q0, q1, q2, q3, q4, q5, q6, _⟩ := BF
          exact bodyPost_ret (v := .tuple #[.agg #[.int .i64 xk, .int .u64 xb, .string xt, .slice xa1 xl1 xc1, .slice xa2 xl2 xc2, .slice xa3 xl3 xc3, .slice xa4 xl4 xc4], .int .i64 (z + 1), .int .i64 0]) (by simp [results, Tryz.results31, go_sem, q0, q1, q2, q3, q4, q5, q6]) rfl ⟨rfl, below7s (below7s HB4.out hw1 _ _ _ _ _ _ _) (Nat.le_refl _) _ _ _ _ _ _ _⟩
        · have e3 : (er != 0) = true := by rw [bne_iff_ne]; exact her
          rw [if_pos her] at hX
          subst hX
          clear her
          simp only [vv, zv]
          go_enter Tryz.func31, Tryz.ntmps31
          go_wp2_with fail
          have B0 := BR0.out; have V0 := BV0.out
          have hs0 := HB0.out.size
          refine (HT.out _ z HB0.out hz1).mono ?_
          rintro _ w1 ⟨rfl, hb1⟩
          have HB1 := Lib.hid (HB0.out.trans (hb1.mono (by first | exact HB0.out.size | (simp; omega))))
          have HL1 := Lib.hid (HL0.out.below hb1)
          have B1 := B0.below hb1
          have V1 := V0.below hb1
          clear hb1
          go_wp2_with fail
          refine (HI.out _).mono ?_
          rintro _ w2 ⟨rfl, hb2⟩
          rw [HS.out]
          have HB2 := Lib.hid (HB1.out.trans (hb2.mono (by first | exact HB1.out.size | (simp; omega))))
          have HL2 := Lib.hid (HL1.out.below hb2)
          have B2 := B1.below hb2
          have V2 := V1.below hb2
          clear hb2
          go_wp2_with fail
          refine (HT.out _ (z) HB2.out hz1).mono ?_
          rintro _ w3 ⟨rfl, hb3⟩
          have HB3 := Lib.hid (HB2.out.trans (hb3.mono (by first | exact HB2.out.size | (simp; omega))))
          have HL3 := Lib.hid (HL2.out.below hb3)
          have B3 := B2.below hb3
          have V3 := V2.below hb3
          clear hb3
          go_wp2_with fail
          refine (HF.out _ HL3.out).mono ?_
          rintro _ w4 ⟨rfl, hb4⟩
          have HB4 := Lib.hid (HB3.out.trans (hb4.mono (by first | exact HB3.out.size | (simp; omega))))
          have HL4 := Lib.hid (HL3.out.below hb4)
          have B4 := B3.below hb4
          have V4 := V3.below hb4
          clear hb4
          have ⟨_, p0, p1, p2, p3, p4, p5, p6, pf⟩ := B4
          have ⟨_, y0, y1, y2, y3, y4, y5, y6, yf⟩ := V4
          go_wp2_with fail
          have BF := ((((((((((((((B4.set_other hne 0 (.int .i64 xk)).set_other hne 1 (.int .u64 xb)).set_other hne 2 (.string xt)).set_other hne 3 (.slice xa1 xl1 xc1)).set_other hne 4 (.slice xa2 xl2 xc2)).set_other hne 5 (.slice xa3 xl3 xc3)).set_other hne 6 (.slice xa4 xl4 xc4)).set0 (.int .i64 0)).set1 (.int .u64 0)).set2 (.string ⟨#[]⟩)).set3 (.slice none 0 0)).set4 (.slice none 0 0)).set5 (.slice none 0 0)).set6 (.slice none 0 0))
          obtain ⟨_, q0, q1, q2, q3, q4, q5, q6, _⟩ := BF
          exact bodyPost_ret (v := .tuple #[.agg #[.int .i64 0, .int .u64 0, .string ⟨#[]⟩, .slice none 0 0, .slice none 0 0, .slice none 0 0, .slice none 0 0], .int .i64 (z), .int .i64 er]) (by simp [results, Tryz.results31, go_sem, q0, q1, q2, q3, q4, q5, q6]) rfl ⟨rfl, below7s (below7s HB4.out hw1 _ _ _ _ _ _ _) (Nat.le_refl _) _ _ _ _ _ _ _⟩
end Go.Proofs.YthjpchnogllliaaGreatDoor.NtpV
