import Derived.Test.YtoinfjdhbopefaaDoorTkrG
import Derived.Test.YtoinfjdhbopefaaDoorTld
import Derived.BigQuiet
/- Package token of the program: whether a token is a sign or name, comparing tokens. -/
set_option linter.unusedSimpArgs false
set_option linter.unusedVariables false
namespace Go.Proofs.YtoinfjdhbopefaaDoor.TkpF
open Go.RowKit Nums IdnM IdnC TokM TokD TokS TkrE TkrF Box4

set_option maxHeartbeats 2000000 in
set_option maxRecDepth 100000 in
theorem pis (kd nu ln : Int) (t s : ByteArray) (w : World) :
    Calls Tryd.prog 7 #[.agg #[.int .i64 kd, .string t, .int .i64 nu, .int .i64 ln], .string s] w fun e w' => e = .returned (.bool (isB ⟨kd, t.data.toList, nu⟩ s.data.toList)) ∧ Below w.heap.size w w' := by
  obtain ⟨B, hB⟩ : ∃ B, B = isB ⟨kd, t.data.toList, nu⟩ s.data.toList := ⟨_, rfl⟩
  rw [← hB]
  have hts : (t.toList == s.toList) = decide (t.data.toList = s.data.toList) := by
    rw [ByteArray.toList_eq, ByteArray.toList_eq, Bool.eq_iff_iff, beq_iff_eq, decide_eq_true_eq]
  have hB2 : B = ((kd == 4 || kd == 1) && (t.toList == s.toList)) := by
    rw [hB, hts, isB]
    by_cases h4 : kd = 4 <;> by_cases h1 : kd = 1 <;> simp [h4, h1]
  have HB0 := Lib.hid hB2
  clear hB hts hB2
  cases e4 : (kd == 4) with
  | true =>
    cases es : (t.toList == s.toList)
    · have HB := Lib.hid (show B = false by rw [HB0.out, e4, es]; rfl)
      clear HB0
      go_enter Tryd.func7, Tryd.ntmps7
      go_wp2_with fail
      go_ret
      exact ⟨by rw [HB.out]; rfl, (Below.refl _ _).alloc (Nat.le_refl _) _⟩
    · have HB := Lib.hid (show B = true by rw [HB0.out, e4, es]; rfl)
      clear HB0
      go_enter Tryd.func7, Tryd.ntmps7
      go_wp2_with fail
      go_ret
      exact ⟨by rw [HB.out]; rfl, (Below.refl _ _).alloc (Nat.le_refl _) _⟩
  | false =>
    cases e1 : (kd == 1) with
    | true =>
      cases es : (t.toList == s.toList)
      · have HB := Lib.hid (show B = false by rw [HB0.out, e4, e1, es]; rfl)
        clear HB0
        go_enter Tryd.func7, Tryd.ntmps7
        go_wp2_with fail
        go_ret
        exact ⟨by rw [HB.out]; rfl, (Below.refl _ _).alloc (Nat.le_refl _) _⟩
      · have HB := Lib.hid (show B = true by rw [HB0.out, e4, e1, es]; rfl)
        clear HB0
        go_enter Tryd.func7, Tryd.ntmps7
        go_wp2_with fail
        go_ret
        exact ⟨by rw [HB.out]; rfl, (Below.refl _ _).alloc (Nat.le_refl _) _⟩
    | false =>
      have HB := Lib.hid (show B = false by rw [HB0.out, e4, e1]; rfl)
      clear HB0
      go_enter Tryd.func7, Tryd.ntmps7
      go_wp2_with fail
      go_ret
      exact ⟨by rw [HB.out]; rfl, (Below.refl _ _).alloc (Nat.le_refl _) _⟩

set_option maxHeartbeats 2000000 in
set_option maxRecDepth 100000 in
theorem psame (v1 v2 : Value) (la lb : List Mt) (w : World) (hL : Tld.Ld w) (ha : KnT w v1 la) (hb : KnT w v2 lb) (hl : la.length ≤ 9223372036854775807) (hl2 : lb.length ≤ 9223372036854775807) :
    Calls Tryd.prog 9 #[v1, v2] w fun e w' => e = .returned (.bool (same la lb)) ∧ Below w.heap.size w w' := by
  obtain ⟨a1, cap1, rfl, hcap1, hcells1⟩ := ha
  obtain ⟨a2, cap2, rfl, hcap2, hcells2⟩ := hb
  have H1 := Lib.hid hcells1
  have H2 := Lib.hid hcells2
  clear hcells1 hcells2
  obtain ⟨B, hB⟩ : ∃ B, B = same la lb := ⟨_, rfl⟩
  rw [← hB]
  by_cases hlen : la.length = lb.length
  · have d1 : ((la.length : Int) != lb.length) = false := by rw [bne_eq_false_iff_eq]; omega
    have HB := Lib.hid hB
    clear hB
    go_enter Tryd.func9, Tryd.ntmps9
    go_wp2_with fail
    go_loopw [14] (fun iv wr => ∃ k : Nat, k ≤ la.length ∧ iv = .int .i64 k ∧ Hid (Below w.heap.size w wr) ∧ Hid (∀ (j : Nat) x y, la[j]? = some x → lb[j]? = some y → j < k → Mt.tok x = Mt.tok y)) (fun iv _ => la.length - (intOf iv).toNat)
    case atStart => exact ⟨0, by omega, rfl, Lib.hid (Below.refl _ _), Lib.hid (fun j x y _ _ hj => by omega)⟩
    case round =>
      obtain ⟨k, hk, rfl, Hb0, Hk⟩ := hrel
      by_cases hlt : k < la.length
      · have hlt2 : k < lb.length := by omega
        obtain ⟨x, hx⟩ : ∃ x, la[k]? = some x := ⟨_, List.getElem?_eq_getElem hlt⟩
        obtain ⟨y, hy⟩ : ∃ y, lb[k]? = some y := ⟨_, List.getElem?_eq_getElem hlt2⟩
        obtain ⟨kb1, ko1, rfl, hb1, c10, c11, c12, c13⟩ := H1.out k x hx
        obtain ⟨kb2, ko2, rfl, hb2, c20, c21, c22, c23⟩ := H2.out k y hy
        have cc1 : ∀ q, wr.cell? ⟨kb1, q, none⟩ = w.cell? ⟨kb1, q, none⟩ := fun q => Hb0.out.cell (p := ⟨kb1, q, none⟩) hb1
        have cc2 : ∀ q, wr.cell? ⟨kb2, q, none⟩ = w.cell? ⟨kb2, q, none⟩ := fun q => Hb0.out.cell (p := ⟨kb2, q, none⟩) hb2
        replace c10 := (cc1 _).trans c10
        replace c11 := (cc1 _).trans c11
        replace c12 := (cc1 _).trans c12
        replace c13 := (cc1 _).trans c13
        replace c20 := (cc2 _).trans c20
        replace c21 := (cc2 _).trans c21
        replace c22 := (cc2 _).trans c22
        replace c23 := (cc2 _).trans c23
        have hz2 : kb2 < wr.heap.size := Nat.lt_of_lt_of_le hb2 Hb0.out.size
        clear cc1 cc2
        have hnext : Mt.tok x = Mt.tok y → ∀ (j : Nat) x y, la[j]? = some x → lb[j]? = some y → j < k + 1 → Mt.tok x = Mt.tok y := by
          intro he j x2 y2 hx2 hy2 hj
          rcases Nat.lt_or_ge j k with h5 | h5
          · exact Hk.out j x2 y2 hx2 hy2 h5
          · obtain rfl : j = k := by omega
            rw [hx] at hx2
            rw [hy] at hy2
            cases hx2
            cases hy2
            exact he
        have Hx := Lib.hid hx
        have Hy := Lib.hid hy
        have Hnext := Lib.hid hnext
        clear hx hy hnext
        obtain ⟨k1, t1, n1, l1⟩ := x
        obtain ⟨k2, t2, n2, l2⟩ := y
        simp only at c10 c11 c12 c13 c20 c21 c22 c23
        by_cases hk1 : k1 = k2
        · have e1 : (k1 == k2) = true := by rw [beq_iff_eq]; exact hk1
          cases ht : decide (t1.data.toList = t2.data.toList) with
          | true =>
            have e2b : (t1.toList == t2.toList) = true := str_eq t1 t2 ht
            by_cases hn1 : n1 = n2
            · have e3 : (n1 == n2) = true := by rw [beq_iff_eq]; exact hn1
              have htt : t1.data.toList = t2.data.toList := by simpa using ht
              have Heq := Lib.hid (show Mt.tok ⟨k1, t1, n1, l1⟩ = Mt.tok ⟨k2, t2, n2, l2⟩ by simp only [Mt.tok, hk1, htt, hn1])
              clear hk1 ht hn1 htt
              have Hn := Lib.hid (Hnext.out (Heq.out))
              clear Hnext
              go_wp2_with fail
              go_quiet (fail)
              go_wp2_with fail
              exact ⟨⟨k + 1, by omega, by go_num, Lib.hid (TkrE.below_drewN (Hb0.out.alloc Hb0.out.size _) _), Hn⟩, by simp [intOf]; omega⟩
            · have e3 : (n1 == n2) = false := by rw [beq_eq_false_iff_ne]; exact hn1
              have Hne := Lib.hid hn1
              clear hk1 ht hn1
              have HBf := Lib.hid (show B = false by
                rw [HB.out, same, decide_eq_false_iff_not]
                refine map_no Mt.tok Hx.out Hy.out ?_
                intro e; injection e with _ _ e3; exact Hne.out e3)
              clear HB
              go_wp2_with fail
              go_quiet (fail)
              go_wp2_with fail
              go_ret
              exact ⟨by rw [HBf.out]; rfl, TkrE.below_drewN (Hb0.out.alloc Hb0.out.size _) _⟩
          | false =>
            have e2b : (t1.toList == t2.toList) = false := str_eq t1 t2 ht
            have Hne := Lib.hid (show t1.data.toList ≠ t2.data.toList by simpa using ht)
            clear hk1 ht
            have HBf := Lib.hid (show B = false by
              rw [HB.out, same, decide_eq_false_iff_not]
              refine map_no Mt.tok Hx.out Hy.out ?_
              intro e; injection e with _ e2 _; exact Hne.out e2)
            clear HB
            go_wp2_with fail
            go_quiet (fail)
            go_wp2_with fail
            go_ret
            exact ⟨by rw [HBf.out]; rfl, TkrE.below_drewN (Hb0.out.alloc Hb0.out.size _) _⟩
        · have e1 : (k1 == k2) = false := by rw [beq_eq_false_iff_ne]; exact hk1
          have Hne := Lib.hid hk1
          clear hk1
          have HBf := Lib.hid (show B = false by
            rw [HB.out, same, decide_eq_false_iff_not]
            refine map_no Mt.tok Hx.out Hy.out ?_
            intro e; injection e with e1 _ _; exact Hne.out e1)
          clear HB
          go_wp2_with fail
          go_quiet (fail)
          go_wp2_with fail
          go_ret
          exact ⟨by rw [HBf.out]; rfl, TkrE.below_drewN (Hb0.out.alloc Hb0.out.size _) _⟩
      · obtain rfl : k = la.length := by omega
        have HBt := Lib.hid (show B = true by
          rw [HB.out, same, decide_eq_true_eq]
          exact map_yes Mt.tok hlen (fun j x y hx hy => Hk.out j x y hx hy (List.getElem?_eq_some_iff.1 hx).1))
        clear HB
        go_wp2_with fail
        go_ret
        exact ⟨by rw [HBt.out]; rfl, Hb0.out⟩
  · have d1 : ((la.length : Int) != lb.length) = true := by rw [bne_iff_ne]; omega
    have HB := Lib.hid (show B = false by rw [hB, same, decide_eq_false_iff_not]; exact map_len Mt.tok hlen)
    clear hB
    go_enter Tryd.func9, Tryd.ntmps9
    go_wp2_with fail
    go_ret
    exact ⟨by rw [HB.out]; rfl, Below.refl _ _⟩
end Go.Proofs.YtoinfjdhbopefaaDoor.TkpF
