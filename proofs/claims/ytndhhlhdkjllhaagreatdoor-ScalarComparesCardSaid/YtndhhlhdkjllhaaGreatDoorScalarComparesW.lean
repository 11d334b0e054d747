/- The walk of the law ScalarCompares. -/
import Derived.Test.YtndhhlhdkjllhaaGreatDoorScalarNormsW
import Derived.Test.YtndhhlhdkjllhaaGreatDoorCmpP
set_option linter.unusedSimpArgs false
set_option linter.unusedVariables false
namespace Go.Proofs.YtndhhlhdkjllhaaGreatDoor.ScalarComparesW
open Go.RowKit Nums Byt UtfM UtfS ScaM ScaV ScaA ScaB ScaC ScaS ScpM ScpA ScpE Ld Box Val CloM CloB CloC NorP CmpP ScalarKindsW ScalarNormsW

theorem cmpR_neg (x y : Int) : cmpR y x = -cmpR x y := by
  unfold cmpR
  repeat' split
  all_goals first
    | rfl
    | (exfalso; omega)
theorem bytes_neg : ∀ (a b : List UInt8), Lib.compareBytes b a = -Lib.compareBytes a b
  | [], [] => rfl
  | [], _ :: _ => rfl
  | _ :: _, [] => rfl
  | a :: xs, b :: ys => by
    unfold Lib.compareBytes
    rcases u8_lt_or a b with h | h | h
    · have h1 : ¬ b < a := by rw [UInt8.lt_iff_toNat_lt] at *; omega
      simp [h, h1]
    · have h1 : ¬ a < b := by rw [UInt8.lt_iff_toNat_lt] at *; omega
      simp [h, h1]
    · subst h
      have h1 : ¬ a < a := by rw [UInt8.lt_iff_toNat_lt]; omega
      rw [if_neg h1, if_neg h1, if_neg h1, if_neg h1, bytes_neg xs ys]
theorem bytes_self : ∀ (a : List UInt8), Lib.compareBytes a a = 0
  | [] => rfl
  | a :: xs => by
    have h1 : ¬ a < a := by rw [UInt8.lt_iff_toNat_lt]; omega
    unfold Lib.compareBytes
    rw [if_neg h1, if_neg h1, bytes_self xs]
/-- Comparing at one kind. -/
def cmpC (k : Int) (b b' : Nat) (t t' : List UInt8) : Int :=
  if k = 2 ∨ k = 3 then cmpR (sI b) (sI b') else if k = 7 ∨ k = 8 then Lib.compareBytes t t' else if k = 6 then cmpR (rankD b) (rankD b') else if k = 1 ∨ k = 4 ∨ k = 5 ∨ k = 9 then cmpR b b' else 0
theorem cmpQ_lt {k k' : Int} (h : k < k') (b b' : Nat) (t t' : List UInt8) : cmpQ k k' b b' t t' = -1 := by unfold cmpQ; rw [if_pos h]
theorem cmpQ_gt {k k' : Int} (h : k' < k) (b b' : Nat) (t t' : List UInt8) : cmpQ k k' b b' t t' = 1 := by unfold cmpQ; rw [if_neg (show ¬ k < k' by omega), if_pos h]
theorem cmpQ_eq (k : Int) (b b' : Nat) (t t' : List UInt8) : cmpQ k k b b' t t' = cmpC k b b' t t' := by unfold cmpQ; rw [if_neg (show ¬ k < k by omega), if_neg (show ¬ k < k by omega)]; rfl
theorem cmpC_neg (k : Int) (b b' : Nat) (t t' : List UInt8) : cmpC k b' b t' t = -cmpC k b b' t t' := by
  unfold cmpC
  by_cases h1 : k = 2 ∨ k = 3
  · rw [if_pos h1, if_pos h1]; exact cmpR_neg _ _
  · rw [if_neg h1, if_neg h1]
    by_cases h2 : k = 7 ∨ k = 8
    · rw [if_pos h2, if_pos h2]; exact bytes_neg _ _
    · rw [if_neg h2, if_neg h2]
      by_cases h3 : k = 6
      · rw [if_pos h3, if_pos h3]; exact cmpR_neg _ _
      · rw [if_neg h3, if_neg h3]
        by_cases h4 : k = 1 ∨ k = 4 ∨ k = 5 ∨ k = 9
        · rw [if_pos h4, if_pos h4]; exact cmpR_neg _ _
        · rw [if_neg h4, if_neg h4]; rfl
theorem cmp_neg (a b : Sc) : cmpP b a = -cmpP a b := by
  unfold cmpP
  rcases Int.lt_trichotomy a.k b.k with h | h | h
  · rw [cmpQ_gt h, cmpQ_lt h]; rfl
  · rw [← h, cmpQ_eq, cmpQ_eq]; exact cmpC_neg _ _ _ _ _
  · rw [cmpQ_lt h, cmpQ_gt h]
theorem norm_k (a : Sc) : (normV a).k = a.k := by unfold normV; split <;> rfl
theorem norm_t (a : Sc) : (normV a).t = a.t := by unfold normV; split <;> rfl
theorem norm_b (a : Sc) (h : a.k ≠ 6) : (normV a).b = a.b := by
  unfold normV
  rw [if_neg]
  intro h2
  exact h h2.1
theorem norm_rank (a : Sc) : rankD (normV a).b = rankD a.b := by
  unfold normV
  split
  · rename_i h
    have h1 : rankD nanN = 18446744073709551615 := by decide +kernel
    have h2 : rankD a.b = 18446744073709551615 := by unfold rankD; rw [if_pos h.2]
    rw [h1, h2]
  · rfl
theorem cmpC_norm (a b : Sc) (h : a.k = b.k) : cmpC a.k (normV a).b (normV b).b a.t b.t = cmpC a.k a.b b.b a.t b.t := by
  by_cases h6 : a.k = 6
  · unfold cmpC
    rw [if_neg (show ¬ (a.k = 2 ∨ a.k = 3) by omega), if_neg (show ¬ (a.k = 7 ∨ a.k = 8) by omega), if_pos h6, if_neg (show ¬ (a.k = 2 ∨ a.k = 3) by omega), if_neg (show ¬ (a.k = 7 ∨ a.k = 8) by omega), if_pos h6, norm_rank, norm_rank]
  · rw [norm_b a h6, norm_b b (by omega)]
theorem cmp_norm (a b : Sc) : cmpP (normV a) (normV b) = cmpP a b := by
  unfold cmpP
  rw [norm_k, norm_k, norm_t, norm_t]
  rcases Int.lt_trichotomy a.k b.k with h | h | h
  · rw [cmpQ_lt h, cmpQ_lt h]
  · rw [← h, cmpQ_eq, cmpQ_eq]; exact cmpC_norm a b h
  · rw [cmpQ_gt h, cmpQ_gt h]
theorem cmpC_self (k : Int) (b : Nat) (t : List UInt8) : cmpC k b b t t = 0 := by
  unfold cmpC
  repeat' split
  all_goals first
    | exact cmpR_eq _
    | exact bytes_self _
    | rfl
theorem cmp_self_norm (a : Sc) : cmpP a (normV a) = 0 := by
  unfold cmpP
  rw [norm_k, norm_t, cmpQ_eq]
  by_cases h6 : a.k = 6
  · unfold cmpC
    rw [if_neg (show ¬ (a.k = 2 ∨ a.k = 3) by omega), if_neg (show ¬ (a.k = 7 ∨ a.k = 8) by omega), if_pos h6, norm_rank]
    exact cmpR_eq _
  · rw [norm_b a h6]
    exact cmpC_self _ _ _
theorem cmpR_range (x y : Int) : cmpR x y = -1 ∨ cmpR x y = 0 ∨ cmpR x y = 1 := by
  unfold cmpR
  split
  · exact .inl rfl
  · split
    · exact .inr (.inr rfl)
    · exact .inr (.inl rfl)
theorem bytes_range (x y : List UInt8) : Lib.compareBytes x y = -1 ∨ Lib.compareBytes x y = 0 ∨ Lib.compareBytes x y = 1 := by
  rw [bytes_cmp]
  split
  · exact .inl rfl
  · split
    · exact .inr (.inl rfl)
    · exact .inr (.inr rfl)
theorem cmp_range (a b : Sc) : cmpP a b = -1 ∨ cmpP a b = 0 ∨ cmpP a b = 1 := by
  unfold cmpP cmpQ
  repeat' split
  all_goals first
    | exact .inl rfl
    | exact .inr (.inr rfl)
    | exact .inr (.inl rfl)
    | exact cmpR_range _ _
    | exact bytes_range _ _

set_option maxHeartbeats 4000000 in
set_option maxRecDepth 100000 in
theorem walk (v : SV) (n : Nat) (u : SV) (n' : Nat) (w : World) (hv : Tree w (· < w.heap.size) n v) (hu : Tree w (· < w.heap.size) n' u) (hL : Ld w) :
    Calls Tryz.prog 7 #[vv v, vv u] w fun e w' => e = .returned (.bool true) ∧ Below w.heap.size w w' := by
  have ok := hv.ok
  have ok' := hu.ok
  obtain ⟨c, hc⟩ : ∃ c, c = cmpP (sc v) (sc u) := ⟨_, rfl⟩
  have C1 := Lib.hid fun w => cmp_p v u ok.b ok'.b w
  have CBA := Lib.hid fun w => cmp_p u v ok'.b ok.b w
  have RC := Lib.hid fun w => ScaG.cmp_any v u ok.b ok'.b w
  have hcv : cmpV (sc v) (sc u) = c := by rw [hc]; exact (cmpP_eq _ _ ok.b ok'.b).symm
  have hnn : cmpP (normV (sc v)) (normV (sc u)) = c := by rw [hc]; exact cmp_norm _ _
  rw [hcv] at RC
  have NN := Lib.hid hnn
  have hr : c = -1 ∨ c = 0 ∨ c = 1 := by rw [hc]; exact cmp_range _ _
  have hba : cmpP (sc u) (sc v) = IntKind.i64.wrap (-c) := by
    rw [cmp_neg (sc v) (sc u), ← hc]
    rcases hr with e | e | e <;> rw [e] <;> decide
  rw [← hc] at C1
  rw [hba] at CBA
  have BD := Lib.hid ok.b
  have HV := Lib.hid hv
  have HU := Lib.hid hu
  clear hc hba hcv hnn ok ok' hv hu
  obtain ⟨k, b, t, a1, l1, c1, a2, l2, c2, a3, l3, c3, a4, l4, c4⟩ := v
  obtain ⟨k', b', t', a1', l1', c1', a2', l2', c2', a3', l3', c3', a4', l4', c4'⟩ := u
  simp only [vv] at *
  clear hr
  go_enter Tryz.func7, Tryz.ntmps7
  go_wp2_with (go_at_call 30; refine (C1.out _).mono ?_; rintro _ w1 ⟨rfl, hb⟩)
  have BA := (((b7_new w (.int .i64 k) (.int .u64 b) (.string t) (.slice a1 l1 c1) (.slice a2 l2 c2) (.slice a3 l3 c3) (.slice a4 l4 c4) 28).alloc (.cells #[.int .i64 k', .int .u64 b', .string t', .slice a1' l1' c1', .slice a2' l2' c2', .slice a3' l3' c3', .slice a4' l4' c4'] 28)).below hb).drew
  have BB' := (b7_new (w.alloc (.cells #[.int .i64 k, .int .u64 b, .string t, .slice a1 l1 c1, .slice a2 l2 c2, .slice a3 l3 c3, .slice a4 l4 c4] 28)) (.int .i64 k') (.int .u64 b') (.string t') (.slice a1' l1' c1') (.slice a2' l2' c2') (.slice a3' l3' c3') (.slice a4' l4' c4') 28)
  rw [show (w.alloc (.cells #[.int .i64 k, .int .u64 b, .string t, .slice a1 l1 c1, .slice a2 l2 c2, .slice a3 l3 c3, .slice a4 l4 c4] 28)).heap.size = w.heap.size + 1 from by simp] at BB'
  have BB := (BB'.below hb).drew
  have HB := (bt (two_box _ _ _) hb).drew
  have TA := treeB HV.out HB
  have TB := treeB HU.out HB
  replace hL := hL.below HB
  clear hb BB' HV HU
  go_region_held3 (fun w' => (w'.cell? ⟨w.heap.size, 0, none⟩ = some (.int .i64 k) ∧ w'.cell? ⟨w.heap.size, 1, none⟩ = some (.int .u64 b) ∧ w'.cell? ⟨w.heap.size, 2, none⟩ = some (.string t) ∧ w'.cell? ⟨w.heap.size, 3, none⟩ = some (.slice a1 l1 c1) ∧ w'.cell? ⟨w.heap.size, 4, none⟩ = some (.slice a2 l2 c2) ∧ w'.cell? ⟨w.heap.size, 5, none⟩ = some (.slice a3 l3 c3) ∧ w'.cell? ⟨w.heap.size, 6, none⟩ = some (.slice a4 l4 c4)) ∧ (w'.cell? ⟨w.heap.size + 1, 0, none⟩ = some (.int .i64 k') ∧ w'.cell? ⟨w.heap.size + 1, 1, none⟩ = some (.int .u64 b') ∧ w'.cell? ⟨w.heap.size + 1, 2, none⟩ = some (.string t') ∧ w'.cell? ⟨w.heap.size + 1, 3, none⟩ = some (.slice a1' l1' c1') ∧ w'.cell? ⟨w.heap.size + 1, 4, none⟩ = some (.slice a2' l2' c2') ∧ w'.cell? ⟨w.heap.size + 1, 5, none⟩ = some (.slice a3' l3' c3') ∧ w'.cell? ⟨w.heap.size + 1, 6, none⟩ = some (.slice a4' l4' c4'))) (with_reducible exact ⟨BA.cells, BB.cells⟩)
    (first
        | (go_at_call 31; refine (RC.out _).mono ?_; rintro _ w2 ⟨rfl, hb⟩; have BA := BA.below hb; have BB := BB.below hb; have HB := bt HB hb; have hL := hL.below hb; have TA := treeB TA hb; have TB := treeB TB hb; clear hb)
        | (go_at_call_of 30 (Value.agg #[.int .i64 k', .int .u64 b', .string t', .slice a1' l1' c1', .slice a2' l2' c2', .slice a3' l3' c3', .slice a4' l4' c4']); refine (CBA.out _).mono ?_; rintro _ w2 ⟨rfl, hb⟩; have BA := BA.below hb; have BB := BB.below hb; have HB := bt HB hb; have hL := hL.below hb; have TA := treeB TA hb; have TB := treeB TB hb; clear hb)
        | (go_at_call_of 22 (Value.agg #[.int .i64 k', .int .u64 b', .string t', .slice a1' l1' c1', .slice a2' l2' c2', .slice a3' l3' c3', .slice a4' l4' c4']); refine (norm_p n' ⟨k', b', t', a1', l1', c1', a2', l2', c2', a3', l3', c3', a4', l4', c4'⟩ _ TB).mono ?_; rintro _ w2 ⟨y, rfl, hy, ty, hb⟩; have OY := ty.ok; have BA := BA.below hb; have BB := BB.below hb; have HB := bt HB hb; have hL := hL.below hb; have TA := treeB TA hb; have TB := treeB TB hb; clear hb; have HY := Lib.hid hy; clear hy ty; obtain ⟨yk, yb, yt, ya1, yl1, yc1, ya2, yl2, yc2, ya3, yl3, yc3, ya4, yl4, yc4⟩ := y; simp only [vv])
        | (go_at_call_of 22 (Value.agg #[.int .i64 k, .int .u64 b, .string t, .slice a1 l1 c1, .slice a2 l2 c2, .slice a3 l3 c3, .slice a4 l4 c4]); refine (norm_p n ⟨k, b, t, a1, l1, c1, a2, l2, c2, a3, l3, c3, a4, l4, c4⟩ _ TA).mono ?_; rintro _ w2 ⟨x, rfl, hx, tx, hb⟩; have OX := tx.ok; have BA := BA.below hb; have BB := BB.below hb; have HB := bt HB hb; have hL := hL.below hb; have TA := treeB TA hb; have TB := treeB TB hb; clear hb; have HX := Lib.hid hx; clear hx tx; obtain ⟨xk, xb, xt, xa1, xl1, xc1, xa2, xl2, xc2, xa3, xl3, xc3, xa4, xl4, xc4⟩ := x; simp only [vv])
        | (go_at_call_of 30 (Value.agg #[.int .i64 yk, .int .u64 yb, .string yt, .slice ya1 yl1 yc1, .slice ya2 yl2 yc2, .slice ya3 yl3 yc3, .slice ya4 yl4 yc4]); refine (cmp_p ⟨xk, xb, xt, xa1, xl1, xc1, xa2, xl2, xc2, xa3, xl3, xc3, xa4, xl4, xc4⟩ ⟨yk, yb, yt, ya1, yl1, yc1, ya2, yl2, yc2, ya3, yl3, yc3, ya4, yl4, yc4⟩ OX.b OY.b _).mono ?_; rintro _ w2 ⟨rfl, hb⟩; rw [show cmpP (sc ⟨xk, xb, xt, xa1, xl1, xc1, xa2, xl2, xc2, xa3, xl3, xc3, xa4, xl4, xc4⟩) (sc ⟨yk, yb, yt, ya1, yl1, yc1, ya2, yl2, yc2, ya3, yl3, yc3, ya4, yl4, yc4⟩) = c from (by rw [HX.out, HY.out]; exact NN.out)]; have BA := BA.below hb; have BB := BB.below hb; have HB := bt HB hb; have hL := hL.below hb; have TA := treeB TA hb; have TB := treeB TB hb; clear hb)
        | (go_at_call_of 30 (Value.agg #[.int .i64 xk, .int .u64 xb, .string xt, .slice xa1 xl1 xc1, .slice xa2 xl2 xc2, .slice xa3 xl3 xc3, .slice xa4 xl4 xc4]); refine (cmp_p ⟨k, b, t, a1, l1, c1, a2, l2, c2, a3, l3, c3, a4, l4, c4⟩ ⟨xk, xb, xt, xa1, xl1, xc1, xa2, xl2, xc2, xa3, xl3, xc3, xa4, xl4, xc4⟩ BD.out OX.b _).mono ?_; rintro _ w2 ⟨rfl, hb⟩; rw [show cmpP (sc ⟨k, b, t, a1, l1, c1, a2, l2, c2, a3, l3, c3, a4, l4, c4⟩) (sc ⟨xk, xb, xt, xa1, xl1, xc1, xa2, xl2, xc2, xa3, xl3, xc3, xa4, xl4, xc4⟩) = 0 from (by rw [HX.out]; exact cmp_self_norm _)]; have BA := BA.below hb; have BB := BB.below hb; have HB := bt HB hb; have hL := hL.below hb; have TA := treeB TA hb; have TB := treeB TB hb; clear hb)
        | (go_at_call 21; refine (awake_any _ hL).mono ?_; rintro _ w2 ⟨rfl, hb⟩; have BA := BA.below hb; have BB := BB.below hb; have HB := bt HB hb; have hL := hL.below hb; have TA := treeB TA hb; have TB := treeB TB hb; clear hb))
  all_goals
    go_wp2_with fail
    go_ret
    exact ⟨rfl, HB⟩
end Go.Proofs.YtndhhlhdkjllhaaGreatDoor.ScalarComparesW
