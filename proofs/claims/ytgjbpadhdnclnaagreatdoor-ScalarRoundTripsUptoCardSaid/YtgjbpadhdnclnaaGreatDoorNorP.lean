/- The program's Norm: a copy, and the one form of NaN. -/
import Derived.Test.YtgjbpadhdnclnaaGreatDoorCloC
import Derived.Test.YtgjbpadhdnclnaaGreatDoorScpA
set_option linter.unusedSimpArgs false
set_option linter.unusedVariables false
namespace Go.Proofs.YtgjbpadhdnclnaaGreatDoor.NorP
open Go.RowKit Nums Byt UtfM UtfS ScaM ScaV ScaA ScaB ScaC ScpM ScpA Opn Val Box CloM CloA CloB CloC

theorem Tree_bits {w : World} {S : Nat → Prop} : ∀ {n : Nat} {v : SV} (b : Nat), b ≤ 18446744073709551615 → Tree w S n v → Tree w S n { v with b := b }
  | 0, _, _, _, h => h.elim
  | n + 1, v, b, hb, ⟨h0, h1, h2, h3, h4⟩ => ⟨⟨h0.k, hb, h0.t, h0.l1, h0.l2, h0.l3, h0.l4⟩, h1, h2, h3, h4⟩
theorem tree_fin {w w0 w1 W : World} {n : Nat} {v : SV} (h0 : w.heap.size + 1 < w0.heap.size) (h : Tree w1 (fun b => w0.heap.size ≤ b ∧ b < w1.heap.size) n v) (k : Agr w w1 W) : Tree W (fun b => w.heap.size ≤ b ∧ b < W.heap.size) n v :=
  Tree.mono (fun b hb => ⟨by have := hb.1; omega, Nat.lt_of_lt_of_le hb.2 k.size⟩) (fun b hb => k.block b (by have := hb.1; omega) hb.2) h
theorem nan_i : (nanN : Int) = 9221120237041090560 := rfl

set_option maxHeartbeats 4000000 in
set_option maxRecDepth 100000 in
theorem norm_p (n : Nat) (v : SV) (w : World) (hv : Tree w (· < w.heap.size) n v) : Calls Tryz.prog 13 #[vv v] w fun e w' => ∃ v', e = .returned (vv v') ∧ sc v' = normV (sc v) ∧ Tree w' (fun b => w.heap.size ≤ b ∧ b < w'.heap.size) n v' ∧ Below w.heap.size w w' := by
  have ok := hv.ok
  have HC := Lib.hid fun w => class_p v.b ok.b w
  have HV := Lib.hid hv
  clear ok hv
  obtain ⟨k, b, t, a1, l1, c1, a2, l2, c2, a3, l3, c3, a4, l4, c4⟩ := v
  simp only [vv] at *
  go_enter Tryz.func13, Tryz.ntmps13
  go_wp2_with fail
  obtain ⟨w0, hw0⟩ : ∃ w0, w0 = (w.alloc (.cells #[.int .i64 k, .int .u64 b, .string t, .slice a1 l1 c1, .slice a2 l2 c2, .slice a3 l3 c3, .slice a4 l4 c4] 28)).alloc (.cells #[.int .i64 0, .int .u64 0, .string ⟨#[]⟩, .slice none 0 0, .slice none 0 0, .slice none 0 0, .slice none 0 0] 28) := ⟨_, rfl⟩
  have ST : Hid (St w w0 k b t (.slice a1 l1 c1) (.slice a2 l2 c2) (.slice a3 l3 c3) (.slice a4 l4 c4)) := Lib.hid (by
    rw [hw0]
    exact ⟨(b7_new w _ _ _ _ _ _ _ _).alloc _, by have := b7_new (w.alloc (.cells #[.int .i64 k, .int .u64 b, .string t, .slice a1 l1 c1, .slice a2 l2 c2, .slice a3 l3 c3, .slice a4 l4 c4] 28)) (.int .i64 0) (.int .u64 0) (.string ⟨#[]⟩) (.slice none 0 0) (.slice none 0 0) (.slice none 0 0) (.slice none 0 0) 28; simpa using this, bt (below_box _ _) (below_box _ _)⟩)
  rw [← hw0]
  clear hw0
  refine (clone_any n ⟨k, b, t, a1, l1, c1, a2, l2, c2, a3, l3, c3, a4, l4, c4⟩ w0 (Old.here (w := w) HV.out ST.out.hb)).mono ?_
  rintro _ w1 ⟨v', rfl, h1, h2, h3, h4, h5, h6, h7, htr, hb⟩
  obtain ⟨xk, xb, xt, xa1, xl1, xc1, xa2, xl2, xc2, xa3, xl3, xc3, xa4, xl4, xc4⟩ := v'
  simp only at h1 h2 h3 h4 h5 h6 h7
  subst h1 h2 h3 h4 h5 h6 h7
  simp only [vv]
  have HS0 := Lib.hid ST.out.br.lt
  replace ST := Lib.hid (ST.out.below hb)
  have HT := Lib.hid htr
  clear htr hb HV
  have ⟨_, p0, p1, p2, p3, p4, p5, p6, pf⟩ := ST.out.bv
  have ⟨_, q0, q1, q2, q3, q4, q5, q6, qf⟩ := ST.out.br
  cases e6 : (xk == 6) with
  | false =>
    have hnv : sc ⟨xk, xb, xt, xa1, xl1, xc1, xa2, xl2, xc2, xa3, xl3, xc3, xa4, xl4, xc4⟩ = normV (sc ⟨xk, xb, xt, a1, xl1, c1, a2, xl2, c2, a3, xl3, c3, a4, xl4, c4⟩) := by
      unfold normV
      rw [if_neg]
      · rfl
      · intro h; have := h.1; simp only [sc] at this; rw [this] at e6; cases e6
    have HN := Lib.hid hnv
    clear hnv
    go_wp2_with fail
    exact bodyPost_ret (v := .agg #[.int .i64 xk, .int .u64 xb, .string xt, .slice xa1 xl1 xc1, .slice xa2 xl2 xc2, .slice xa3 xl3 xc3, .slice xa4 xl4 xc4]) (by simp [results, Tryz.results13, go_sem, q0, q1, q2, q3, q4, q5, q6]) rfl ⟨⟨xk, xb, xt, xa1, xl1, xc1, xa2, xl2, xc2, xa3, xl3, xc3, xa4, xl4, xc4⟩, rfl, HN.out, tree_fin HS0.out HT.out (((((((((((((((Agr.refl w w1).set (by omega) _ _).set (by omega) _ _).set (by omega) _ _).set (by omega) _ _).set (by omega) _ _).set (by omega) _ _).set (by omega) _ _).set (by omega) _ _).set (by omega) _ _).set (by omega) _ _).set (by omega) _ _).set (by omega) _ _).set (by omega) _ _).set (by omega) _ _), ((((((((((((((ST.out.hb.setCell (by simp) _).setCell (by simp) _).setCell (by simp) _).setCell (by simp) _).setCell (by simp) _).setCell (by simp) _).setCell (by simp) _).setCell (by simp) _).setCell (by simp) _).setCell (by simp) _).setCell (by simp) _).setCell (by simp) _).setCell (by simp) _).setCell (by simp) _)⟩
  | true =>
    cases ec : (clsN xb == 0) with
    | false =>
      have hnv : sc ⟨xk, xb, xt, xa1, xl1, xc1, xa2, xl2, xc2, xa3, xl3, xc3, xa4, xl4, xc4⟩ = normV (sc ⟨xk, xb, xt, a1, xl1, c1, a2, xl2, c2, a3, xl3, c3, a4, xl4, c4⟩) := by
        unfold normV
        rw [if_neg]
        · rfl
        · intro h; have := h.2; simp only [sc] at this; rw [this] at ec; cases ec
      have HN := Lib.hid hnv
      clear hnv
      go_wp2_with (go_at_call 40; refine (HC.out _).mono ?_; rintro _ _ ⟨rfl, rfl⟩)
      exact bodyPost_ret (v := .agg #[.int .i64 xk, .int .u64 xb, .string xt, .slice xa1 xl1 xc1, .slice xa2 xl2 xc2, .slice xa3 xl3 xc3, .slice xa4 xl4 xc4]) (by simp [results, Tryz.results13, go_sem, q0, q1, q2, q3, q4, q5, q6]) rfl ⟨⟨xk, xb, xt, xa1, xl1, xc1, xa2, xl2, xc2, xa3, xl3, xc3, xa4, xl4, xc4⟩, rfl, HN.out, tree_fin HS0.out HT.out (((((((((((((((Agr.refl w w1).set (by omega) _ _).set (by omega) _ _).set (by omega) _ _).set (by omega) _ _).set (by omega) _ _).set (by omega) _ _).set (by omega) _ _).set (by omega) _ _).set (by omega) _ _).set (by omega) _ _).set (by omega) _ _).set (by omega) _ _).set (by omega) _ _).set (by omega) _ _), ((((((((((((((ST.out.hb.setCell (by simp) _).setCell (by simp) _).setCell (by simp) _).setCell (by simp) _).setCell (by simp) _).setCell (by simp) _).setCell (by simp) _).setCell (by simp) _).setCell (by simp) _).setCell (by simp) _).setCell (by simp) _).setCell (by simp) _).setCell (by simp) _).setCell (by simp) _)⟩
    | true =>
      have hnv : sc ⟨xk, nanN, xt, xa1, xl1, xc1, xa2, xl2, xc2, xa3, xl3, xc3, xa4, xl4, xc4⟩ = normV (sc ⟨xk, xb, xt, a1, xl1, c1, a2, xl2, c2, a3, xl3, c3, a4, xl4, c4⟩) := by
        unfold normV
        rw [if_pos]
        · rfl
        · exact ⟨eq_of_beq e6, eq_of_beq ec⟩
      have HN := Lib.hid hnv
      have HT2 := Lib.hid (Tree_bits nanN (by unfold nanN; omega) HT.out)
      clear hnv
      go_upto_region 4 with (go_at_call 40; refine (HC.out _).mono ?_; rintro _ _ ⟨rfl, rfl⟩)
      rw [← nan_i]
      have BV := ((((((((ST.out.bv.set0 (.int .i64 xk)).set1 (.int .u64 xb)).set2 (.string xt)).set3 (.slice xa1 xl1 xc1)).set4 (.slice xa2 xl2 xc2)).set5 (.slice xa3 xl3 xc3)).set6 (.slice xa4 xl4 xc4)).set1 (.int .u64 nanN))
      have BR := ((((((((ST.out.br.set_other (q := w.heap.size) (by omega) 0 (.int .i64 xk)).set_other (q := w.heap.size) (by omega) 1 (.int .u64 xb)).set_other (q := w.heap.size) (by omega) 2 (.string xt)).set_other (q := w.heap.size) (by omega) 3 (.slice xa1 xl1 xc1)).set_other (q := w.heap.size) (by omega) 4 (.slice xa2 xl2 xc2)).set_other (q := w.heap.size) (by omega) 5 (.slice xa3 xl3 xc3)).set_other (q := w.heap.size) (by omega) 6 (.slice xa4 xl4 xc4)).set_other (q := w.heap.size) (by omega) 1 (.int .u64 nanN))
      have HW : Below w.heap.size w ((((((((w1.setCell ⟨w.heap.size, 0, none⟩ (.int .i64 xk)).setCell ⟨w.heap.size, 1, none⟩ (.int .u64 xb)).setCell ⟨w.heap.size, 2, none⟩ (.string xt)).setCell ⟨w.heap.size, 3, none⟩ (.slice xa1 xl1 xc1)).setCell ⟨w.heap.size, 4, none⟩ (.slice xa2 xl2 xc2)).setCell ⟨w.heap.size, 5, none⟩ (.slice xa3 xl3 xc3)).setCell ⟨w.heap.size, 6, none⟩ (.slice xa4 xl4 xc4)).setCell ⟨w.heap.size, 1, none⟩ (.int .u64 nanN)) := ((((((((ST.out.hb.setCell (Nat.le_refl _) (.int .i64 xk)).setCell (Nat.le_refl _) (.int .u64 xb)).setCell (Nat.le_refl _) (.string xt)).setCell (Nat.le_refl _) (.slice xa1 xl1 xc1)).setCell (Nat.le_refl _) (.slice xa2 xl2 xc2)).setCell (Nat.le_refl _) (.slice xa3 xl3 xc3)).setCell (Nat.le_refl _) (.slice xa4 xl4 xc4)).setCell (Nat.le_refl _) (.int .u64 nanN))
      have AW : Agr w w1 ((((((((w1.setCell ⟨w.heap.size, 0, none⟩ (.int .i64 xk)).setCell ⟨w.heap.size, 1, none⟩ (.int .u64 xb)).setCell ⟨w.heap.size, 2, none⟩ (.string xt)).setCell ⟨w.heap.size, 3, none⟩ (.slice xa1 xl1 xc1)).setCell ⟨w.heap.size, 4, none⟩ (.slice xa2 xl2 xc2)).setCell ⟨w.heap.size, 5, none⟩ (.slice xa3 xl3 xc3)).setCell ⟨w.heap.size, 6, none⟩ (.slice xa4 xl4 xc4)).setCell ⟨w.heap.size, 1, none⟩ (.int .u64 nanN)) := (((((((((Agr.refl w w1).set (q := w.heap.size) (by omega) 0 (.int .i64 xk)).set (q := w.heap.size) (by omega) 1 (.int .u64 xb)).set (q := w.heap.size) (by omega) 2 (.string xt)).set (q := w.heap.size) (by omega) 3 (.slice xa1 xl1 xc1)).set (q := w.heap.size) (by omega) 4 (.slice xa2 xl2 xc2)).set (q := w.heap.size) (by omega) 5 (.slice xa3 xl3 xc3)).set (q := w.heap.size) (by omega) 6 (.slice xa4 xl4 xc4)).set (q := w.heap.size) (by omega) 1 (.int .u64 nanN))
      clear p0 p1 p2 p3 p4 p5 p6 pf q0 q1 q2 q3 q4 q5 q6 qf
      generalize ((((((((w1.setCell ⟨w.heap.size, 0, none⟩ (.int .i64 xk)).setCell ⟨w.heap.size, 1, none⟩ (.int .u64 xb)).setCell ⟨w.heap.size, 2, none⟩ (.string xt)).setCell ⟨w.heap.size, 3, none⟩ (.slice xa1 xl1 xc1)).setCell ⟨w.heap.size, 4, none⟩ (.slice xa2 xl2 xc2)).setCell ⟨w.heap.size, 5, none⟩ (.slice xa3 xl3 xc3)).setCell ⟨w.heap.size, 6, none⟩ (.slice xa4 xl4 xc4)).setCell ⟨w.heap.size, 1, none⟩ (.int .u64 nanN)) = W at *
      obtain ⟨_, p0, p1, p2, p3, p4, p5, p6, pf⟩ := BV
      obtain ⟨_, q0, q1, q2, q3, q4, q5, q6, qf⟩ := BR
      go_wp2_with fail
      exact bodyPost_ret (v := .agg #[.int .i64 xk, .int .u64 nanN, .string xt, .slice xa1 xl1 xc1, .slice xa2 xl2 xc2, .slice xa3 xl3 xc3, .slice xa4 xl4 xc4]) (by simp [results, Tryz.results13, go_sem, q0, q1, q2, q3, q4, q5, q6]) rfl ⟨⟨xk, nanN, xt, xa1, xl1, xc1, xa2, xl2, xc2, xa3, xl3, xc3, xa4, xl4, xc4⟩, rfl, HN.out, tree_fin HS0.out HT2.out (((((((AW.set (by omega) _ _).set (by omega) _ _).set (by omega) _ _).set (by omega) _ _).set (by omega) _ _).set (by omega) _ _).set (by omega) _ _), (((((((HW.setCell (by simp) _).setCell (by simp) _).setCell (by simp) _).setCell (by simp) _).setCell (by simp) _).setCell (by simp) _).setCell (by simp) _)⟩
end Go.Proofs.YtgjbpadhdnclnaaGreatDoor.NorP
