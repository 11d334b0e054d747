/- The program's clone of a value: a value of the same numbers, its parts in memory of the call's own, as deep. -/
import Derived.Test.YtgjbpadhdnclnaaGreatDoorCloB
import Derived.Test.YtgjbpadhdnclnaaGreatDoorScaB
import Derived.Deep.RegionHeld3
import Derived.LoopTactic
set_option linter.unusedSimpArgs false
set_option linter.unusedVariables false
namespace Go.Proofs.YtgjbpadhdnclnaaGreatDoor.CloC
open Go.RowKit Nums Byt UtfM UtfS ScaM ScaV ScaA ScaB Opn Val Box CloM CloA CloB

def CloneHas (n : Nat) : Prop := ∀ (v : SV) (w : World), Tree w (· < w.heap.size) n v → Calls Tryz.prog 39 #[vv v] w fun e w' => ∃ v', e = .returned (vv v') ∧ v'.k = v.k ∧ v'.b = v.b ∧ v'.t = v.t ∧ v'.l1 = v.l1 ∧ v'.l2 = v.l2 ∧ v'.l3 = v.l3 ∧ v'.l4 = v.l4 ∧
  Tree w' (fun b => w.heap.size ≤ b ∧ b < w'.heap.size) n v' ∧ Below w.heap.size w w'
theorem c7 {w : World} {k : Nat} {v0 v1 v2 v3 v4 v5 v6 : Value} (h : BoxL w k [v0, v1, v2, v3, v4, v5, v6]) : w.cell? ⟨k, 0, none⟩ = some v0 ∧ w.cell? ⟨k, 1, none⟩ = some v1 ∧ w.cell? ⟨k, 2, none⟩ = some v2 ∧ w.cell? ⟨k, 3, none⟩ = some v3 ∧ w.cell? ⟨k, 4, none⟩ = some v4 ∧ w.cell? ⟨k, 5, none⟩ = some v5 ∧ w.cell? ⟨k, 6, none⟩ = some v6 :=
  ⟨h.at_ 0 _ rfl, h.at_ 1 _ rfl, h.at_ 2 _ rfl, h.at_ 3 _ rfl, h.at_ 4 _ rfl, h.at_ 5 _ rfl, h.at_ 6 _ rfl⟩
theorem c8 {w : World} {k : Nat} {v0 v1 v2 v3 v4 v5 v6 v7 : Value} (h : BoxL w k [v0, v1, v2, v3, v4, v5, v6, v7]) : w.cell? ⟨k, 0, none⟩ = some v0 ∧ w.cell? ⟨k, 1, none⟩ = some v1 ∧ w.cell? ⟨k, 2, none⟩ = some v2 ∧ w.cell? ⟨k, 3, none⟩ = some v3 ∧ w.cell? ⟨k, 4, none⟩ = some v4 ∧ w.cell? ⟨k, 5, none⟩ = some v5 ∧ w.cell? ⟨k, 6, none⟩ = some v6 ∧ w.cell? ⟨k, 7, none⟩ = some v7 :=
  ⟨h.at_ 0 _ rfl, h.at_ 1 _ rfl, h.at_ 2 _ rfl, h.at_ 3 _ rfl, h.at_ 4 _ rfl, h.at_ 5 _ rfl, h.at_ 6 _ rfl, h.at_ 7 _ rfl⟩
theorem c14 {w : World} {k : Nat} {v0 v1 v2 v3 v4 v5 v6 v7 v8 v9 v10 v11 v12 v13 : Value} (h : BoxL w k [v0, v1, v2, v3, v4, v5, v6, v7, v8, v9, v10, v11, v12, v13]) : w.cell? ⟨k, 0, none⟩ = some v0 ∧ w.cell? ⟨k, 1, none⟩ = some v1 ∧ w.cell? ⟨k, 2, none⟩ = some v2 ∧ w.cell? ⟨k, 3, none⟩ = some v3 ∧ w.cell? ⟨k, 4, none⟩ = some v4 ∧ w.cell? ⟨k, 5, none⟩ = some v5 ∧ w.cell? ⟨k, 6, none⟩ = some v6 ∧ w.cell? ⟨k, 7, none⟩ = some v7 ∧ w.cell? ⟨k, 8, none⟩ = some v8 ∧ w.cell? ⟨k, 9, none⟩ = some v9 ∧ w.cell? ⟨k, 10, none⟩ = some v10 ∧ w.cell? ⟨k, 11, none⟩ = some v11 ∧ w.cell? ⟨k, 12, none⟩ = some v12 ∧ w.cell? ⟨k, 13, none⟩ = some v13 :=
  ⟨h.at_ 0 _ rfl, h.at_ 1 _ rfl, h.at_ 2 _ rfl, h.at_ 3 _ rfl, h.at_ 4 _ rfl, h.at_ 5 _ rfl, h.at_ 6 _ rfl, h.at_ 7 _ rfl, h.at_ 8 _ rfl, h.at_ 9 _ rfl, h.at_ 10 _ rfl, h.at_ 11 _ rfl, h.at_ 12 _ rfl, h.at_ 13 _ rfl⟩
theorem shape4_imp {T T' : SV → Prop} (h : ∀ u, T u → T' u) {cs : List Value} : rawC cs → rawC cs := id
theorem one1 {T : SV → Prop} : ∀ cs, shape1 T cs → ∀ u ∈ cs, u.oneCell' = true := fun cs ⟨u, hu, _⟩ => by rw [hu]; exact oneV u
theorem one2 {T : SV → Prop} : ∀ cs, shape2 T cs → ∀ u ∈ cs, u.oneCell' = true := fun cs ⟨u, u', hu, _⟩ => by
  rw [hu]; intro x hx
  rcases List.mem_append.1 hx with h | h
  · exact oneV u x h
  · exact oneV u' x h
theorem one3 {T : SV → Prop} : ∀ cs, shape3 T cs → ∀ u ∈ cs, u.oneCell' = true := fun cs ⟨m, u, hu, _⟩ => by
  rw [hu]; intro x hx
  rcases List.mem_cons.1 hx with rfl | h
  · rfl
  · exact oneV u x h

set_option maxHeartbeats 40000000 in
set_option maxRecDepth 100000 in
theorem step (n : Nat) (ih : CloneHas n) : CloneHas (n + 1) := by
  intro v w hv
  obtain ⟨ok, R1, R2, R3, R4⟩ := hv
  have C1 := Lib.hid fun w' (hr : Row w' (· < w.heap.size) 7 v.a1 v.l1 v.c1 (shape1 (Old w n))) => cloneV v.a1 v.l1 v.c1 (shape1 (Old w n)) w' (· < w.heap.size) hr ok.l1 one1
  have H1 : Hid (Row w (· < w.heap.size) 7 v.a1 v.l1 v.c1 (shape1 (Old w n))) := Lib.hid R1
  have C2 := Lib.hid fun w' (hr : Row w' (· < w.heap.size) 14 v.a2 v.l2 v.c2 (shape2 (Old w n))) => cloneP v.a2 v.l2 v.c2 (shape2 (Old w n)) w' (· < w.heap.size) hr ok.l2 one2
  have H2 : Hid (Row w (· < w.heap.size) 14 v.a2 v.l2 v.c2 (shape2 (Old w n))) := Lib.hid R2
  have C3 := Lib.hid fun w' (hr : Row w' (· < w.heap.size) 8 v.a3 v.l3 v.c3 (shape3 (Old w n))) => cloneS v.a3 v.l3 v.c3 (shape3 (Old w n)) w' (· < w.heap.size) hr ok.l3 one3
  have H3 : Hid (Row w (· < w.heap.size) 8 v.a3 v.l3 v.c3 (shape3 (Old w n))) := Lib.hid R3
  have C4 := Lib.hid fun w' (hr : Row w' (· < w.heap.size) 4 v.a4 v.l4 v.c4 rawC) => cloneR v.a4 v.l4 v.c4 rawC w' (· < w.heap.size) hr ok.l4 (fun _ h => oneR h)
  have H4 := Lib.hid R4
  have IH := Lib.hid ih
  have OK := Lib.hid ok
  clear ih ok R1 R2 R3 R4
  obtain ⟨k, b, t, a1, l1, c1, a2, l2, c2, a3, l3, c3, a4, l4, c4⟩ := v
  simp only [vv] at *
  go_enter Tryz.func39, Tryz.ntmps39
  go_wp2_with fail
  obtain ⟨w0, hw0⟩ : ∃ w0, w0 = (w.alloc (.cells #[.int .i64 k, .int .u64 b, .string t, .slice a1 l1 c1, .slice a2 l2 c2, .slice a3 l3 c3, .slice a4 l4 c4] 28)).alloc (.cells #[.int .i64 0, .int .u64 0, .string ⟨#[]⟩, .slice none 0 0, .slice none 0 0, .slice none 0 0, .slice none 0 0] 28) := ⟨_, rfl⟩
  have ST : Hid (St w w0 k b t (.slice a1 l1 c1) (.slice a2 l2 c2) (.slice a3 l3 c3) (.slice a4 l4 c4)) := Lib.hid (by
    rw [hw0]
    exact ⟨(b7_new w _ _ _ _ _ _ _ _).alloc _, by have := b7_new (w.alloc (.cells #[.int .i64 k, .int .u64 b, .string t, .slice a1 l1 c1, .slice a2 l2 c2, .slice a3 l3 c3, .slice a4 l4 c4] 28)) (.int .i64 0) (.int .u64 0) (.string ⟨#[]⟩) (.slice none 0 0) (.slice none 0 0) (.slice none 0 0) (.slice none 0 0) 28; simpa using this, bt (below_box _ _) (below_box _ _)⟩)
  have AG : Hid (Agr w w0 w0) := Lib.hid (Agr.refl _ _)
  rw [← hw0]
  clear hw0
  refine (C1.out _ (H1.out.mono (fun _ h => h) (fun b hb => ST.out.hb.block b hb) (fun _ h => h))).mono ?_
  rintro _ ww1 ⟨vv1, nn1, rfl, ho, hp, hb⟩
  obtain ⟨a1', c1', rfl, hc, hn, hg⟩ := blk_of_own ho hp
  have HC1 := Lib.hid hc
  have HN1 := Lib.hid hn
  have HG1 := Lib.hid hg
  have HB1 : Hid (w.heap.size + 1 < w0.heap.size) := Lib.hid ST.out.br.lt
  have AG' := Lib.hid (AG.out.below hb)
  have AGB : Hid (w0.heap.size ≤ w0.heap.size) := Lib.hid (Nat.le_refl _)
  have HM1 : Hid (w0.heap.size ≤ w0.heap.size) := Lib.hid (Nat.le_refl _)
  replace ST := Lib.hid (ST.out.below hb)
  clear ho hp hb hc hn hg AGB
  have ⟨_, p0, p1, p2, p3, p4, p5, p6, pf⟩ := ST.out.bv
  go_wp2_with fail
  clear p0 p1 p2 p3 p4 p5 p6 pf
  go_loopw [16] (fun x wr => ∃ i : Nat, i ≤ l1 ∧ x = .int .i64 i ∧ Hid (St w wr k b t (.slice a1' l1 c1') (.slice a2 l2 c2) (.slice a3 l3 c3) (.slice a4 l4 c4)) ∧ Hid (El shape1 7 w0.heap.size w wr a1' l1 i n) ∧ Hid (Agr w w0 wr)) (fun x _ => l1 - (intOf x).toNat)
  case atStart => exact ⟨0, Nat.zero_le _, rfl, Lib.hid ⟨ST.out.bv.set3 _, ST.out.br.set_other (by omega) _ _, ST.out.hb.setCell (Nat.le_refl _) _⟩, Lib.hid (El_start HG1.out (Nat.le_refl _) (by have := HB1.out; omega)), Lib.hid (AG'.out.set (by omega) _ _)⟩
  case round =>
    obtain ⟨i, hi, rfl, ST', EL, AG''⟩ := hrel
    clear ST AG AG'
    by_cases hlt : i < l1
    · obtain ⟨g, rfl, hgk, BL⟩ := EL.out (by omega)
      obtain ⟨cs, hcs, ⟨u, rfl, hu⟩, hce⟩ := BL.at_ i hlt
      rw [if_neg (by omega)] at hu
      have HUu := Lib.hid hu
      have HBL := Lib.hid BL
      have HE := Lib.hid hce
      clear BL hcs hce hu
      obtain ⟨uk, ub, ut, ua1, ul1, uc1, ua2, ul2, uc2, ua3, ul3, uc3, ua4, ul4, uc4⟩ := u
      have E : CL wr g (i * 7) [.int .i64 uk, .int .u64 ub, .string ut, .slice ua1 ul1 uc1, .slice ua2 ul2 uc2, .slice ua3 ul3 uc3, .slice ua4 ul4 uc4] := ⟨HBL.out.lt, HBL.out.fz, fun j u hj => HE.out j u hj⟩
      have e0 := E.at_ 0 _ rfl
      have e1 := E.at_ 1 _ rfl
      have e2 := E.at_ 2 _ rfl
      have e3 := E.at_ 3 _ rfl
      have e4 := E.at_ 4 _ rfl
      have e5 := E.at_ 5 _ rfl
      have e6 := E.at_ 6 _ rfl
      simp only [Nat.add_zero] at e0
      have hlc := HC1.out
      have hbX : Below wr.heap.size wr (wr.alloc (.cells #[.int .i64 uk, .int .u64 ub, .string ut, .slice ua1 ul1 uc1, .slice ua2 ul2 uc2, .slice ua3 ul3 uc3, .slice ua4 ul4 uc4] 28)).drew := (below_box _ _).drew
      have STX := ST'.out.below hbX
      have EX := E.below hbX
      have BX := (boxL_new wr [.int .i64 uk, .int .u64 ub, .string ut, .slice ua1 ul1 uc1, .slice ua2 ul2 uc2, .slice ua3 ul3 uc3, .slice ua4 ul4 uc4] 28).drew
      have BLX := Lib.hid (El_below shape1.imp HBL.out hbX)
      have AGX := AG''.out.below hbX
      have hll : l1 * 128 ≤ 140737488351232 := OK.out.l1
      have hw : wrap64 ((i : Int) + 1) = ((i + 1 : Nat) : Int) := by unfold wrap64; omega
      clear hll
      have hbase := HB1.out
      have hne1 : w.heap.size ≠ g := by omega
      have hne2 : wr.heap.size ≠ g := by have := HBL.out.lt; omega
      have hgl := Nat.lt_of_lt_of_le HBL.out.lt hbX.size
      go_wp2_with fail
      clear hbase e0 e1 e2 e3 e4 e5 e6
      go_region_held3 (fun w' => w'.cell? ⟨w.heap.size, 3, none⟩ = some (.slice (some ⟨g, 0, none⟩) l1 c1') ∧ (w'.cell? ⟨wr.heap.size, 0, none⟩ = some (.int .i64 uk) ∧ w'.cell? ⟨wr.heap.size, 1, none⟩ = some (.int .u64 ub) ∧ w'.cell? ⟨wr.heap.size, 2, none⟩ = some (.string ut) ∧ w'.cell? ⟨wr.heap.size, 3, none⟩ = some (.slice ua1 ul1 uc1) ∧ w'.cell? ⟨wr.heap.size, 4, none⟩ = some (.slice ua2 ul2 uc2) ∧ w'.cell? ⟨wr.heap.size, 5, none⟩ = some (.slice ua3 ul3 uc3) ∧ w'.cell? ⟨wr.heap.size, 6, none⟩ = some (.slice ua4 ul4 uc4))) (first | with_reducible exact ⟨STX.bv.c3, c7 BX⟩ | with_reducible exact ⟨(((((((STX.bv.set_other hne1 _ _).set_other hne1 _ _).set_other hne1 _ _).set_other hne1 _ _).set_other hne1 _ _).set_other hne1 _ _).set_other hne1 _ _).c3, c7 (((((((BX.set_other hne2 _ _).set_other hne2 _ _).set_other hne2 _ _).set_other hne2 _ _).set_other hne2 _ _).set_other hne2 _ _).set_other hne2 _ _)⟩)
        (first
          | (go_at_call 39; refine (IH.out ⟨uk, ub, ut, ua1, ul1, uc1, ua2, ul2, uc2, ua3, ul3, uc3, ua4, ul4, uc4⟩ _ (HUu.out.here STX.hb)).mono ?_; rintro _ w2 ⟨x, rfl, _, _, _, _, _, _, _, htr, hb2⟩; have Tx := new_of (g := g) hgl htr; have hgl := Nat.lt_of_lt_of_le hgl hb2.size; have STX := STX.below hb2; have BX := BX.below hb2; have EX := EX.below hb2; have AGX := AGX.below hb2; have BLX := Lib.hid (El_below shape1.imp BLX.out hb2); clear htr hb2; have F := EX.fz; have f0 := EX.at_ 0 _ rfl; have f1 := EX.at_ 1 _ rfl; have f2 := EX.at_ 2 _ rfl; have f3 := EX.at_ 3 _ rfl; have f4 := EX.at_ 4 _ rfl; have f5 := EX.at_ 5 _ rfl; have f6 := EX.at_ 6 _ rfl; simp only [Nat.add_zero] at f0; obtain ⟨xk, xb, xt, xa1, xl1, xc1, xa2, xl2, xc2, xa3, xl3, xc3, xa4, xl4, xc4⟩ := x; simp only [vv]))
      all_goals
        have HS := Lib.hid STX
        have HBL2 := BLX
        have HGK := Lib.hid hgk
        have HAG := Lib.hid AGX
        have HTx := Lib.hid Tx
        clear STX BX EX hbX BLX HBL ST' EL HE E F AGX AG'' hgk hgl hlc Tx f0 f1 f2 f3 f4 f5 f6
        go_wp2_with fail
        rw [set7_eq, hw]
        refine ⟨⟨i + 1, hlt, rfl, Lib.hid (HS.out.setL (Nat.lt_of_lt_of_le HB1.out HGK.out) (i * 7 + 0) [.int .i64 xk, .int .u64 xb, .string xt, .slice xa1 xl1 xc1, .slice xa2 xl2 xc2, .slice xa3 xl3 xc3, .slice xa4 xl4 xc4]), Lib.hid (fun _ => ⟨g, rfl, HGK.out, El_step shape1.imp hlt HBL2.out [.int .i64 xk, .int .u64 xb, .string xt, .slice xa1 xl1 xc1, .slice xa2 xl2 xc2, .slice xa3 xl3 xc3, .slice xa4 xl4 xc4] rfl (by decide) (fun cs _ => ⟨⟨xk, xb, xt, xa1, xl1, xc1, xa2, xl2, xc2, xa3, xl3, xc3, xa4, xl4, xc4⟩, rfl, HTx.out⟩)⟩), Lib.hid (HAG.out.setL HGK.out (i * 7 + 0) [.int .i64 xk, .int .u64 xb, .string xt, .slice xa1 xl1 xc1, .slice xa2 xl2 xc2, .slice xa3 xl3 xc3, .slice xa4 xl4 xc4])⟩, meas hlt⟩
    · obtain rfl : l1 = i := by omega
      have RD1 := Lib.hid (El_done shape1.imp HB1.out EL.out HC1.out HN1.out)
      have ST := ST'
      have AG : Hid (Agr w wr wr) := Lib.hid (Agr.refl _ _)
      clear EL AG'' ST' hlt hi HC1 HG1 HB1 HM1
      obtain ⟨wr1, hwr⟩ : ∃ z, z = wr := ⟨_, rfl⟩
      subst hwr
      have ⟨_, p0, p1, p2, p3, p4, p5, p6, pf⟩ := ST.out.bv
      go_wp2_with fail
      clear p0 p1 p2 p3 p4 p5 p6 pf
      refine (C2.out _ (H2.out.mono (fun _ h => h) (fun b hb => ST.out.hb.block b hb) (fun _ h => h))).mono ?_
      rintro _ ww2 ⟨vv2, nn2, rfl, ho, hp, hb⟩
      obtain ⟨a2', c2', rfl, hc, hn, hg⟩ := blk_of_own ho hp
      have HC2 := Lib.hid hc
      have HN2 := Lib.hid hn
      have HG2 := Lib.hid hg
      have HB2 : Hid (w.heap.size + 1 < wr1.heap.size) := Lib.hid ST.out.br.lt
      have AG' := Lib.hid (AG.out.below hb)
      have AGB : Hid (wr1.heap.size ≤ wr1.heap.size) := Lib.hid (Nat.le_refl _)
      have HM2 : Hid (wr1.heap.size ≤ wr1.heap.size) := Lib.hid (Nat.le_refl _)
      replace ST := Lib.hid (ST.out.below hb)
      clear ho hp hb hc hn hg AGB
      have ⟨_, p0, p1, p2, p3, p4, p5, p6, pf⟩ := ST.out.bv
      go_wp2_with fail
      clear p0 p1 p2 p3 p4 p5 p6 pf
      go_loopw [35] (fun x wr => ∃ i : Nat, i ≤ l2 ∧ x = .int .i64 i ∧ Hid (St w wr k b t (.slice a1' l1 c1') (.slice a2' l2 c2') (.slice a3 l3 c3) (.slice a4 l4 c4)) ∧ Hid (El shape2 14 wr1.heap.size w wr a2' l2 i n) ∧ Hid (Agr w wr1 wr)) (fun x _ => l2 - (intOf x).toNat)
      case atStart => exact ⟨0, Nat.zero_le _, rfl, Lib.hid ⟨ST.out.bv.set4 _, ST.out.br.set_other (by omega) _ _, ST.out.hb.setCell (Nat.le_refl _) _⟩, Lib.hid (El_start HG2.out (Nat.le_refl _) (by have := HB2.out; omega)), Lib.hid (AG'.out.set (by omega) _ _)⟩
      case round =>
        obtain ⟨i, hi, rfl, ST', EL, AG''⟩ := hrel
        clear ST AG AG'
        by_cases hlt : i < l2
        · obtain ⟨g, rfl, hgk, BL⟩ := EL.out (by omega)
          obtain ⟨cs, hcs, hsh, hce⟩ := BL.at_ i hlt
          rw [if_neg (by omega)] at hsh
          obtain ⟨u, y, rfl, hu, hy⟩ := hsh
          have HUu := Lib.hid hu
          have HUy := Lib.hid hy
          have HBL := Lib.hid BL
          have HE := Lib.hid hce
          clear BL hcs hce hu hy
          obtain ⟨uk, ub, ut, ua1, ul1, uc1, ua2, ul2, uc2, ua3, ul3, uc3, ua4, ul4, uc4⟩ := u
          obtain ⟨yk, yb, yt, ya1, yl1, yc1, ya2, yl2, yc2, ya3, yl3, yc3, ya4, yl4, yc4⟩ := y
          have E : CL wr g (i * 14) [.int .i64 uk, .int .u64 ub, .string ut, .slice ua1 ul1 uc1, .slice ua2 ul2 uc2, .slice ua3 ul3 uc3, .slice ua4 ul4 uc4, .int .i64 yk, .int .u64 yb, .string yt, .slice ya1 yl1 yc1, .slice ya2 yl2 yc2, .slice ya3 yl3 yc3, .slice ya4 yl4 yc4] := ⟨HBL.out.lt, HBL.out.fz, fun j u hj => HE.out j u hj⟩
          have e0 := E.at_ 0 _ rfl
          have e1 := E.at_ 1 _ rfl
          have e2 := E.at_ 2 _ rfl
          have e3 := E.at_ 3 _ rfl
          have e4 := E.at_ 4 _ rfl
          have e5 := E.at_ 5 _ rfl
          have e6 := E.at_ 6 _ rfl
          have e7 := E.at_ 7 _ rfl
          have e8 := E.at_ 8 _ rfl
          have e9 := E.at_ 9 _ rfl
          have e10 := E.at_ 10 _ rfl
          have e11 := E.at_ 11 _ rfl
          have e12 := E.at_ 12 _ rfl
          have e13 := E.at_ 13 _ rfl
          simp only [Nat.add_zero] at e0
          have hlc := HC2.out
          have hbX : Below wr.heap.size wr (wr.alloc (.cells #[.int .i64 uk, .int .u64 ub, .string ut, .slice ua1 ul1 uc1, .slice ua2 ul2 uc2, .slice ua3 ul3 uc3, .slice ua4 ul4 uc4, .int .i64 yk, .int .u64 yb, .string yt, .slice ya1 yl1 yc1, .slice ya2 yl2 yc2, .slice ya3 yl3 yc3, .slice ya4 yl4 yc4] 83)).drew := (below_box _ _).drew
          have STX := ST'.out.below hbX
          have EX := E.below hbX
          have BX := (boxL_new wr [.int .i64 uk, .int .u64 ub, .string ut, .slice ua1 ul1 uc1, .slice ua2 ul2 uc2, .slice ua3 ul3 uc3, .slice ua4 ul4 uc4, .int .i64 yk, .int .u64 yb, .string yt, .slice ya1 yl1 yc1, .slice ya2 yl2 yc2, .slice ya3 yl3 yc3, .slice ya4 yl4 yc4] 83).drew
          have BLX := Lib.hid (El_below shape2.imp HBL.out hbX)
          have AGX := AG''.out.below hbX
          have hll : l2 * 256 ≤ 140737488351232 := OK.out.l2
          have hw : wrap64 ((i : Int) + 1) = ((i + 1 : Nat) : Int) := by unfold wrap64; omega
          clear hll
          have hbase := HB2.out
          have hne1 : w.heap.size ≠ g := by omega
          have hne2 : wr.heap.size ≠ g := by have := HBL.out.lt; omega
          have hgl := Nat.lt_of_lt_of_le HBL.out.lt hbX.size
          go_wp2_with fail
          clear hbase e0 e1 e2 e3 e4 e5 e6 e7 e8 e9 e10 e11 e12 e13
          go_region_held3 (fun w' => w'.cell? ⟨w.heap.size, 4, none⟩ = some (.slice (some ⟨g, 0, none⟩) l2 c2') ∧ (w'.cell? ⟨wr.heap.size, 0, none⟩ = some (.int .i64 uk) ∧ w'.cell? ⟨wr.heap.size, 1, none⟩ = some (.int .u64 ub) ∧ w'.cell? ⟨wr.heap.size, 2, none⟩ = some (.string ut) ∧ w'.cell? ⟨wr.heap.size, 3, none⟩ = some (.slice ua1 ul1 uc1) ∧ w'.cell? ⟨wr.heap.size, 4, none⟩ = some (.slice ua2 ul2 uc2) ∧ w'.cell? ⟨wr.heap.size, 5, none⟩ = some (.slice ua3 ul3 uc3) ∧ w'.cell? ⟨wr.heap.size, 6, none⟩ = some (.slice ua4 ul4 uc4) ∧ w'.cell? ⟨wr.heap.size, 7, none⟩ = some (.int .i64 yk) ∧ w'.cell? ⟨wr.heap.size, 8, none⟩ = some (.int .u64 yb) ∧ w'.cell? ⟨wr.heap.size, 9, none⟩ = some (.string yt) ∧ w'.cell? ⟨wr.heap.size, 10, none⟩ = some (.slice ya1 yl1 yc1) ∧ w'.cell? ⟨wr.heap.size, 11, none⟩ = some (.slice ya2 yl2 yc2) ∧ w'.cell? ⟨wr.heap.size, 12, none⟩ = some (.slice ya3 yl3 yc3) ∧ w'.cell? ⟨wr.heap.size, 13, none⟩ = some (.slice ya4 yl4 yc4))) (first | with_reducible exact ⟨STX.bv.c4, c14 BX⟩ | with_reducible exact ⟨((((((((((((((STX.bv.set_other hne1 _ _).set_other hne1 _ _).set_other hne1 _ _).set_other hne1 _ _).set_other hne1 _ _).set_other hne1 _ _).set_other hne1 _ _).set_other hne1 _ _).set_other hne1 _ _).set_other hne1 _ _).set_other hne1 _ _).set_other hne1 _ _).set_other hne1 _ _).set_other hne1 _ _).c4, c14 ((((((((((((((BX.set_other hne2 _ _).set_other hne2 _ _).set_other hne2 _ _).set_other hne2 _ _).set_other hne2 _ _).set_other hne2 _ _).set_other hne2 _ _).set_other hne2 _ _).set_other hne2 _ _).set_other hne2 _ _).set_other hne2 _ _).set_other hne2 _ _).set_other hne2 _ _).set_other hne2 _ _)⟩)
            (first
              | (go_at_call_of 39 (Value.agg #[.int .i64 uk, .int .u64 ub, .string ut, .slice ua1 ul1 uc1, .slice ua2 ul2 uc2, .slice ua3 ul3 uc3, .slice ua4 ul4 uc4]); refine (IH.out ⟨uk, ub, ut, ua1, ul1, uc1, ua2, ul2, uc2, ua3, ul3, uc3, ua4, ul4, uc4⟩ _ (HUu.out.here STX.hb)).mono ?_; rintro _ w2 ⟨x, rfl, _, _, _, _, _, _, _, htr, hb2⟩; (try have Tz := Tz.below hb2); have Tx := new_of (g := g) hgl htr; have hgl := Nat.lt_of_lt_of_le hgl hb2.size; have STX := STX.below hb2; have BX := BX.below hb2; have EX := EX.below hb2; have AGX := AGX.below hb2; have BLX := Lib.hid (El_below shape2.imp BLX.out hb2); clear htr hb2; have F := EX.fz; have f0 := EX.at_ 0 _ rfl; have f1 := EX.at_ 1 _ rfl; have f2 := EX.at_ 2 _ rfl; have f3 := EX.at_ 3 _ rfl; have f4 := EX.at_ 4 _ rfl; have f5 := EX.at_ 5 _ rfl; have f6 := EX.at_ 6 _ rfl; have f7 := EX.at_ 7 _ rfl; have f8 := EX.at_ 8 _ rfl; have f9 := EX.at_ 9 _ rfl; have f10 := EX.at_ 10 _ rfl; have f11 := EX.at_ 11 _ rfl; have f12 := EX.at_ 12 _ rfl; have f13 := EX.at_ 13 _ rfl; simp only [Nat.add_zero] at f0; obtain ⟨xk, xb, xt, xa1, xl1, xc1, xa2, xl2, xc2, xa3, xl3, xc3, xa4, xl4, xc4⟩ := x; simp only [vv])
              | (go_at_call_of 39 (Value.agg #[.int .i64 yk, .int .u64 yb, .string yt, .slice ya1 yl1 yc1, .slice ya2 yl2 yc2, .slice ya3 yl3 yc3, .slice ya4 yl4 yc4]); refine (IH.out ⟨yk, yb, yt, ya1, yl1, yc1, ya2, yl2, yc2, ya3, yl3, yc3, ya4, yl4, yc4⟩ _ (HUy.out.here STX.hb)).mono ?_; rintro _ w2 ⟨z, rfl, _, _, _, _, _, _, _, htr, hb2⟩; (try have Tx := Tx.below hb2); have Tz := new_of (g := g) hgl htr; have hgl := Nat.lt_of_lt_of_le hgl hb2.size; have STX := STX.below hb2; have BX := BX.below hb2; have EX := EX.below hb2; have AGX := AGX.below hb2; have BLX := Lib.hid (El_below shape2.imp BLX.out hb2); clear htr hb2; have F := EX.fz; have f0 := EX.at_ 0 _ rfl; have f1 := EX.at_ 1 _ rfl; have f2 := EX.at_ 2 _ rfl; have f3 := EX.at_ 3 _ rfl; have f4 := EX.at_ 4 _ rfl; have f5 := EX.at_ 5 _ rfl; have f6 := EX.at_ 6 _ rfl; have f7 := EX.at_ 7 _ rfl; have f8 := EX.at_ 8 _ rfl; have f9 := EX.at_ 9 _ rfl; have f10 := EX.at_ 10 _ rfl; have f11 := EX.at_ 11 _ rfl; have f12 := EX.at_ 12 _ rfl; have f13 := EX.at_ 13 _ rfl; simp only [Nat.add_zero] at f0; obtain ⟨zk, zb, zt, za1, zl1, zc1, za2, zl2, zc2, za3, zl3, zc3, za4, zl4, zc4⟩ := z; simp only [vv]))
          all_goals
            have HS := Lib.hid STX
            have HBL2 := BLX
            have HGK := Lib.hid hgk
            have HAG := Lib.hid AGX
            have HTx := Lib.hid Tx
            have HTz := Lib.hid Tz
            clear STX BX EX hbX BLX HBL ST' EL HE E F AGX AG'' hgk hgl hlc Tx Tz f0 f1 f2 f3 f4 f5 f6 f7 f8 f9 f10 f11 f12 f13
            go_wp2_with fail
            rw [set14_eq, hw]
            refine ⟨⟨i + 1, hlt, rfl, Lib.hid (HS.out.setL (Nat.lt_of_lt_of_le HB2.out HGK.out) (i * 14 + 0) [.int .i64 xk, .int .u64 xb, .string xt, .slice xa1 xl1 xc1, .slice xa2 xl2 xc2, .slice xa3 xl3 xc3, .slice xa4 xl4 xc4, .int .i64 zk, .int .u64 zb, .string zt, .slice za1 zl1 zc1, .slice za2 zl2 zc2, .slice za3 zl3 zc3, .slice za4 zl4 zc4]), Lib.hid (fun _ => ⟨g, rfl, HGK.out, El_step shape2.imp hlt HBL2.out [.int .i64 xk, .int .u64 xb, .string xt, .slice xa1 xl1 xc1, .slice xa2 xl2 xc2, .slice xa3 xl3 xc3, .slice xa4 xl4 xc4, .int .i64 zk, .int .u64 zb, .string zt, .slice za1 zl1 zc1, .slice za2 zl2 zc2, .slice za3 zl3 zc3, .slice za4 zl4 zc4] rfl (by decide) (fun cs _ => ⟨⟨xk, xb, xt, xa1, xl1, xc1, xa2, xl2, xc2, xa3, xl3, xc3, xa4, xl4, xc4⟩, ⟨zk, zb, zt, za1, zl1, zc1, za2, zl2, zc2, za3, zl3, zc3, za4, zl4, zc4⟩, rfl, HTx.out, HTz.out⟩)⟩), Lib.hid (HAG.out.setL HGK.out (i * 14 + 0) [.int .i64 xk, .int .u64 xb, .string xt, .slice xa1 xl1 xc1, .slice xa2 xl2 xc2, .slice xa3 xl3 xc3, .slice xa4 xl4 xc4, .int .i64 zk, .int .u64 zb, .string zt, .slice za1 zl1 zc1, .slice za2 zl2 zc2, .slice za3 zl3 zc3, .slice za4 zl4 zc4])⟩, meas hlt⟩
        · obtain rfl : l2 = i := by omega
          have RD2 := Lib.hid (El_done shape2.imp HB2.out EL.out HC2.out HN2.out)
          replace RD1 := Lib.hid (RD1.out.agr shape1.imp AG''.out)
          have ST := ST'
          have AG : Hid (Agr w wr wr) := Lib.hid (Agr.refl _ _)
          clear EL AG'' ST' hlt hi HC2 HG2 HB2 HM2
          obtain ⟨wr2, hwr⟩ : ∃ z, z = wr := ⟨_, rfl⟩
          subst hwr
          have ⟨_, p0, p1, p2, p3, p4, p5, p6, pf⟩ := ST.out.bv
          go_wp2_with fail
          clear p0 p1 p2 p3 p4 p5 p6 pf
          refine (C3.out _ (H3.out.mono (fun _ h => h) (fun b hb => ST.out.hb.block b hb) (fun _ h => h))).mono ?_
          rintro _ ww3 ⟨vv3, nn3, rfl, ho, hp, hb⟩
          obtain ⟨a3', c3', rfl, hc, hn, hg⟩ := blk_of_own ho hp
          have HC3 := Lib.hid hc
          have HN3 := Lib.hid hn
          have HG3 := Lib.hid hg
          have HB3 : Hid (w.heap.size + 1 < wr2.heap.size) := Lib.hid ST.out.br.lt
          have AG' := Lib.hid (AG.out.below hb)
          have AGB : Hid (wr2.heap.size ≤ wr2.heap.size) := Lib.hid (Nat.le_refl _)
          have HM3 : Hid (wr2.heap.size ≤ wr2.heap.size) := Lib.hid (Nat.le_refl _)
          replace ST := Lib.hid (ST.out.below hb)
          clear ho hp hb hc hn hg AGB
          have ⟨_, p0, p1, p2, p3, p4, p5, p6, pf⟩ := ST.out.bv
          go_wp2_with fail
          clear p0 p1 p2 p3 p4 p5 p6 pf
          go_loopw [59] (fun x wr => ∃ i : Nat, i ≤ l3 ∧ x = .int .i64 i ∧ Hid (St w wr k b t (.slice a1' l1 c1') (.slice a2' l2 c2') (.slice a3' l3 c3') (.slice a4 l4 c4)) ∧ Hid (El shape3 8 wr2.heap.size w wr a3' l3 i n) ∧ Hid (Agr w wr2 wr)) (fun x _ => l3 - (intOf x).toNat)
          case atStart => exact ⟨0, Nat.zero_le _, rfl, Lib.hid ⟨ST.out.bv.set5 _, ST.out.br.set_other (by omega) _ _, ST.out.hb.setCell (Nat.le_refl _) _⟩, Lib.hid (El_start HG3.out (Nat.le_refl _) (by have := HB3.out; omega)), Lib.hid (AG'.out.set (by omega) _ _)⟩
          case round =>
            obtain ⟨i, hi, rfl, ST', EL, AG''⟩ := hrel
            clear ST AG AG'
            by_cases hlt : i < l3
            · obtain ⟨g, rfl, hgk, BL⟩ := EL.out (by omega)
              obtain ⟨cs, hcs, hsh, hce⟩ := BL.at_ i hlt
              rw [if_neg (by omega)] at hsh
              obtain ⟨mm, u, rfl, hu⟩ := hsh
              have HUu := Lib.hid hu
              have HBL := Lib.hid BL
              have HE := Lib.hid hce
              clear BL hcs hce hu
              obtain ⟨uk, ub, ut, ua1, ul1, uc1, ua2, ul2, uc2, ua3, ul3, uc3, ua4, ul4, uc4⟩ := u
              have E : CL wr g (i * 8) [.int .i64 mm, .int .i64 uk, .int .u64 ub, .string ut, .slice ua1 ul1 uc1, .slice ua2 ul2 uc2, .slice ua3 ul3 uc3, .slice ua4 ul4 uc4] := ⟨HBL.out.lt, HBL.out.fz, fun j u hj => HE.out j u hj⟩
              have e0 := E.at_ 0 _ rfl
              have e1 := E.at_ 1 _ rfl
              have e2 := E.at_ 2 _ rfl
              have e3 := E.at_ 3 _ rfl
              have e4 := E.at_ 4 _ rfl
              have e5 := E.at_ 5 _ rfl
              have e6 := E.at_ 6 _ rfl
              have e7 := E.at_ 7 _ rfl
              simp only [Nat.add_zero] at e0
              have hlc := HC3.out
              have hbX : Below wr.heap.size wr (wr.alloc (.cells #[.int .i64 mm, .int .i64 uk, .int .u64 ub, .string ut, .slice ua1 ul1 uc1, .slice ua2 ul2 uc2, .slice ua3 ul3 uc3, .slice ua4 ul4 uc4] 86)).drew := (below_box _ _).drew
              have STX := ST'.out.below hbX
              have EX := E.below hbX
              have BX := (boxL_new wr [.int .i64 mm, .int .i64 uk, .int .u64 ub, .string ut, .slice ua1 ul1 uc1, .slice ua2 ul2 uc2, .slice ua3 ul3 uc3, .slice ua4 ul4 uc4] 86).drew
              have BLX := Lib.hid (El_below shape3.imp HBL.out hbX)
              have AGX := AG''.out.below hbX
              have hll : l3 * 136 ≤ 140737488351232 := OK.out.l3
              have hw : wrap64 ((i : Int) + 1) = ((i + 1 : Nat) : Int) := by unfold wrap64; omega
              clear hll
              have hbase := HB3.out
              have hne1 : w.heap.size ≠ g := by omega
              have hne2 : wr.heap.size ≠ g := by have := HBL.out.lt; omega
              have hgl := Nat.lt_of_lt_of_le HBL.out.lt hbX.size
              go_wp2_with fail
              clear hbase e0 e1 e2 e3 e4 e5 e6 e7
              go_region_held3 (fun w' => w'.cell? ⟨w.heap.size, 5, none⟩ = some (.slice (some ⟨g, 0, none⟩) l3 c3') ∧ (w'.cell? ⟨wr.heap.size, 0, none⟩ = some (.int .i64 mm) ∧ w'.cell? ⟨wr.heap.size, 1, none⟩ = some (.int .i64 uk) ∧ w'.cell? ⟨wr.heap.size, 2, none⟩ = some (.int .u64 ub) ∧ w'.cell? ⟨wr.heap.size, 3, none⟩ = some (.string ut) ∧ w'.cell? ⟨wr.heap.size, 4, none⟩ = some (.slice ua1 ul1 uc1) ∧ w'.cell? ⟨wr.heap.size, 5, none⟩ = some (.slice ua2 ul2 uc2) ∧ w'.cell? ⟨wr.heap.size, 6, none⟩ = some (.slice ua3 ul3 uc3) ∧ w'.cell? ⟨wr.heap.size, 7, none⟩ = some (.slice ua4 ul4 uc4))) (first | with_reducible exact ⟨STX.bv.c5, c8 BX⟩ | with_reducible exact ⟨(((((((STX.bv.set_other hne1 _ _).set_other hne1 _ _).set_other hne1 _ _).set_other hne1 _ _).set_other hne1 _ _).set_other hne1 _ _).set_other hne1 _ _).c5, c8 (((((((BX.set_other hne2 _ _).set_other hne2 _ _).set_other hne2 _ _).set_other hne2 _ _).set_other hne2 _ _).set_other hne2 _ _).set_other hne2 _ _)⟩)
                (first
                  | (go_at_call 39; refine (IH.out ⟨uk, ub, ut, ua1, ul1, uc1, ua2, ul2, uc2, ua3, ul3, uc3, ua4, ul4, uc4⟩ _ (HUu.out.here STX.hb)).mono ?_; rintro _ w2 ⟨x, rfl, _, _, _, _, _, _, _, htr, hb2⟩; have Tx := new_of (g := g) hgl htr; have hgl := Nat.lt_of_lt_of_le hgl hb2.size; have STX := STX.below hb2; have BX := BX.below hb2; have EX := EX.below hb2; have AGX := AGX.below hb2; have BLX := Lib.hid (El_below shape3.imp BLX.out hb2); clear htr hb2; have F := EX.fz; have f0 := EX.at_ 0 _ rfl; have f1 := EX.at_ 1 _ rfl; have f2 := EX.at_ 2 _ rfl; have f3 := EX.at_ 3 _ rfl; have f4 := EX.at_ 4 _ rfl; have f5 := EX.at_ 5 _ rfl; have f6 := EX.at_ 6 _ rfl; have f7 := EX.at_ 7 _ rfl; simp only [Nat.add_zero] at f0; obtain ⟨xk, xb, xt, xa1, xl1, xc1, xa2, xl2, xc2, xa3, xl3, xc3, xa4, xl4, xc4⟩ := x; simp only [vv]))
              all_goals
                have HS := Lib.hid STX
                have HBL2 := BLX
                have HGK := Lib.hid hgk
                have HAG := Lib.hid AGX
                have HTx := Lib.hid Tx
                clear STX BX EX hbX BLX HBL ST' EL HE E F AGX AG'' hgk hgl hlc Tx f0 f1 f2 f3 f4 f5 f6 f7
                go_wp2_with fail
                rw [set8_eq, hw]
                refine ⟨⟨i + 1, hlt, rfl, Lib.hid (HS.out.setL (Nat.lt_of_lt_of_le HB3.out HGK.out) (i * 8 + 1) [.int .i64 xk, .int .u64 xb, .string xt, .slice xa1 xl1 xc1, .slice xa2 xl2 xc2, .slice xa3 xl3 xc3, .slice xa4 xl4 xc4]), Lib.hid (fun _ => ⟨g, rfl, HGK.out, El_step shape3.imp hlt HBL2.out [.int .i64 xk, .int .u64 xb, .string xt, .slice xa1 xl1 xc1, .slice xa2 xl2 xc2, .slice xa3 xl3 xc3, .slice xa4 xl4 xc4] rfl (by decide) (fun cs ⟨m0, u0, e0, _⟩ => by rw [e0]; exact ⟨m0, ⟨xk, xb, xt, xa1, xl1, xc1, xa2, xl2, xc2, xa3, xl3, xc3, xa4, xl4, xc4⟩, rfl, HTx.out⟩)⟩), Lib.hid (HAG.out.setL HGK.out (i * 8 + 1) [.int .i64 xk, .int .u64 xb, .string xt, .slice xa1 xl1 xc1, .slice xa2 xl2 xc2, .slice xa3 xl3 xc3, .slice xa4 xl4 xc4])⟩, meas hlt⟩
            · obtain rfl : l3 = i := by omega
              have RD3 := Lib.hid (El_done shape3.imp HB3.out EL.out HC3.out HN3.out)
              replace RD1 := Lib.hid (RD1.out.agr shape1.imp AG''.out)
              replace RD2 := Lib.hid (RD2.out.agr shape2.imp AG''.out)
              have ST := ST'
              have AG : Hid (Agr w wr wr) := Lib.hid (Agr.refl _ _)
              clear EL AG'' ST' hlt hi HC3 HG3 HB3 HM3
              obtain ⟨wr3, hwr⟩ : ∃ z, z = wr := ⟨_, rfl⟩
              subst hwr
              have ⟨_, p0, p1, p2, p3, p4, p5, p6, pf⟩ := ST.out.bv
              go_wp2_with fail
              clear p0 p1 p2 p3 p4 p5 p6 pf
              refine (C4.out _ (H4.out.mono (fun _ h => h) (fun b hb => ST.out.hb.block b hb) (fun _ h => h))).mono ?_
              rintro _ w5 ⟨v4, n4, rfl, ho, hp, hb⟩
              obtain ⟨a4', c4', rfl, hc, hn, hg⟩ := blk_of_own ho hp
              have HG := Lib.hid hg
              have HC := Lib.hid hc
              have HN := Lib.hid hn
              have HB : Hid (w.heap.size + 1 < wr3.heap.size) := Lib.hid ST.out.br.lt
              have AG' := Lib.hid (AG.out.below hb)
              replace ST := Lib.hid (ST.out.below hb)
              clear ho hp hb hg hc hn AG
              have ⟨_, p0, p1, p2, p3, p4, p5, p6, pf⟩ := ST.out.bv
              have ⟨_, q0, q1, q2, q3, q4, q5, q6, qf⟩ := ST.out.br
              go_wp2_with fail
              exact bodyPost_ret (v := .agg #[.int .i64 k, .int .u64 b, .string t, .slice a1' l1 c1', .slice a2' l2 c2', .slice a3' l3 c3', .slice a4' l4 c4']) (by simp [results, Tryz.results39, go_sem, q0, q1, q2, q3, q4, q5, q6]) rfl
                ⟨⟨k, b, t, a1', l1, c1', a2', l2, c2', a3', l3, c3', a4', l4, c4'⟩, rfl, rfl, rfl, rfl, rfl, rfl, rfl, rfl, tree_done ⟨OK.out.k, OK.out.b, OK.out.t, OK.out.l1, OK.out.l2, OK.out.l3, OK.out.l4⟩ RD1.out RD2.out RD3.out HB.out (show El (fun _ => rawC) 4 _ w w5 a4' l4 l4 n from HG.out) HC.out HN.out AG'.out (((((((((Agr.refl w w5).set (by omega) _ _).set (by omega) _ _).set (by omega) _ _).set (by omega) _ _).set (by omega) _ _).set (by omega) _ _).set (by omega) _ _).set (by omega) _ _), ((((((((ST.out.hb.setCell (by simp) _).setCell (by simp) _).setCell (by simp) _).setCell (by simp) _).setCell (by simp) _).setCell (by simp) _).setCell (by simp) _).setCell (by simp) _)⟩

theorem clone_any : ∀ n, CloneHas n
  | 0 => fun _ _ h => h.elim
  | n + 1 => step n (clone_any n)
end Go.Proofs.YtgjbpadhdnclnaaGreatDoor.CloC
