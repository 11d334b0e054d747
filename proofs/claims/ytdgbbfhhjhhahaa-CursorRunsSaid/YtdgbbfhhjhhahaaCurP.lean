/- The contract of step: each call of the program gives what the reference's gives. -/
import Derived.Test.YtdgbbfhhjhhahaaCurN
import Derived.Test.YtdgbbfhhjhhahaaCurU
import Derived.Test.YtdgbbfhhjhhahaaCurW
import Derived.BigRegion
import Derived.Deep.RegionHeld3
namespace Go.Proofs.Ytdgbbfhhjhhahaa.CurP
open Go.RowKit CurM Has Nums CurA CurB CurV CurF CurT CurU CurC CurS CurN CurW

/-- A step gives a cursor, and says yes. -/
def StepR (p : Cur) (w : World) (e : Ending) (w' : World) : Prop := ∃ c : Cur, e = .returned (.tuple #[cv c, .bool true]) ∧ Hid (p = c) ∧ Below w.heap.size w w'
theorem stepR_mk {p : Cur} {w w' : World} {c : Cur} (h : Hid (p = c)) (hb : Below w.heap.size w w') : StepR p w (.returned (.tuple #[cv c, .bool true])) w' := ⟨c, rfl, h, hb⟩

set_option maxRecDepth 100000 in
set_option maxHeartbeats 400000 in
theorem step0 (c : Cur) (nn : Int) (w : World) (hc : Wf c) (hn : inI nn) :
    Calls Try.prog 17 #[cv c, .agg #[.int .i64 0, .int .i64 nn]] w (StepR (pStep c 0 nn) w) := by
  have Hc := Lib.hid hc
  have Hn := Lib.hid hn
  have hst : pStep c 0 nn = (pByte c).2.1 := rfl
  have Hst := Lib.hid hst
  clear hst hc
  obtain ⟨h6, h7⟩ := hn
  obtain ⟨d, a, e, dp, n, t⟩ := c
  go_enter Try.func17, Try.ntmps17
  go_wp2_with fail
  refine (byteP ⟨d, a, e, dp, n, t⟩ _ Hc.out).mono ?_
  rintro _ w1 ⟨b1, c1, x1, rfl, k1, hb1⟩
  have hC := ((has_new _ _ _ _ _ _ _ _).alloc _).alloc _ |>.below hb1
  have hR := (has_new _ _ _ _ _ _ _ _).below hb1
  rw [World.size_alloc, World.size_alloc] at hR
  have hL : w1.cell? ⟨w.heap.size + 1, 1, none⟩ = some (.int .i64 nn) := (hb1.cell (p := ⟨w.heap.size + 1, 1, none⟩) (by simp)).trans (by simp [go_sem])
  obtain ⟨d1, a1, e1, dp1, n1, t1⟩ := c1
  obtain ⟨lc, g0, g1, g2, g3, g4, g5, gf⟩ := hC
  have Hz : Hid (w.heap.size + 2 < w1.heap.size) := Lib.hid hR.lt
  have Hz2 : w.heap.size + 1 < w1.heap.size := by have := Hz.out; omega
  go_wp2_with fail
  refine (byteR ⟨d, a, e, dp, n, t⟩ _ Hc.out).mono ?_
  rintro _ w2 ⟨b2, c2, x2, rfl, k2, hb2⟩
  obtain ⟨rfl, rfl, rfl⟩ := inj3 k1.out k2.out
  clear k2
  have hA := (has_new _ _ _ _ _ _ _ _).below hb2
  have hR2 := (hR.alloc _).below hb2
  obtain ⟨hz1, a0, a1', a2, a3, a4, a5, af⟩ := hA
  obtain ⟨hz2, r0, r1, r2, r3, r4, r5, rf⟩ := hR2
  have Hp : Hid (pStep ⟨d, a, e, dp, n, t⟩ 0 nn = ⟨d1, a1, e1, dp1, n1, t1⟩) := Lib.hid (by rw [Hst.out, k1.out])
  go_wp2_with fail
  go_region
  all_goals
    go_wp2_with fail
    exact bodyPost_ret (v := .tuple #[cv ⟨d1, a1, e1, dp1, n1, t1⟩, .bool true]) (by simp [results, Try.results17, go_sem, hz2, r0, r1, r2, r3, r4, r5]) rfl (stepR_mk Hp (bt (below6 (bt (below3t hb1) (below1t hb2)) (by omega) _ _ _ _ _ _) (below1 _)).drew)

set_option maxRecDepth 100000 in
set_option maxHeartbeats 400000 in
theorem step1 (c : Cur) (nn : Int) (w : World) (hc : Wf c) (hn : inI nn) :
    Calls Try.prog 17 #[cv c, .agg #[.int .i64 1, .int .i64 nn]] w (StepR (pStep c 1 nn) w) := by
  have Hc := Lib.hid hc
  have Hn := Lib.hid hn
  have hst : pStep c 1 nn = (pVarint c).2.1 := rfl
  have Hst := Lib.hid hst
  clear hst hc
  obtain ⟨h6, h7⟩ := hn
  obtain ⟨d, a, e, dp, n, t⟩ := c
  go_enter Try.func17, Try.ntmps17
  go_wp2_with fail
  refine (varintP ⟨d, a, e, dp, n, t⟩ _ Hc.out).mono ?_
  rintro _ w1 ⟨b1, c1, x1, rfl, k1, hb1⟩
  have hC := ((has_new _ _ _ _ _ _ _ _).alloc _).alloc _ |>.below hb1
  have hR := (has_new _ _ _ _ _ _ _ _).below hb1
  rw [World.size_alloc, World.size_alloc] at hR
  have hL : w1.cell? ⟨w.heap.size + 1, 1, none⟩ = some (.int .i64 nn) := (hb1.cell (p := ⟨w.heap.size + 1, 1, none⟩) (by simp)).trans (by simp [go_sem])
  obtain ⟨d1, a1, e1, dp1, n1, t1⟩ := c1
  obtain ⟨lc, g0, g1, g2, g3, g4, g5, gf⟩ := hC
  have Hz : Hid (w.heap.size + 2 < w1.heap.size) := Lib.hid hR.lt
  have Hz2 : w.heap.size + 1 < w1.heap.size := by have := Hz.out; omega
  go_wp2_with fail
  refine (varintR ⟨d, a, e, dp, n, t⟩ _ Hc.out).mono ?_
  rintro _ w2 ⟨b2, c2, x2, rfl, k2, hb2⟩
  obtain ⟨rfl, rfl, rfl⟩ := inj3 k1.out k2.out
  clear k2
  have hA := (has_new _ _ _ _ _ _ _ _).below hb2
  have hR2 := (hR.alloc _).below hb2
  obtain ⟨hz1, a0, a1', a2, a3, a4, a5, af⟩ := hA
  obtain ⟨hz2, r0, r1, r2, r3, r4, r5, rf⟩ := hR2
  have Hp : Hid (pStep ⟨d, a, e, dp, n, t⟩ 1 nn = ⟨d1, a1, e1, dp1, n1, t1⟩) := Lib.hid (by rw [Hst.out, k1.out])
  go_wp2_with fail
  go_region
  all_goals
    go_wp2_with fail
    exact bodyPost_ret (v := .tuple #[cv ⟨d1, a1, e1, dp1, n1, t1⟩, .bool true]) (by simp [results, Try.results17, go_sem, hz2, r0, r1, r2, r3, r4, r5]) rfl (stepR_mk Hp (bt (below6 (bt (below3t hb1) (below1t hb2)) (by omega) _ _ _ _ _ _) (below1 _)).drew)

set_option maxRecDepth 100000 in
set_option maxHeartbeats 400000 in
theorem step2 (c : Cur) (nn : Int) (w : World) (hc : Wf c) (hn : inI nn) :
    Calls Try.prog 17 #[cv c, .agg #[.int .i64 2, .int .i64 nn]] w (StepR (pStep c 2 nn) w) := by
  have Hc := Lib.hid hc
  have Hn := Lib.hid hn
  have hst : pStep c 2 nn = (pFixed c).2.1 := rfl
  have Hst := Lib.hid hst
  clear hst hc
  obtain ⟨h6, h7⟩ := hn
  obtain ⟨d, a, e, dp, n, t⟩ := c
  go_enter Try.func17, Try.ntmps17
  go_wp2_with fail
  refine (fixedP ⟨d, a, e, dp, n, t⟩ _ Hc.out).mono ?_
  rintro _ w1 ⟨b1, c1, x1, rfl, k1, hb1⟩
  have hC := ((has_new _ _ _ _ _ _ _ _).alloc _).alloc _ |>.below hb1
  have hR := (has_new _ _ _ _ _ _ _ _).below hb1
  rw [World.size_alloc, World.size_alloc] at hR
  have hL : w1.cell? ⟨w.heap.size + 1, 1, none⟩ = some (.int .i64 nn) := (hb1.cell (p := ⟨w.heap.size + 1, 1, none⟩) (by simp)).trans (by simp [go_sem])
  obtain ⟨d1, a1, e1, dp1, n1, t1⟩ := c1
  obtain ⟨lc, g0, g1, g2, g3, g4, g5, gf⟩ := hC
  have Hz : Hid (w.heap.size + 2 < w1.heap.size) := Lib.hid hR.lt
  have Hz2 : w.heap.size + 1 < w1.heap.size := by have := Hz.out; omega
  go_wp2_with fail
  refine (fixedR ⟨d, a, e, dp, n, t⟩ _ Hc.out).mono ?_
  rintro _ w2 ⟨b2, c2, x2, rfl, k2, hb2⟩
  obtain ⟨rfl, rfl, rfl⟩ := inj3 k1.out k2.out
  clear k2
  have hA := (has_new _ _ _ _ _ _ _ _).below hb2
  have hR2 := (hR.alloc _).below hb2
  obtain ⟨hz1, a0, a1', a2, a3, a4, a5, af⟩ := hA
  obtain ⟨hz2, r0, r1, r2, r3, r4, r5, rf⟩ := hR2
  have Hp : Hid (pStep ⟨d, a, e, dp, n, t⟩ 2 nn = ⟨d1, a1, e1, dp1, n1, t1⟩) := Lib.hid (by rw [Hst.out, k1.out])
  go_wp2_with fail
  go_region
  all_goals
    go_wp2_with fail
    exact bodyPost_ret (v := .tuple #[cv ⟨d1, a1, e1, dp1, n1, t1⟩, .bool true]) (by simp [results, Try.results17, go_sem, hz2, r0, r1, r2, r3, r4, r5]) rfl (stepR_mk Hp (bt (below6 (bt (below3t hb1) (below1t hb2)) (by omega) _ _ _ _ _ _) (below1 _)).drew)

set_option maxRecDepth 100000 in
set_option maxHeartbeats 400000 in
theorem step3 (c : Cur) (nn : Int) (w : World) (hc : Wf c) (hn : inI nn) :
    Calls Try.prog 17 #[cv c, .agg #[.int .i64 3, .int .i64 nn]] w (StepR (pStep c 3 nn) w) := by
  have Hc := Lib.hid hc
  have Hn := Lib.hid hn
  have hst : pStep c 3 nn = (pText c nn).2.1 := rfl
  have Hst := Lib.hid hst
  clear hst hc
  obtain ⟨h6, h7⟩ := hn
  obtain ⟨d, a, e, dp, n, t⟩ := c
  go_enter Try.func17, Try.ntmps17
  go_wp2_with fail
  refine (textP ⟨d, a, e, dp, n, t⟩ nn _ Hc.out Hn.out).mono ?_
  rintro _ w1 ⟨b1, c1, x1, rfl, k1, hb1⟩
  have hC := ((has_new _ _ _ _ _ _ _ _).alloc _).alloc _ |>.below hb1
  have hR := (has_new _ _ _ _ _ _ _ _).below hb1
  rw [World.size_alloc, World.size_alloc] at hR
  have hL : w1.cell? ⟨w.heap.size + 1, 1, none⟩ = some (.int .i64 nn) := (hb1.cell (p := ⟨w.heap.size + 1, 1, none⟩) (by simp)).trans (by simp [go_sem])
  obtain ⟨d1, a1, e1, dp1, n1, t1⟩ := c1
  obtain ⟨lc, g0, g1, g2, g3, g4, g5, gf⟩ := hC
  have Hz : Hid (w.heap.size + 2 < w1.heap.size) := Lib.hid hR.lt
  have Hz2 : w.heap.size + 1 < w1.heap.size := by have := Hz.out; omega
  go_wp2_with fail
  refine (textR ⟨d, a, e, dp, n, t⟩ nn _ Hc.out Hn.out).mono ?_
  rintro _ w2 ⟨b2, c2, x2, rfl, k2, hb2⟩
  obtain ⟨rfl, rfl, rfl⟩ := inj3 k1.out k2.out
  clear k2
  have hA := (has_new _ _ _ _ _ _ _ _).below hb2
  have hR2 := (hR.alloc _).below hb2
  obtain ⟨hz1, a0, a1', a2, a3, a4, a5, af⟩ := hA
  obtain ⟨hz2, r0, r1, r2, r3, r4, r5, rf⟩ := hR2
  have Hp : Hid (pStep ⟨d, a, e, dp, n, t⟩ 3 nn = ⟨d1, a1, e1, dp1, n1, t1⟩) := Lib.hid (by rw [Hst.out, k1.out])
  go_wp2_with fail
  go_region
  all_goals
    go_wp2_with fail
    exact bodyPost_ret (v := .tuple #[cv ⟨d1, a1, e1, dp1, n1, t1⟩, .bool true]) (by simp [results, Try.results17, go_sem, hz2, r0, r1, r2, r3, r4, r5]) rfl (stepR_mk Hp (bt (below6 (bt (below3t hb1) (below1t hb2)) (by omega) _ _ _ _ _ _) (below1 _)).drew)

set_option maxRecDepth 100000 in
set_option maxHeartbeats 400000 in
theorem step4 (c : Cur) (nn : Int) (w : World) (hc : Wf c) (hn : inI nn) :
    Calls Try.prog 17 #[cv c, .agg #[.int .i64 4, .int .i64 nn]] w (StepR (pStep c 4 nn) w) := by
  have Hc := Lib.hid hc
  have Hn := Lib.hid hn
  have hst : pStep c 4 nn = (pSpend c nn).1 := rfl
  have Hst := Lib.hid hst
  clear hst hc
  obtain ⟨h6, h7⟩ := hn
  obtain ⟨d, a, e, dp, n, t⟩ := c
  go_enter Try.func17, Try.ntmps17
  go_wp2_with fail
  refine (spendP ⟨d, a, e, dp, n, t⟩ nn _ Hc.out Hn.out).mono ?_
  rintro _ w1 ⟨c1, x1, rfl, k1, hb1⟩
  have hC := ((has_new _ _ _ _ _ _ _ _).alloc _).alloc _ |>.below hb1
  have hR := (has_new _ _ _ _ _ _ _ _).below hb1
  rw [World.size_alloc, World.size_alloc] at hR
  have hL : w1.cell? ⟨w.heap.size + 1, 1, none⟩ = some (.int .i64 nn) := (hb1.cell (p := ⟨w.heap.size + 1, 1, none⟩) (by simp)).trans (by simp [go_sem])
  obtain ⟨d1, a1, e1, dp1, n1, t1⟩ := c1
  obtain ⟨lc, g0, g1, g2, g3, g4, g5, gf⟩ := hC
  have Hz : Hid (w.heap.size + 2 < w1.heap.size) := Lib.hid hR.lt
  have Hz2 : w.heap.size + 1 < w1.heap.size := by have := Hz.out; omega
  go_wp2_with fail
  refine (spendR ⟨d, a, e, dp, n, t⟩ nn _ Hc.out Hn.out).mono ?_
  rintro _ w2 ⟨c2, x2, rfl, k2, hb2⟩
  obtain ⟨rfl, rfl⟩ := inj2 k1.out k2.out
  clear k2
  have hA := (has_new _ _ _ _ _ _ _ _).below hb2
  have hR2 := (hR.alloc _).below hb2
  obtain ⟨hz1, a0, a1', a2, a3, a4, a5, af⟩ := hA
  obtain ⟨hz2, r0, r1, r2, r3, r4, r5, rf⟩ := hR2
  have Hp : Hid (pStep ⟨d, a, e, dp, n, t⟩ 4 nn = ⟨d1, a1, e1, dp1, n1, t1⟩) := Lib.hid (by rw [Hst.out, k1.out])
  go_wp2_with fail
  go_region
  all_goals
    go_wp2_with fail
    exact bodyPost_ret (v := .tuple #[cv ⟨d1, a1, e1, dp1, n1, t1⟩, .bool true]) (by simp [results, Try.results17, go_sem, hz2, r0, r1, r2, r3, r4, r5]) rfl (stepR_mk Hp (bt (below6 (bt (below3t hb1) (below1t hb2)) (by omega) _ _ _ _ _ _) (below1 _)).drew)

set_option maxRecDepth 100000 in
set_option maxHeartbeats 400000 in
theorem step5 (c : Cur) (k nn : Int) (w : World) (hk : k < 0 ∨ 4 < k) (hk2 : inI k) (hn : inI nn) :
    Calls Try.prog 17 #[cv c, .agg #[.int .i64 k, .int .i64 nn]] w (StepR (pStep c k nn) w) := by
  have hst : pStep c k nn = c := by unfold pStep; rw [if_neg (by omega), if_neg (by omega), if_neg (by omega), if_neg (by omega), if_neg (by omega)]
  have Hst := Lib.hid hst
  clear hst
  obtain ⟨h6, h7⟩ := hn
  obtain ⟨h8, h9⟩ := hk2
  obtain ⟨d, a, e, dp, n, t⟩ := c
  rcases hk with hk | hk
  · go_enter Try.func17, Try.ntmps17
    go_wp2_with fail
    exact bodyPost_ret (v := .tuple #[cv ⟨d, a, e, dp, n, t⟩, .bool true]) (by simp [results, Try.results17, go_sem]) rfl (stepR_mk Hst ((below2 _ _).alloc (by simp; omega) _))
  · go_enter Try.func17, Try.ntmps17
    go_wp2_with fail
    exact bodyPost_ret (v := .tuple #[cv ⟨d, a, e, dp, n, t⟩, .bool true]) (by simp [results, Try.results17, go_sem]) rfl (stepR_mk Hst ((below2 _ _).alloc (by simp; omega) _))

theorem step_any (c : Cur) (k nn : Int) (w : World) (hc : Wf c) (hk : inI k) (hn : inI nn) :
    Calls Try.prog 17 #[cv c, .agg #[.int .i64 k, .int .i64 nn]] w (StepR (pStep c k nn) w) := by
  by_cases h0 : k = 0
  · subst h0; exact step0 c nn w hc hn
  · by_cases h1 : k = 1
    · subst h1; exact step1 c nn w hc hn
    · by_cases h2 : k = 2
      · subst h2; exact step2 c nn w hc hn
      · by_cases h3 : k = 3
        · subst h3; exact step3 c nn w hc hn
        · by_cases h4 : k = 4
          · subst h4; exact step4 c nn w hc hn
          · exact step5 c k nn w (by omega) hk hn
end Go.Proofs.Ytdgbbfhhjhhahaa.CurP
