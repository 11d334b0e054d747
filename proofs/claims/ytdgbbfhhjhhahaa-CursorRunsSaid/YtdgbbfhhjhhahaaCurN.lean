/- Contracts of within and next. -/
import Derived.Test.YtdgbbfhhjhhahaaCurB
import Derived.Test.YtdgbbfhhjhhahaaCurV
import Derived.Test.YtdgbbfhhjhhahaaCurF
import Derived.Test.YtdgbbfhhjhhahaaCurT
import Derived.Test.YtdgbbfhhjhhahaaCurC
import Derived.Test.YtdgbbfhhjhhahaaCurS
namespace Go.Proofs.Ytdgbbfhhjhhahaa.CurN
open Go.RowKit CurM Has Nums CurA CurB CurV CurF CurT CurC CurS

set_option maxRecDepth 100000 in
set_option maxHeartbeats 400000 in
theorem within_any (x c : Cur) (w : World) (h : Within x c) :
    Calls Try.prog 21 #[cv x, cv c] w fun e w' => e = .returned (.bool true) ∧ Below w.heap.size w w' := by
  obtain ⟨hs, hd, ha, he, hdp, hn, ht, hz, hw⟩ := h
  have Hs := Lib.hid hs
  have Hw := Lib.hid hw
  clear hs hw
  obtain ⟨d2, a2, e2, dp2, n2, t2⟩ := c
  obtain ⟨d, a, e, dp, n, t⟩ := x
  simp only at hd ha he hdp hn ht hz
  subst hd
  go_enter Try.func21, Try.ntmps21
  go_wp2_with fail
  refine (soundP ⟨d, a, e, dp, n, t⟩ _ Hw.out true Hs.out).mono ?_
  rintro _ w1 ⟨rfl, hb⟩
  have hB := ((has_new _ _ _ _ _ _ _ _).alloc _).below hb
  have hR := (has_new _ _ _ _ _ _ _ _).below hb
  rw [World.size_alloc] at hR
  obtain ⟨-, b0, b1, b2, b3, b4, b5, bf⟩ := hB
  obtain ⟨hz2, r0, r1, r2, r3, r4, r5, rf⟩ := hR
  go_wp2_with fail
  go_ret
  exact ⟨rfl, below2t hb⟩

theorem below3t {w w1 : World} {o o' o2 : Obj} (h : Below (((w.alloc o).alloc o').alloc o2).heap.size (((w.alloc o).alloc o').alloc o2) w1) : Below w.heap.size w w1 :=
  ((below2 o o').alloc (by simp; omega) _).trans (h.mono (by simp; omega))

set_option maxRecDepth 100000 in
set_option maxHeartbeats 400000 in
theorem next0 (c : Cur) (nn : Int) (w : World) (hc : Wf c) (hn : inI nn) :
    Calls Try.prog 22 #[cv c, .agg #[.int .i64 0, .int .i64 nn]] w (Res1 (pStep c 0 nn) w) := by
  have Hc := Lib.hid hc
  have Hn := Lib.hid hn
  have hst : pStep c 0 nn = (pByte c).2.1 := rfl
  have Hst := Lib.hid hst
  clear hst hc
  obtain ⟨h6, h7⟩ := hn
  obtain ⟨d, a, e, dp, n, t⟩ := c
  go_enter Try.func22, Try.ntmps22
  go_wp2_with fail
  refine (byteP ⟨d, a, e, dp, n, t⟩ _ Hc.out).mono ?_
  rintro _ w1 ⟨b1, c1, x1, rfl, k1, hb⟩
  have Hp : Hid (pStep ⟨d, a, e, dp, n, t⟩ 0 nn = c1) := Lib.hid (by rw [Hst.out, k1.out])
  clear k1
  obtain ⟨d1, a1, e1, dp1, n1, t1⟩ := c1
  have hR := (has_new _ _ _ _ _ _ _ _).below hb
  rw [World.size_alloc, World.size_alloc] at hR
  obtain ⟨hz, r0, r1, r2, r3, r4, r5, rf⟩ := hR
  go_wp2_with fail
  exact bodyPost_ret (v := cv ⟨d1, a1, e1, dp1, n1, t1⟩) (by simp [results, Try.results22, go_sem, hz, r0, r1, r2, r3, r4, r5]) rfl (res1_mk Hp (bt (below6 (below3t hb) (by omega) _ _ _ _ _ _) (below1 _)))

set_option maxRecDepth 100000 in
set_option maxHeartbeats 400000 in
theorem next1 (c : Cur) (nn : Int) (w : World) (hc : Wf c) (hn : inI nn) :
    Calls Try.prog 22 #[cv c, .agg #[.int .i64 1, .int .i64 nn]] w (Res1 (pStep c 1 nn) w) := by
  have Hc := Lib.hid hc
  have Hn := Lib.hid hn
  have hst : pStep c 1 nn = (pVarint c).2.1 := rfl
  have Hst := Lib.hid hst
  clear hst hc
  obtain ⟨h6, h7⟩ := hn
  obtain ⟨d, a, e, dp, n, t⟩ := c
  go_enter Try.func22, Try.ntmps22
  go_wp2_with fail
  refine (varintP ⟨d, a, e, dp, n, t⟩ _ Hc.out).mono ?_
  rintro _ w1 ⟨b1, c1, x1, rfl, k1, hb⟩
  have Hp : Hid (pStep ⟨d, a, e, dp, n, t⟩ 1 nn = c1) := Lib.hid (by rw [Hst.out, k1.out])
  clear k1
  obtain ⟨d1, a1, e1, dp1, n1, t1⟩ := c1
  have hR := (has_new _ _ _ _ _ _ _ _).below hb
  rw [World.size_alloc, World.size_alloc] at hR
  obtain ⟨hz, r0, r1, r2, r3, r4, r5, rf⟩ := hR
  go_wp2_with fail
  exact bodyPost_ret (v := cv ⟨d1, a1, e1, dp1, n1, t1⟩) (by simp [results, Try.results22, go_sem, hz, r0, r1, r2, r3, r4, r5]) rfl (res1_mk Hp (bt (below6 (below3t hb) (by omega) _ _ _ _ _ _) (below1 _)))

set_option maxRecDepth 100000 in
set_option maxHeartbeats 400000 in
theorem next2 (c : Cur) (nn : Int) (w : World) (hc : Wf c) (hn : inI nn) :
    Calls Try.prog 22 #[cv c, .agg #[.int .i64 2, .int .i64 nn]] w (Res1 (pStep c 2 nn) w) := by
  have Hc := Lib.hid hc
  have Hn := Lib.hid hn
  have hst : pStep c 2 nn = (pFixed c).2.1 := rfl
  have Hst := Lib.hid hst
  clear hst hc
  obtain ⟨h6, h7⟩ := hn
  obtain ⟨d, a, e, dp, n, t⟩ := c
  go_enter Try.func22, Try.ntmps22
  go_wp2_with fail
  refine (fixedP ⟨d, a, e, dp, n, t⟩ _ Hc.out).mono ?_
  rintro _ w1 ⟨b1, c1, x1, rfl, k1, hb⟩
  have Hp : Hid (pStep ⟨d, a, e, dp, n, t⟩ 2 nn = c1) := Lib.hid (by rw [Hst.out, k1.out])
  clear k1
  obtain ⟨d1, a1, e1, dp1, n1, t1⟩ := c1
  have hR := (has_new _ _ _ _ _ _ _ _).below hb
  rw [World.size_alloc, World.size_alloc] at hR
  obtain ⟨hz, r0, r1, r2, r3, r4, r5, rf⟩ := hR
  go_wp2_with fail
  exact bodyPost_ret (v := cv ⟨d1, a1, e1, dp1, n1, t1⟩) (by simp [results, Try.results22, go_sem, hz, r0, r1, r2, r3, r4, r5]) rfl (res1_mk Hp (bt (below6 (below3t hb) (by omega) _ _ _ _ _ _) (below1 _)))

set_option maxRecDepth 100000 in
set_option maxHeartbeats 400000 in
theorem next3 (c : Cur) (nn : Int) (w : World) (hc : Wf c) (hn : inI nn) :
    Calls Try.prog 22 #[cv c, .agg #[.int .i64 3, .int .i64 nn]] w (Res1 (pStep c 3 nn) w) := by
  have Hc := Lib.hid hc
  have Hn := Lib.hid hn
  have hst : pStep c 3 nn = (pText c nn).2.1 := rfl
  have Hst := Lib.hid hst
  clear hst hc
  obtain ⟨h6, h7⟩ := hn
  obtain ⟨d, a, e, dp, n, t⟩ := c
  go_enter Try.func22, Try.ntmps22
  go_wp2_with fail
  refine (textP ⟨d, a, e, dp, n, t⟩ nn _ Hc.out Hn.out).mono ?_
  rintro _ w1 ⟨b1, c1, x1, rfl, k1, hb⟩
  have Hp : Hid (pStep ⟨d, a, e, dp, n, t⟩ 3 nn = c1) := Lib.hid (by rw [Hst.out, k1.out])
  clear k1
  obtain ⟨d1, a1, e1, dp1, n1, t1⟩ := c1
  have hR := (has_new _ _ _ _ _ _ _ _).below hb
  rw [World.size_alloc, World.size_alloc] at hR
  obtain ⟨hz, r0, r1, r2, r3, r4, r5, rf⟩ := hR
  go_wp2_with fail
  exact bodyPost_ret (v := cv ⟨d1, a1, e1, dp1, n1, t1⟩) (by simp [results, Try.results22, go_sem, hz, r0, r1, r2, r3, r4, r5]) rfl (res1_mk Hp (bt (below6 (below3t hb) (by omega) _ _ _ _ _ _) (below1 _)))

set_option maxRecDepth 100000 in
set_option maxHeartbeats 400000 in
theorem next4 (c : Cur) (nn : Int) (w : World) (hc : Wf c) (hn : inI nn) :
    Calls Try.prog 22 #[cv c, .agg #[.int .i64 4, .int .i64 nn]] w (Res1 (pStep c 4 nn) w) := by
  have Hc := Lib.hid hc
  have Hn := Lib.hid hn
  have hst : pStep c 4 nn = (pSpend c nn).1 := rfl
  have Hst := Lib.hid hst
  clear hst hc
  obtain ⟨h6, h7⟩ := hn
  obtain ⟨d, a, e, dp, n, t⟩ := c
  go_enter Try.func22, Try.ntmps22
  go_wp2_with fail
  refine (spendP ⟨d, a, e, dp, n, t⟩ nn _ Hc.out Hn.out).mono ?_
  rintro _ w1 ⟨c1, x1, rfl, k1, hb⟩
  have Hp : Hid (pStep ⟨d, a, e, dp, n, t⟩ 4 nn = c1) := Lib.hid (by rw [Hst.out, k1.out])
  clear k1
  obtain ⟨d1, a1, e1, dp1, n1, t1⟩ := c1
  have hR := (has_new _ _ _ _ _ _ _ _).below hb
  rw [World.size_alloc, World.size_alloc] at hR
  obtain ⟨hz, r0, r1, r2, r3, r4, r5, rf⟩ := hR
  go_wp2_with fail
  exact bodyPost_ret (v := cv ⟨d1, a1, e1, dp1, n1, t1⟩) (by simp [results, Try.results22, go_sem, hz, r0, r1, r2, r3, r4, r5]) rfl (res1_mk Hp (bt (below6 (below3t hb) (by omega) _ _ _ _ _ _) (below1 _)))

set_option maxRecDepth 100000 in
set_option maxHeartbeats 400000 in
theorem next5 (c : Cur) (k nn : Int) (w : World) (hk : k < 0 ∨ 4 < k) (hk2 : inI k) (hn : inI nn) :
    Calls Try.prog 22 #[cv c, .agg #[.int .i64 k, .int .i64 nn]] w (Res1 (pStep c k nn) w) := by
  have hst : pStep c k nn = c := by unfold pStep; rw [if_neg (by omega), if_neg (by omega), if_neg (by omega), if_neg (by omega), if_neg (by omega)]
  have Hst := Lib.hid hst
  clear hst
  obtain ⟨h6, h7⟩ := hn
  obtain ⟨h8, h9⟩ := hk2
  obtain ⟨d, a, e, dp, n, t⟩ := c
  rcases hk with hk | hk
  · go_enter Try.func22, Try.ntmps22
    go_wp2_with fail
    exact bodyPost_ret (v := cv ⟨d, a, e, dp, n, t⟩) (by simp [results, Try.results22, go_sem]) rfl (res1_mk Hst ((below2 _ _).alloc (by simp; omega) _))
  · go_enter Try.func22, Try.ntmps22
    go_wp2_with fail
    exact bodyPost_ret (v := cv ⟨d, a, e, dp, n, t⟩) (by simp [results, Try.results22, go_sem]) rfl (res1_mk Hst ((below2 _ _).alloc (by simp; omega) _))

theorem next_any (c : Cur) (k nn : Int) (w : World) (hc : Wf c) (hk : inI k) (hn : inI nn) :
    Calls Try.prog 22 #[cv c, .agg #[.int .i64 k, .int .i64 nn]] w (Res1 (pStep c k nn) w) := by
  by_cases h0 : k = 0
  · subst h0; exact next0 c nn w hc hn
  · by_cases h1 : k = 1
    · subst h1; exact next1 c nn w hc hn
    · by_cases h2 : k = 2
      · subst h2; exact next2 c nn w hc hn
      · by_cases h3 : k = 3
        · subst h3; exact next3 c nn w hc hn
        · by_cases h4 : k = 4
          · subst h4; exact next4 c nn w hc hn
          · exact next5 c k nn w (by omega) hk hn
end Go.Proofs.Ytdgbbfhhjhhahaa.CurN
