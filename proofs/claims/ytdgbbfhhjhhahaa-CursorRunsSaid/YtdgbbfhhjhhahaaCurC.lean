/- Contracts of enough, Spend and Enter, of the program and of the reference. -/
import Derived.Test.YtdgbbfhhjhhahaaCurA
namespace Go.Proofs.Ytdgbbfhhjhhahaa.CurC
open Go.RowKit CurM Has Nums CurA

set_option maxRecDepth 100000 in
set_option maxHeartbeats 400000 in
theorem spendP (c : Cur) (n : Int) (w : World) (hc : Wf c) (hn : inI n) :
    Calls Try.prog 36 #[cv c, .int .i64 n] w (Res2 (pSpend c n) w) := by
  obtain ⟨h4, h5⟩ := hc.n
  obtain ⟨h6, h7⟩ := hn
  clear hc
  by_cases h1 : n < 0
  · have Hp : Hid (pSpend c n = (c, 1)) := Lib.hid (by unfold pSpend; rw [if_pos h1])
    obtain ⟨d, a, e, dp, m, t⟩ := c
    simp only at h4 h5
    go_enter Try.func36, Try.ntmps36
    go_wp2_with fail
    exact bodyPost_ret (v := .tuple #[cv ⟨d, a, e, dp, m, t⟩, .int .i64 1]) (by simp [results, Try.results36, go_sem]) rfl (res2_mk Hp (below2 _ _))
  · by_cases h2 : c.n < n
    · have Hp : Hid (pSpend c n = (c, 3)) := Lib.hid (by unfold pSpend; rw [if_neg h1, if_pos h2])
      obtain ⟨d, a, e, dp, m, t⟩ := c
      simp only at h2 h4 h5
      go_enter Try.func36, Try.ntmps36
      go_wp2_with fail
      exact bodyPost_ret (v := .tuple #[cv ⟨d, a, e, dp, m, t⟩, .int .i64 3]) (by simp [results, Try.results36, go_sem]) rfl (res2_mk Hp (below2 _ _))
    · have Hp : Hid (pSpend c n = ({ c with n := c.n - n }, 0)) := Lib.hid (by unfold pSpend; rw [if_neg h1, if_neg h2])
      obtain ⟨d, a, e, dp, m, t⟩ := c
      simp only at h2 h4 h5
      have h3 : -9223372036854775808 ≤ m - n ∧ m - n ≤ 9223372036854775807 := by omega
      obtain ⟨h8, h9⟩ := h3
      go_enter Try.func36, Try.ntmps36
      go_wp2_with fail
      exact bodyPost_ret (v := .tuple #[cv ⟨d, a, e, dp, m - n, t⟩, .int .i64 0]) (by simp [results, Try.results36, go_sem]) rfl (res2_mk Hp (below2 _ _))

set_option maxRecDepth 100000 in
set_option maxHeartbeats 400000 in
theorem spendR (c : Cur) (n : Int) (w : World) (hc : Wf c) (hn : inI n) :
    Calls Try.prog 37 #[cv c, .int .i64 n] w (Res2 (pSpend c n) w) := by
  obtain ⟨h4, h5⟩ := hc.n
  obtain ⟨h6, h7⟩ := hn
  clear hc
  by_cases h1 : n < 0
  · have Hp : Hid (pSpend c n = (c, 1)) := Lib.hid (by unfold pSpend; rw [if_pos h1])
    obtain ⟨d, a, e, dp, m, t⟩ := c
    simp only at h4 h5
    go_enter Try.func37, Try.ntmps37
    go_wp2_with fail
    exact bodyPost_ret (v := .tuple #[cv ⟨d, a, e, dp, m, t⟩, .int .i64 1]) (by simp [results, Try.results37, go_sem]) rfl (res2_mk Hp (below2 _ _))
  · by_cases h2 : c.n < n
    · have Hp : Hid (pSpend c n = (c, 3)) := Lib.hid (by unfold pSpend; rw [if_neg h1, if_pos h2])
      obtain ⟨d, a, e, dp, m, t⟩ := c
      simp only at h2 h4 h5
      go_enter Try.func37, Try.ntmps37
      go_wp2_with fail
      exact bodyPost_ret (v := .tuple #[cv ⟨d, a, e, dp, m, t⟩, .int .i64 3]) (by simp [results, Try.results37, go_sem]) rfl (res2_mk Hp (below2 _ _))
    · have Hp : Hid (pSpend c n = ({ c with n := c.n - n }, 0)) := Lib.hid (by unfold pSpend; rw [if_neg h1, if_neg h2])
      obtain ⟨d, a, e, dp, m, t⟩ := c
      simp only at h2 h4 h5
      have h3 : -9223372036854775808 ≤ m - n ∧ m - n ≤ 9223372036854775807 := by omega
      obtain ⟨h8, h9⟩ := h3
      go_enter Try.func37, Try.ntmps37
      go_wp2_with fail
      exact bodyPost_ret (v := .tuple #[cv ⟨d, a, e, dp, m - n, t⟩, .int .i64 0]) (by simp [results, Try.results37, go_sem]) rfl (res2_mk Hp (below2 _ _))

set_option maxRecDepth 100000 in
set_option maxHeartbeats 400000 in
theorem enoughP (c : Cur) (n : Int) (w : World) (hc : Wf c) (hn : inI n) (x : Int) (hx : pEnough c n = x) :
    Calls Try.prog 31 #[cv c, .int .i64 n] w fun e w' => e = .returned (.int .i64 x) ∧ Below w.heap.size w w' := by
  have hle := rest_le c
  have hd := hc.d
  obtain ⟨h6, h7⟩ := hn
  have Hc := Lib.hid hc
  clear hc
  unfold pEnough at hx
  by_cases h1 : n < 0
  · rw [if_pos h1] at hx
    subst hx
    obtain ⟨d, a, e, dp, m, t⟩ := c
    go_enter Try.func31, Try.ntmps31
    go_wp2_with fail
    go_ret
    exact ⟨rfl, below1 _⟩
  · rw [if_neg h1] at hx
    by_cases h2 : ((rest c).size : Int) < n
    · rw [if_pos h2] at hx
      subst hx
      obtain ⟨d, a, e, dp, m, t⟩ := c
      go_enter Try.func31, Try.ntmps31
      go_wp2_with fail
      refine (leftP ⟨d, a, e, dp, m, t⟩ _ Hc.out).mono ?_
      rintro _ w1 ⟨rfl, hb⟩
      go_wp2_with fail
      go_ret
      exact ⟨rfl, below1t hb⟩
    · rw [if_neg h2] at hx
      subst hx
      obtain ⟨d, a, e, dp, m, t⟩ := c
      go_enter Try.func31, Try.ntmps31
      go_wp2_with fail
      refine (leftP ⟨d, a, e, dp, m, t⟩ _ Hc.out).mono ?_
      rintro _ w1 ⟨rfl, hb⟩
      go_wp2_with fail
      go_ret
      exact ⟨rfl, below1t hb⟩

set_option maxRecDepth 100000 in
set_option maxHeartbeats 400000 in
theorem enterP (c : Cur) (n : Int) (w : World) (hc : Wf c) (hn : inI n) :
    Calls Try.prog 13 #[cv c, .int .i64 n] w (Res2 (pEnter c n) w) := by
  have hle := rest_le c
  have hd := hc.d
  obtain ⟨h4, h5⟩ := hc.dp
  obtain ⟨h8, h9⟩ := hc.a
  have Hn := Lib.hid hn
  obtain ⟨h6, h7⟩ := hn
  have Hc := Lib.hid hc
  clear hc
  by_cases h1 : n < 0
  · have Hp : Hid (pEnter c n = (c, 1)) := Lib.hid (by unfold pEnter; rw [if_pos h1])
    obtain ⟨d, a, e, dp, m, t⟩ := c
    simp only at hd h4 h5 h8 h9
    have Hx := Lib.hid (show pEnough ⟨d, a, e, dp, m, t⟩ n = 1 by unfold pEnough; rw [if_pos h1])
    go_enter Try.func13, Try.ntmps13
    go_wp2_with fail
    refine (enoughP ⟨d, a, e, dp, m, t⟩ n _ Hc.out Hn.out 1 Hx.out).mono ?_
    rintro _ w1 ⟨rfl, hb⟩
    have hB := ((has_new _ _ _ _ _ _ _ _).alloc _).below hb
    have hR := (has_new _ _ _ _ _ _ _ _).below hb
    rw [World.size_alloc] at hR
    obtain ⟨-, b0, b1, b2, b3, b4, b5, bf⟩ := hB
    obtain ⟨hz, r0, r1, r2, r3, r4, r5, rf⟩ := hR
    go_wp2_with fail
    exact bodyPost_ret (v := .tuple #[cv ⟨d, a, e, dp, m, t⟩, .int .i64 1]) (by simp [results, Try.results13, go_sem, r0, r1, r2, r3, r4, r5]) rfl (res2_mk Hp (below6 (below2t hb) (by omega) _ _ _ _ _ _))
  · by_cases h2 : ((rest c).size : Int) < n
    · have Hp : Hid (pEnter c n = (c, 4)) := Lib.hid (by unfold pEnter; rw [if_neg h1, if_pos h2])
      obtain ⟨d, a, e, dp, m, t⟩ := c
      simp only at hd h4 h5 h8 h9
      have Hx := Lib.hid (show pEnough ⟨d, a, e, dp, m, t⟩ n = 4 by unfold pEnough; rw [if_neg h1, if_pos h2])
      go_enter Try.func13, Try.ntmps13
      go_wp2_with fail
      refine (enoughP ⟨d, a, e, dp, m, t⟩ n _ Hc.out Hn.out 4 Hx.out).mono ?_
      rintro _ w1 ⟨rfl, hb⟩
      have hB := ((has_new _ _ _ _ _ _ _ _).alloc _).below hb
      have hR := (has_new _ _ _ _ _ _ _ _).below hb
      rw [World.size_alloc] at hR
      obtain ⟨-, b0, b1, b2, b3, b4, b5, bf⟩ := hB
      obtain ⟨hz, r0, r1, r2, r3, r4, r5, rf⟩ := hR
      go_wp2_with fail
      exact bodyPost_ret (v := .tuple #[cv ⟨d, a, e, dp, m, t⟩, .int .i64 4]) (by simp [results, Try.results13, go_sem, r0, r1, r2, r3, r4, r5]) rfl (res2_mk Hp (below6 (below2t hb) (by omega) _ _ _ _ _ _))
    · by_cases h3 : c.dp < 1
      · have Hp : Hid (pEnter c n = (c, 17)) := Lib.hid (by unfold pEnter; rw [if_neg h1, if_neg h2, if_pos h3])
        obtain ⟨d, a, e, dp, m, t⟩ := c
        simp only at hd h3 h4 h5 h8 h9
        have Hx := Lib.hid (show pEnough ⟨d, a, e, dp, m, t⟩ n = 0 by unfold pEnough; rw [if_neg h1, if_neg h2])
        go_enter Try.func13, Try.ntmps13
        go_wp2_with fail
        refine (enoughP ⟨d, a, e, dp, m, t⟩ n _ Hc.out Hn.out 0 Hx.out).mono ?_
        rintro _ w1 ⟨rfl, hb⟩
        have hB := ((has_new _ _ _ _ _ _ _ _).alloc _).below hb
        have hR := (has_new _ _ _ _ _ _ _ _).below hb
        rw [World.size_alloc] at hR
        obtain ⟨-, b0, b1, b2, b3, b4, b5, bf⟩ := hB
        obtain ⟨hz, r0, r1, r2, r3, r4, r5, rf⟩ := hR
        go_wp2_with fail
        exact bodyPost_ret (v := .tuple #[cv ⟨d, a, e, dp, m, t⟩, .int .i64 17]) (by simp [results, Try.results13, go_sem, r0, r1, r2, r3, r4, r5]) rfl (res2_mk Hp (below6 (below2t hb) (by omega) _ _ _ _ _ _))
      · have Hp : Hid (pEnter c n = ({ c with e := c.a + n, dp := c.dp - 1 }, 0)) := Lib.hid (by unfold pEnter; rw [if_neg h1, if_neg h2, if_neg h3])
        have h10 : -9223372036854775808 ≤ c.a + n ∧ c.a + n ≤ 9223372036854775807 := by
          cases h : sound c with
          | true => have := rest_size_yes h; have := sound_iff.1 h; omega
          | false => have := rest_size_no h; omega
        obtain ⟨h11, h12⟩ := h10
        obtain ⟨d, a, e, dp, m, t⟩ := c
        simp only at hd h3 h4 h5 h8 h9 h11 h12
        have Hx := Lib.hid (show pEnough ⟨d, a, e, dp, m, t⟩ n = 0 by unfold pEnough; rw [if_neg h1, if_neg h2])
        go_enter Try.func13, Try.ntmps13
        go_wp2_with fail
        refine (enoughP ⟨d, a, e, dp, m, t⟩ n _ Hc.out Hn.out 0 Hx.out).mono ?_
        rintro _ w1 ⟨rfl, hb⟩
        have hB := ((has_new _ _ _ _ _ _ _ _).alloc _).below hb
        have hR := (has_new _ _ _ _ _ _ _ _).below hb
        rw [World.size_alloc] at hR
        obtain ⟨-, b0, b1, b2, b3, b4, b5, bf⟩ := hB
        obtain ⟨hz, r0, r1, r2, r3, r4, r5, rf⟩ := hR
        go_wp2_with fail
        exact bodyPost_ret (v := .tuple #[cv ⟨d, a, a + n, dp - 1, m, t⟩, .int .i64 0]) (by simp [results, Try.results13, go_sem, r0, r1, r2, r3, r4, r5]) rfl (res2_mk Hp (below6 (((below2t hb).setCell (Nat.le_refl _) _).setCell (Nat.le_refl _) _) (by omega) _ _ _ _ _ _))

set_option maxRecDepth 100000 in
set_option maxHeartbeats 400000 in
theorem enterR (c : Cur) (n : Int) (w : World) (hc : Wf c) (hn : inI n) :
    Calls Try.prog 14 #[cv c, .int .i64 n] w (Res2 (pEnter c n) w) := by
  have hle := rest_le c
  have hd := hc.d
  obtain ⟨h4, h5⟩ := hc.dp
  obtain ⟨h8, h9⟩ := hc.a
  have Hn := Lib.hid hn
  obtain ⟨h6, h7⟩ := hn
  have Hc := Lib.hid hc
  clear hc
  by_cases h1 : n < 0
  · have Hp : Hid (pEnter c n = (c, 1)) := Lib.hid (by unfold pEnter; rw [if_pos h1])
    obtain ⟨d, a, e, dp, m, t⟩ := c
    simp only at hd h4 h5 h8 h9
    go_enter Try.func14, Try.ntmps14
    go_wp2_with fail
    exact bodyPost_ret (v := .tuple #[cv ⟨d, a, e, dp, m, t⟩, .int .i64 1]) (by simp [results, Try.results14, go_sem]) rfl (res2_mk Hp (below2 _ _))
  · by_cases h2 : ((rest c).size : Int) < n
    · have Hp : Hid (pEnter c n = (c, 4)) := Lib.hid (by unfold pEnter; rw [if_neg h1, if_pos h2])
      obtain ⟨d, a, e, dp, m, t⟩ := c
      simp only at hd h4 h5 h8 h9
      go_enter Try.func14, Try.ntmps14
      go_wp2_with fail
      refine (leftR ⟨d, a, e, dp, m, t⟩ _ Hc.out).mono ?_
      rintro _ w1 ⟨rfl, hb⟩
      have hB := ((has_new _ _ _ _ _ _ _ _).alloc _).below hb
      have hR := (has_new _ _ _ _ _ _ _ _).below hb
      rw [World.size_alloc] at hR
      obtain ⟨-, b0, b1, b2, b3, b4, b5, bf⟩ := hB
      obtain ⟨hz, r0, r1, r2, r3, r4, r5, rf⟩ := hR
      go_wp2_with fail
      exact bodyPost_ret (v := .tuple #[cv ⟨d, a, e, dp, m, t⟩, .int .i64 4]) (by simp [results, Try.results14, go_sem, r0, r1, r2, r3, r4, r5]) rfl (res2_mk Hp (below6 (below2t hb) (by omega) _ _ _ _ _ _))
    · by_cases h3 : c.dp < 1
      · have Hp : Hid (pEnter c n = (c, 17)) := Lib.hid (by unfold pEnter; rw [if_neg h1, if_neg h2, if_pos h3])
        obtain ⟨d, a, e, dp, m, t⟩ := c
        simp only at hd h3 h4 h5 h8 h9
        go_enter Try.func14, Try.ntmps14
        go_wp2_with fail
        refine (leftR ⟨d, a, e, dp, m, t⟩ _ Hc.out).mono ?_
        rintro _ w1 ⟨rfl, hb⟩
        have hB := ((has_new _ _ _ _ _ _ _ _).alloc _).below hb
        have hR := (has_new _ _ _ _ _ _ _ _).below hb
        rw [World.size_alloc] at hR
        obtain ⟨-, b0, b1, b2, b3, b4, b5, bf⟩ := hB
        obtain ⟨hz, r0, r1, r2, r3, r4, r5, rf⟩ := hR
        go_wp2_with fail
        exact bodyPost_ret (v := .tuple #[cv ⟨d, a, e, dp, m, t⟩, .int .i64 17]) (by simp [results, Try.results14, go_sem, r0, r1, r2, r3, r4, r5]) rfl (res2_mk Hp (below6 (below2t hb) (by omega) _ _ _ _ _ _))
      · have Hp : Hid (pEnter c n = ({ c with e := c.a + n, dp := c.dp - 1 }, 0)) := Lib.hid (by unfold pEnter; rw [if_neg h1, if_neg h2, if_neg h3])
        have h10 : -9223372036854775808 ≤ c.a + n ∧ c.a + n ≤ 9223372036854775807 := by
          cases h : sound c with
          | true => have := rest_size_yes h; have := sound_iff.1 h; omega
          | false => have := rest_size_no h; omega
        obtain ⟨h11, h12⟩ := h10
        obtain ⟨d, a, e, dp, m, t⟩ := c
        simp only at hd h3 h4 h5 h8 h9 h11 h12
        go_enter Try.func14, Try.ntmps14
        go_wp2_with fail
        refine (leftR ⟨d, a, e, dp, m, t⟩ _ Hc.out).mono ?_
        rintro _ w1 ⟨rfl, hb⟩
        have hB := ((has_new _ _ _ _ _ _ _ _).alloc _).below hb
        have hR := (has_new _ _ _ _ _ _ _ _).below hb
        rw [World.size_alloc] at hR
        obtain ⟨-, b0, b1, b2, b3, b4, b5, bf⟩ := hB
        obtain ⟨hz, r0, r1, r2, r3, r4, r5, rf⟩ := hR
        go_wp2_with fail
        exact bodyPost_ret (v := .tuple #[cv ⟨d, a, a + n, dp - 1, m, t⟩, .int .i64 0]) (by simp [results, Try.results14, go_sem, r0, r1, r2, r3, r4, r5]) rfl (res2_mk Hp (below6 (((below2t hb).setCell (Nat.le_refl _) _).setCell (Nat.le_refl _) _) (by omega) _ _ _ _ _ _))
end Go.Proofs.Ytdgbbfhhjhhahaa.CurC
