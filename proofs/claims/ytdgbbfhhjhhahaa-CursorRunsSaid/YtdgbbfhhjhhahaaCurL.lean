/- Contracts of Leave, of the program and of the reference. -/
import Derived.Test.YtdgbbfhhjhhahaaCurA
namespace Go.Proofs.Ytdgbbfhhjhhahaa.CurL
open Go.RowKit CurM Has Nums CurA
theorem below3t {w w1 : World} {o o' o2 : Obj} (h : Below (((w.alloc o).alloc o').alloc o2).heap.size (((w.alloc o).alloc o').alloc o2) w1) : Below w.heap.size w w1 :=
  ((below2 o o').alloc (by simp; omega) _).trans (h.mono (by simp; omega))

set_option maxRecDepth 100000 in
set_option maxHeartbeats 400000 in
theorem leaveP (c i : Cur) (w : World) (hc : Wf c) (hi : Wf i) :
    Calls Try.prog 15 #[cv c, cv i] w (Res1 (pLeave c i) w) := by
  have hd := hc.d
  obtain ⟨h4, h5⟩ := hc.a
  obtain ⟨h6, h7⟩ := hc.e
  obtain ⟨h8, h9⟩ := hc.n
  obtain ⟨h10, h11⟩ := hi.e
  obtain ⟨h12, h13⟩ := hi.n
  have Hc := Lib.hid hc
  clear hc hi
  cases hl : leaves c i with
  | true =>
    have Hp : Hid (pLeave c i = { c with a := i.e, n := i.n }) := Lib.hid (by unfold pLeave; rw [if_pos hl])
    obtain ⟨hs, k1, k2, k3, k4⟩ := leaves_iff.1 hl
    have Hs := Lib.hid hs
    clear hl hs
    obtain ⟨d, a, e, dp, m, t⟩ := c
    obtain ⟨d2, a2, e2, dp2, m2, t2⟩ := i
    simp only at hd h4 h5 h6 h7 h8 h9 h10 h11 h12 h13 k1 k2 k3 k4
    go_enter Try.func15, Try.ntmps15
    go_wp2_with fail
    refine (soundP ⟨d, a, e, dp, m, t⟩ _ Hc.out true Hs.out).mono ?_
    rintro _ w1 ⟨rfl, hb⟩
    have hB := (((has_new _ _ _ _ _ _ _ _).alloc _).alloc _).below hb
    have hJ := ((has_new _ _ _ _ _ _ _ _).alloc _).below hb
    have hR := (has_new _ _ _ _ _ _ _ _).below hb
    rw [World.size_alloc] at hJ
    rw [World.size_alloc, World.size_alloc] at hR
    obtain ⟨-, b0, b1, b2, b3, b4, b5, bf⟩ := hB
    obtain ⟨-, j0, j1, j2, j3, j4, j5, jf⟩ := hJ
    obtain ⟨hz, r0, r1, r2, r3, r4, r5, rf⟩ := hR
    go_wp2_with fail
    exact bodyPost_ret (v := cv ⟨d, e2, e, dp, m2, t⟩) (by simp [results, Try.results15, go_sem, r0, r1, r2, r3, r4, r5]) rfl (res1_mk Hp (below6 ((((below3t hb).setCell (Nat.le_refl _) _).setCell (Nat.le_refl _) _)) (by omega) _ _ _ _ _ _))
  | false =>
    have Hp : Hid (pLeave c i = c) := Lib.hid (by unfold pLeave; rw [if_neg (by simp [hl])])
    cases hs : sound c with
    | false =>
      have Hs := Lib.hid hs
      clear hl hs
      obtain ⟨d, a, e, dp, m, t⟩ := c
      obtain ⟨d2, a2, e2, dp2, m2, t2⟩ := i
      simp only at hd h4 h5 h6 h7 h8 h9 h10 h11 h12 h13
      go_enter Try.func15, Try.ntmps15
      go_wp2_with fail
      refine (soundP ⟨d, a, e, dp, m, t⟩ _ Hc.out false Hs.out).mono ?_
      rintro _ w1 ⟨rfl, hb⟩
      have hB := (((has_new _ _ _ _ _ _ _ _).alloc _).alloc _).below hb
      have hJ := ((has_new _ _ _ _ _ _ _ _).alloc _).below hb
      have hR := (has_new _ _ _ _ _ _ _ _).below hb
      rw [World.size_alloc] at hJ
      rw [World.size_alloc, World.size_alloc] at hR
      obtain ⟨-, b0, b1, b2, b3, b4, b5, bf⟩ := hB
      obtain ⟨-, j0, j1, j2, j3, j4, j5, jf⟩ := hJ
      obtain ⟨hz, r0, r1, r2, r3, r4, r5, rf⟩ := hR
      go_wp2_with fail
      exact bodyPost_ret (v := cv ⟨d, a, e, dp, m, t⟩) (by simp [results, Try.results15, go_sem, r0, r1, r2, r3, r4, r5]) rfl (res1_mk Hp (below6 (below3t hb) (by omega) _ _ _ _ _ _))
    | true =>
      have hk : ¬ (c.a ≤ i.e ∧ i.e ≤ c.e ∧ 0 ≤ i.n ∧ i.n ≤ c.n) := fun h => by
        have := leaves_iff.2 ⟨hs, h⟩
        rw [hl] at this
        cases this
      have Hs := Lib.hid hs
      clear hl hs
      obtain ⟨d, a, e, dp, m, t⟩ := c
      obtain ⟨d2, a2, e2, dp2, m2, t2⟩ := i
      simp only at hd h4 h5 h6 h7 h8 h9 h10 h11 h12 h13 hk
      have Hk := Lib.hid hk
      clear hk
      go_enter Try.func15, Try.ntmps15
      go_wp2_with fail
      refine (soundP ⟨d, a, e, dp, m, t⟩ _ Hc.out true Hs.out).mono ?_
      rintro _ w1 ⟨rfl, hb⟩
      have hB := (((has_new _ _ _ _ _ _ _ _).alloc _).alloc _).below hb
      have hJ := ((has_new _ _ _ _ _ _ _ _).alloc _).below hb
      have hR := (has_new _ _ _ _ _ _ _ _).below hb
      rw [World.size_alloc] at hJ
      rw [World.size_alloc, World.size_alloc] at hR
      obtain ⟨-, b0, b1, b2, b3, b4, b5, bf⟩ := hB
      obtain ⟨-, j0, j1, j2, j3, j4, j5, jf⟩ := hJ
      obtain ⟨hz, r0, r1, r2, r3, r4, r5, rf⟩ := hR
      go_wp2_with fail
      all_goals
        first
          | (exfalso; have := Hk.out; omega)
          | exact bodyPost_ret (v := cv ⟨d, a, e, dp, m, t⟩) (by simp [results, Try.results15, go_sem, r0, r1, r2, r3, r4, r5]) rfl (res1_mk Hp (below6 (below3t hb) (by omega) _ _ _ _ _ _))

set_option maxRecDepth 100000 in
set_option maxHeartbeats 400000 in
theorem leaveR (c i : Cur) (w : World) (hc : Wf c) (hi : Wf i) :
    Calls Try.prog 16 #[cv c, cv i] w (Res1 (pLeave c i) w) := by
  have hd := hc.d
  obtain ⟨h4, h5⟩ := hc.a
  obtain ⟨h6, h7⟩ := hc.e
  obtain ⟨h8, h9⟩ := hc.n
  obtain ⟨h10, h11⟩ := hi.e
  obtain ⟨h12, h13⟩ := hi.n
  have Hc := Lib.hid hc
  clear hc hi
  cases hl : leaves c i with
  | true =>
    have Hp : Hid (pLeave c i = { c with a := i.e, n := i.n }) := Lib.hid (by unfold pLeave; rw [if_pos hl])
    obtain ⟨hs, k1, k2, k3, k4⟩ := leaves_iff.1 hl
    have Hs := Lib.hid hs
    clear hl hs
    obtain ⟨d, a, e, dp, m, t⟩ := c
    obtain ⟨d2, a2, e2, dp2, m2, t2⟩ := i
    simp only at hd h4 h5 h6 h7 h8 h9 h10 h11 h12 h13 k1 k2 k3 k4
    go_enter Try.func16, Try.ntmps16
    go_wp2_with fail
    refine (soundR ⟨d, a, e, dp, m, t⟩ _ Hc.out true Hs.out).mono ?_
    rintro _ w1 ⟨rfl, hb⟩
    have hB := (((has_new _ _ _ _ _ _ _ _).alloc _).alloc _).below hb
    have hJ := ((has_new _ _ _ _ _ _ _ _).alloc _).below hb
    have hR := (has_new _ _ _ _ _ _ _ _).below hb
    rw [World.size_alloc] at hJ
    rw [World.size_alloc, World.size_alloc] at hR
    obtain ⟨-, b0, b1, b2, b3, b4, b5, bf⟩ := hB
    obtain ⟨-, j0, j1, j2, j3, j4, j5, jf⟩ := hJ
    obtain ⟨hz, r0, r1, r2, r3, r4, r5, rf⟩ := hR
    go_wp2_with fail
    exact bodyPost_ret (v := cv ⟨d, e2, e, dp, m2, t⟩) (by simp [results, Try.results16, go_sem, r0, r1, r2, r3, r4, r5]) rfl (res1_mk Hp (below6 ((((below3t hb).setCell (Nat.le_refl _) _).setCell (Nat.le_refl _) _)) (by omega) _ _ _ _ _ _))
  | false =>
    have Hp : Hid (pLeave c i = c) := Lib.hid (by unfold pLeave; rw [if_neg (by simp [hl])])
    cases hs : sound c with
    | false =>
      have Hs := Lib.hid hs
      clear hl hs
      obtain ⟨d, a, e, dp, m, t⟩ := c
      obtain ⟨d2, a2, e2, dp2, m2, t2⟩ := i
      simp only at hd h4 h5 h6 h7 h8 h9 h10 h11 h12 h13
      go_enter Try.func16, Try.ntmps16
      go_wp2_with fail
      refine (soundR ⟨d, a, e, dp, m, t⟩ _ Hc.out false Hs.out).mono ?_
      rintro _ w1 ⟨rfl, hb⟩
      have hB := (((has_new _ _ _ _ _ _ _ _).alloc _).alloc _).below hb
      have hJ := ((has_new _ _ _ _ _ _ _ _).alloc _).below hb
      have hR := (has_new _ _ _ _ _ _ _ _).below hb
      rw [World.size_alloc] at hJ
      rw [World.size_alloc, World.size_alloc] at hR
      obtain ⟨-, b0, b1, b2, b3, b4, b5, bf⟩ := hB
      obtain ⟨-, j0, j1, j2, j3, j4, j5, jf⟩ := hJ
      obtain ⟨hz, r0, r1, r2, r3, r4, r5, rf⟩ := hR
      go_wp2_with fail
      exact bodyPost_ret (v := cv ⟨d, a, e, dp, m, t⟩) (by simp [results, Try.results16, go_sem, r0, r1, r2, r3, r4, r5]) rfl (res1_mk Hp (below6 (below3t hb) (by omega) _ _ _ _ _ _))
    | true =>
      have hk : ¬ (c.a ≤ i.e ∧ i.e ≤ c.e ∧ 0 ≤ i.n ∧ i.n ≤ c.n) := fun h => by
        have := leaves_iff.2 ⟨hs, h⟩
        rw [hl] at this
        cases this
      have Hs := Lib.hid hs
      clear hl hs
      obtain ⟨d, a, e, dp, m, t⟩ := c
      obtain ⟨d2, a2, e2, dp2, m2, t2⟩ := i
      simp only at hd h4 h5 h6 h7 h8 h9 h10 h11 h12 h13 hk
      have Hk := Lib.hid hk
      clear hk
      go_enter Try.func16, Try.ntmps16
      go_wp2_with fail
      refine (soundR ⟨d, a, e, dp, m, t⟩ _ Hc.out true Hs.out).mono ?_
      rintro _ w1 ⟨rfl, hb⟩
      have hB := (((has_new _ _ _ _ _ _ _ _).alloc _).alloc _).below hb
      have hJ := ((has_new _ _ _ _ _ _ _ _).alloc _).below hb
      have hR := (has_new _ _ _ _ _ _ _ _).below hb
      rw [World.size_alloc] at hJ
      rw [World.size_alloc, World.size_alloc] at hR
      obtain ⟨-, b0, b1, b2, b3, b4, b5, bf⟩ := hB
      obtain ⟨-, j0, j1, j2, j3, j4, j5, jf⟩ := hJ
      obtain ⟨hz, r0, r1, r2, r3, r4, r5, rf⟩ := hR
      go_wp2_with fail
      all_goals
        first
          | (exfalso; have := Hk.out; omega)
          | exact bodyPost_ret (v := cv ⟨d, a, e, dp, m, t⟩) (by simp [results, Try.results16, go_sem, r0, r1, r2, r3, r4, r5]) rfl (res1_mk Hp (below6 (below3t hb) (by omega) _ _ _ _ _ _))
end Go.Proofs.Ytdgbbfhhjhhahaa.CurL
