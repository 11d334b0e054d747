/- Contracts of Text of the reference. -/
import Derived.Test.YtdgbbfhhjhhahaaCurA
import Derived.RegionTactic
import Derived.ChangeAlike
import Derived.Deep.RegionWith
namespace Go.Proofs.Ytdgbbfhhjhhahaa.CurU
open Go.RowKit CurM Has Nums CurA

set_option maxRecDepth 100000 in
set_option maxHeartbeats 1000000 in
theorem textR (c : Cur) (n : Int) (w : World) (hc : Wf c) (hn : inI n) :
    Calls Try.prog 35 #[cv c, .int .i64 n] w (Res3s (pText c n) w) := by
  have hle := rest_le c
  have hd := hc.d
  obtain ⟨h4, h5⟩ := hc.t
  obtain ⟨h8, h9⟩ := hc.a
  obtain ⟨h6, h7⟩ := hn
  have Hc := Lib.hid hc
  clear hc
  by_cases h1 : n < 0
  ·
    have Hp : Hid (pText c n = (⟨#[]⟩, c, 1)) := Lib.hid (by unfold pText; rw [if_pos h1])
    obtain ⟨r, hr⟩ : ∃ r, r = rest c := ⟨_, rfl⟩
    have Hr := Lib.hid hr
    rw [← hr] at hle
    clear hr
    obtain ⟨d, a, e, dp, nn, t⟩ := c
    simp only at hd h4 h5 h8 h9
    go_enter Try.func35, Try.ntmps35
    go_wp2_with fail
    refine (restR ⟨d, a, e, dp, nn, t⟩ _ Hc.out).mono ?_
    rintro _ w1 ⟨rfl, hb⟩
    rw [← Hr.out]
    have hB := ((has_new _ _ _ _ _ _ _ _).alloc _).below hb
    have hR := (has_new _ _ _ _ _ _ _ _).below hb
    rw [World.size_alloc] at hR
    obtain ⟨-, b0, b1, b2, b3, b4, b5, bf⟩ := hB
    obtain ⟨hz, r0, r1, r2, r3, r4, r5, rf⟩ := hR
    go_wp2_with fail
    go_region
    all_goals
      go_wp2_with fail
      exact bodyPost_ret (v := .tuple #[.string ⟨#[]⟩, cv ⟨d, a, e, dp, nn, t⟩, .int .i64 1]) (by simp [results, Try.results35, go_sem, r0, r1, r2, r3, r4, r5]) rfl (res3s_mk Hp ((below6 (below2t hb) (by omega) _ _ _ _ _ _).drew))
  · by_cases h2 : ((rest c).size : Int) < n
    ·
      have Hp : Hid (pText c n = (⟨#[]⟩, c, 4)) := Lib.hid (by unfold pText; rw [if_neg h1, if_pos h2])
      obtain ⟨r, hr⟩ : ∃ r, r = rest c := ⟨_, rfl⟩
      have Hr := Lib.hid hr
      rw [← hr] at hle h2
      clear hr
      obtain ⟨d, a, e, dp, nn, t⟩ := c
      simp only at hd h4 h5 h8 h9
      go_enter Try.func35, Try.ntmps35
      go_wp2_with fail
      refine (restR ⟨d, a, e, dp, nn, t⟩ _ Hc.out).mono ?_
      rintro _ w1 ⟨rfl, hb⟩
      rw [← Hr.out]
      have hB := ((has_new _ _ _ _ _ _ _ _).alloc _).below hb
      have hR := (has_new _ _ _ _ _ _ _ _).below hb
      rw [World.size_alloc] at hR
      obtain ⟨-, b0, b1, b2, b3, b4, b5, bf⟩ := hB
      obtain ⟨hz, r0, r1, r2, r3, r4, r5, rf⟩ := hR
      go_wp2_with fail
      go_region
      all_goals
        go_wp2_with fail
        exact bodyPost_ret (v := .tuple #[.string ⟨#[]⟩, cv ⟨d, a, e, dp, nn, t⟩, .int .i64 4]) (by simp [results, Try.results35, go_sem, r0, r1, r2, r3, r4, r5]) rfl (res3s_mk Hp ((below6 (below2t hb) (by omega) _ _ _ _ _ _).drew))
    · by_cases h3 : c.t < n
      ·
        have Hp : Hid (pText c n = (⟨#[]⟩, c, 3)) := Lib.hid (by unfold pText; rw [if_neg h1, if_neg h2, if_pos h3])
        obtain ⟨r, hr⟩ : ∃ r, r = rest c := ⟨_, rfl⟩
        have Hr := Lib.hid hr
        rw [← hr] at hle h2
        clear hr
        obtain ⟨d, a, e, dp, nn, t⟩ := c
        simp only at hd h3 h4 h5 h8 h9
        go_enter Try.func35, Try.ntmps35
        go_wp2_with fail
        refine (restR ⟨d, a, e, dp, nn, t⟩ _ Hc.out).mono ?_
        rintro _ w1 ⟨rfl, hb⟩
        rw [← Hr.out]
        have hB := ((has_new _ _ _ _ _ _ _ _).alloc _).below hb
        have hR := (has_new _ _ _ _ _ _ _ _).below hb
        rw [World.size_alloc] at hR
        obtain ⟨-, b0, b1, b2, b3, b4, b5, bf⟩ := hB
        obtain ⟨hz, r0, r1, r2, r3, r4, r5, rf⟩ := hR
        go_wp2_with fail
        go_region
        all_goals
          go_wp2_with fail
          exact bodyPost_ret (v := .tuple #[.string ⟨#[]⟩, cv ⟨d, a, e, dp, nn, t⟩, .int .i64 3]) (by simp [results, Try.results35, go_sem, r0, r1, r2, r3, r4, r5]) rfl (res3s_mk Hp ((below6 (below2t hb) (by omega) _ _ _ _ _ _).drew))
      · obtain ⟨m, rfl⟩ : ∃ m : Nat, n = m := ⟨n.toNat, by omega⟩
        obtain ⟨r, hr⟩ : ∃ r, r = rest c := ⟨_, rfl⟩
        have Hp : Hid (pText c m = (r.extract 0 m, fwd c m, 0)) := Lib.hid (by unfold pText; rw [if_neg h1, if_neg h2, if_neg h3, hr]; rfl)
        have h10 : inI (c.a + m) := by
          unfold inI
          cases h : sound c with
          | true => have := rest_size_yes h; have := sound_iff.1 h; omega
          | false => have := rest_size_no h; omega
        have Hi := Lib.hid h10
        have Hr := Lib.hid hr
        rw [← hr] at hle h2
        have hm : (m : Int) ≤ r.size := by omega
        clear hr h10
        obtain ⟨d, a, e, dp, nn, t⟩ := c
        simp only at hd h3 h4 h5 h8 h9
        go_enter Try.func35, Try.ntmps35
        go_wp2_with fail
        refine (restR ⟨d, a, e, dp, nn, t⟩ _ Hc.out).mono ?_
        rintro _ w1 ⟨rfl, hb⟩
        rw [← Hr.out]
        have hB := ((has_new _ _ _ _ _ _ _ _).alloc _).below hb
        have hR := (has_new _ _ _ _ _ _ _ _).below hb
        rw [World.size_alloc] at hR
        obtain ⟨-, b0, b1, b2, b3, b4, b5, bf⟩ := hB
        obtain ⟨hz, r0, r1, r2, r3, r4, r5, rf⟩ := hR
        go_wp2_with fail
        go_region_with (go_at_call 42; refine (skipR ⟨d, a, e, dp, nn, t⟩ m _ Hi.out).mono ?_; rintro _ w2 ⟨rfl, hd2⟩; obtain ⟨hz, r0, r1, r2, r3, r4, r5, rf⟩ := (HasC.mk (w := w1) hz r0 r1 r2 r3 r4 r5 rf).drew.below hd2)
        all_goals
          go_wp2_with fail
          exact bodyPost_ret (v := .tuple #[.string (r.extract 0 m), cv (fwd ⟨d, a, e, dp, nn, t⟩ m), .int .i64 0]) (by simp [results, Try.results35, go_sem, r0, r1, r2, r3, r4, r5]) rfl (res3s_mk Hp (below6 (bt (below2t hb).drew hd2) (by omega) _ _ _ _ _ _))
end Go.Proofs.Ytdgbbfhhjhhahaa.CurU
