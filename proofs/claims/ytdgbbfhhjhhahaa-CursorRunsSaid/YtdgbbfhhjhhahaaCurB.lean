/- Contracts of Byte, of the program and of the reference. -/
import Derived.Test.YtdgbbfhhjhhahaaCurA
import Derived.RegionTactic
import Derived.ChangeAlike
import Derived.Deep.RegionWith
namespace Go.Proofs.Ytdgbbfhhjhhahaa.CurB
open Go.RowKit CurM Has Nums CurA

set_option maxRecDepth 100000 in
set_option maxHeartbeats 400000 in
theorem byteP (c : Cur) (w : World) (hc : Wf c) :
    Calls Try.prog 24 #[cv c] w (Res3 .u8 (pByte c) w) := by
  have hle := rest_le c
  have hd := hc.d
  have Hc := Lib.hid hc
  obtain ⟨r, hr⟩ : ∃ r, r = rest c := ⟨_, rfl⟩
  have Hr := Lib.hid hr
  rw [← hr] at hle
  by_cases hl : r.size = 0
  · have Hp : Hid (pByte c = (0, c, 4)) := Lib.hid (by unfold pByte; rw [dif_neg (by rw [← hr]; omega)])
    have he := empty_yes hl
    clear hr hc hl
    obtain ⟨d, a, e, dp, n, t⟩ := c
    go_enter Try.func24, Try.ntmps24
    go_wp2_with fail
    refine (restP ⟨d, a, e, dp, n, t⟩ _ Hc.out).mono ?_
    rintro _ w1 ⟨rfl, hb⟩
    rw [← Hr.out]
    have hB := ((has_new _ _ _ _ _ _ _ _).alloc _).below hb
    have hR := (has_new _ _ _ _ _ _ _ _).below hb
    rw [World.size_alloc] at hR
    obtain ⟨-, b0, b1, b2, b3, b4, b5, bf⟩ := hB
    obtain ⟨hz, r0, r1, r2, r3, r4, r5, rf⟩ := hR
    go_wp2_with fail
    go_region
    all_goals
      go_wp2_with fail
      exact bodyPost_ret (v := .tuple #[.int .u8 ((0 : Nat) : Int), cv ⟨d, a, e, dp, n, t⟩, .int .i64 4]) (by simp [results, Try.results24, go_sem, r0, r1, r2, r3, r4, r5]) rfl (res3_mk Hp ((below6 (below2t hb) (by omega) _ _ _ _ _ _).drew))
  · have Hp : Hid (pByte c = (r[0].toNat, fwd c 1, 0)) := Lib.hid (by subst hr; unfold pByte; rw [dif_pos (by omega)])
    have he := empty_no hl
    have hl0 : 0 < r.size := by omega
    have hl1 : (0 : Int) < r.size := by omega
    have hb256 : (r[0].toNat : Int) < 256 := by have := r[0].toNat_lt; omega
    have hs : sound c = true := by
      cases h : sound c with
      | true => rfl
      | false => rw [hr, rest_size_no h] at hl0; omega
    have hi : inI (c.a + 1) := by
      have h1 := sound_iff.1 hs
      have h2 := rest_size_yes hs
      rw [← hr] at h2
      unfold inI; omega
    have Hi := Lib.hid hi
    clear hr hc hs hi
    obtain ⟨d, a, e, dp, n, t⟩ := c
    go_enter Try.func24, Try.ntmps24
    go_wp2_with fail
    refine (restP ⟨d, a, e, dp, n, t⟩ _ Hc.out).mono ?_
    rintro _ w1 ⟨rfl, hb⟩
    rw [← Hr.out]
    have hB := ((has_new _ _ _ _ _ _ _ _).alloc _).below hb
    have hR := (has_new _ _ _ _ _ _ _ _).below hb
    rw [World.size_alloc] at hR
    obtain ⟨-, b0, b1, b2, b3, b4, b5, bf⟩ := hB
    obtain ⟨hz, r0, r1, r2, r3, r4, r5, rf⟩ := hR
    go_wp2_with fail
    go_region_with (go_at_call 39; refine (skipP ⟨d, a, e, dp, n, t⟩ 1 _ Hi.out).mono ?_; rintro _ w2 ⟨rfl, hd⟩; obtain ⟨hz2, r0, r1, r2, r3, r4, r5, rf⟩ := (HasC.mk (w := w1) hz r0 r1 r2 r3 r4 r5 rf).drew.below hd)
    all_goals
      go_wp2_with fail
      exact bodyPost_ret (v := .tuple #[.int .u8 ((r[0].toNat : Nat) : Int), cv (fwd ⟨d, a, e, dp, n, t⟩ 1), .int .i64 0]) (by simp [results, Try.results24, go_sem, r0, r1, r2, r3, r4, r5]) rfl (res3_mk Hp (below6 (bt (below2t hb).drew hd) (by omega) _ _ _ _ _ _))

set_option maxRecDepth 100000 in
set_option maxHeartbeats 400000 in
theorem byteR (c : Cur) (w : World) (hc : Wf c) :
    Calls Try.prog 32 #[cv c] w (Res3 .u8 (pByte c) w) := by
  have hle := rest_le c
  have hd := hc.d
  have Hc := Lib.hid hc
  obtain ⟨r, hr⟩ : ∃ r, r = rest c := ⟨_, rfl⟩
  have Hr := Lib.hid hr
  rw [← hr] at hle
  by_cases hl : r.size = 0
  · have Hp : Hid (pByte c = (0, c, 4)) := Lib.hid (by unfold pByte; rw [dif_neg (by rw [← hr]; omega)])
    have he := empty_yes hl
    clear hr hc hl
    obtain ⟨d, a, e, dp, n, t⟩ := c
    go_enter Try.func32, Try.ntmps32
    go_wp2_with fail
    refine (restR ⟨d, a, e, dp, n, t⟩ _ Hc.out).mono ?_
    rintro _ w1 ⟨rfl, hb⟩
    rw [← Hr.out]
    have hB := ((has_new _ _ _ _ _ _ _ _).alloc _).below hb
    have hR := (has_new _ _ _ _ _ _ _ _).below hb
    rw [World.size_alloc] at hR
    obtain ⟨-, b0, b1, b2, b3, b4, b5, bf⟩ := hB
    obtain ⟨hz, r0, r1, r2, r3, r4, r5, rf⟩ := hR
    go_wp2_with fail
    go_region
    all_goals
      go_wp2_with fail
      exact bodyPost_ret (v := .tuple #[.int .u8 ((0 : Nat) : Int), cv ⟨d, a, e, dp, n, t⟩, .int .i64 4]) (by simp [results, Try.results32, go_sem, r0, r1, r2, r3, r4, r5]) rfl (res3_mk Hp ((below6 (below2t hb) (by omega) _ _ _ _ _ _).drew))
  · have Hp : Hid (pByte c = (r[0].toNat, fwd c 1, 0)) := Lib.hid (by subst hr; unfold pByte; rw [dif_pos (by omega)])
    have he := empty_no hl
    have hl0 : 0 < r.size := by omega
    have hl1 : (0 : Int) < r.size := by omega
    have hb256 : (r[0].toNat : Int) < 256 := by have := r[0].toNat_lt; omega
    have hs : sound c = true := by
      cases h : sound c with
      | true => rfl
      | false => rw [hr, rest_size_no h] at hl0; omega
    have hi : inI (c.a + 1) := by
      have h1 := sound_iff.1 hs
      have h2 := rest_size_yes hs
      rw [← hr] at h2
      unfold inI; omega
    have Hi := Lib.hid hi
    clear hr hc hs hi
    obtain ⟨d, a, e, dp, n, t⟩ := c
    go_enter Try.func32, Try.ntmps32
    go_wp2_with fail
    refine (restR ⟨d, a, e, dp, n, t⟩ _ Hc.out).mono ?_
    rintro _ w1 ⟨rfl, hb⟩
    rw [← Hr.out]
    have hB := ((has_new _ _ _ _ _ _ _ _).alloc _).below hb
    have hR := (has_new _ _ _ _ _ _ _ _).below hb
    rw [World.size_alloc] at hR
    obtain ⟨-, b0, b1, b2, b3, b4, b5, bf⟩ := hB
    obtain ⟨hz, r0, r1, r2, r3, r4, r5, rf⟩ := hR
    go_wp2_with fail
    go_region_with (go_at_call 42; refine (skipR ⟨d, a, e, dp, n, t⟩ 1 _ Hi.out).mono ?_; rintro _ w2 ⟨rfl, hd⟩; obtain ⟨hz2, r0, r1, r2, r3, r4, r5, rf⟩ := (HasC.mk (w := w1) hz r0 r1 r2 r3 r4 r5 rf).drew.below hd)
    all_goals
      go_wp2_with fail
      exact bodyPost_ret (v := .tuple #[.int .u8 ((r[0].toNat : Nat) : Int), cv (fwd ⟨d, a, e, dp, n, t⟩ 1), .int .i64 0]) (by simp [results, Try.results32, go_sem, r0, r1, r2, r3, r4, r5]) rfl (res3_mk Hp (below6 (bt (below2t hb).drew hd) (by omega) _ _ _ _ _ _))
end Go.Proofs.Ytdgbbfhhjhhahaa.CurB
