/- Contracts of Varint, of the program and of the reference. -/
import Derived.Test.YtdgbbfhhjhhahaaCurA
import Derived.Test.YtdgbbfhhjhhahaaVarS
import Derived.Test.YtdgbbfhhjhhahaaVarU
import Derived.RegionTactic
import Derived.ChangeAlike
import Derived.Deep.RegionWith
namespace Go.Proofs.Ytdgbbfhhjhhahaa.CurV
open Go.RowKit CurM Has Nums CurA VarM VarS VarT VarU

set_option maxRecDepth 100000 in
set_option maxHeartbeats 400000 in
theorem varintP (c : Cur) (w : World) (hc : Wf c) :
    Calls Try.prog 27 #[cv c] w (Res3 .u64 (pVarint c) w) := by
  have hle := rest_le c
  have hd := hc.d
  have Hc := Lib.hid hc
  obtain ⟨r, hr⟩ : ∃ r, r = rest c := ⟨_, rfl⟩
  have Hr := Lib.hid hr
  rw [← hr] at hle
  have hm : r.size ≤ maxLen := by unfold maxLen; omega
  have Hm := Lib.hid hm
  obtain ⟨u, m, x, ht⟩ : ∃ u m x, take r.data.toList = (u, m, x) := ⟨_, _, _, rfl⟩
  have Ht := Lib.hid ht
  have hn := take_n r.data.toList
  have hu := take_lt r.data.toList
  rw [ht] at hn hu
  obtain ⟨hn1, hn2, hn3⟩ := hn
  simp only at hn1 hn2 hn3 hu
  rw [size_toList] at hn1
  have hu1 : (u : Int) ≤ 18446744073709551615 := by omega
  clear hu hm
  by_cases hx : x = 0
  · subst hx
    have hm1 := hn3 rfl
    have Hp : Hid (pVarint c = (u, fwd c m, 0)) := Lib.hid (by unfold pVarint; rw [← hr, ht]; rfl)
    have hs : sound c = true := by
      cases h : sound c with
      | true => rfl
      | false => rw [hr, rest_size_no h] at hn1; omega
    have hi : inI (c.a + m) := by
      have h1 := sound_iff.1 hs
      have h2 := rest_size_yes hs
      rw [← hr] at h2
      unfold inI; omega
    have Hi := Lib.hid hi
    clear hr hc ht hs hi hn3
    obtain ⟨d, a, e, dp, n, t⟩ := c
    go_enter Try.func27, Try.ntmps27
    go_wp2_with fail
    refine (restP ⟨d, a, e, dp, n, t⟩ _ Hc.out).mono ?_
    rintro _ w1 ⟨rfl, hb⟩
    rw [← Hr.out]
    have hB := ((has_new _ _ _ _ _ _ _ _).alloc _).below hb
    have hR := (has_new _ _ _ _ _ _ _ _).below hb
    rw [World.size_alloc] at hR
    obtain ⟨-, b0, b1, b2, b3, b4, b5, bf⟩ := hB
    obtain ⟨hz, r0, r1, r2, r3, r4, r5, rf⟩ := hR
    go_wp2_with fail
    refine (take_any r _ Hm.out).mono ?_
    rintro _ _ ⟨rfl, rfl⟩
    rw [Ht.out]
    go_wp2_with fail
    refine (skipP ⟨d, a, e, dp, n, t⟩ m _ Hi.out).mono ?_
    rintro _ w2 ⟨rfl, hd⟩
    obtain ⟨hz2, r0, r1, r2, r3, r4, r5, rf⟩ := (HasC.mk (w := w1) hz r0 r1 r2 r3 r4 r5 rf).below hd
    go_wp2_with fail
    exact bodyPost_ret (v := .tuple #[.int .u64 (u : Int), cv (fwd ⟨d, a, e, dp, n, t⟩ m), .int .i64 0]) (by simp [results, Try.results27, go_sem, r0, r1, r2, r3, r4, r5]) rfl (res3_mk Hp (below6 (bt (below2t hb) hd) (by omega) _ _ _ _ _ _))
  · have hx1 : (0 : Int) < x := by omega
    have Hp : Hid (pVarint c = (0, c, (x : Int))) := Lib.hid (by unfold pVarint; rw [← hr, ht]; exact if_neg hx)
    clear hr hc ht hn3 hx
    obtain ⟨d, a, e, dp, n, t⟩ := c
    go_enter Try.func27, Try.ntmps27
    go_wp2_with fail
    refine (restP ⟨d, a, e, dp, n, t⟩ _ Hc.out).mono ?_
    rintro _ w1 ⟨rfl, hb⟩
    rw [← Hr.out]
    have hB := ((has_new _ _ _ _ _ _ _ _).alloc _).below hb
    have hR := (has_new _ _ _ _ _ _ _ _).below hb
    rw [World.size_alloc] at hR
    obtain ⟨-, b0, b1, b2, b3, b4, b5, bf⟩ := hB
    obtain ⟨hz, r0, r1, r2, r3, r4, r5, rf⟩ := hR
    go_wp2_with fail
    refine (take_any r _ Hm.out).mono ?_
    rintro _ _ ⟨rfl, rfl⟩
    rw [Ht.out]
    go_wp2_with fail
    go_region
    all_goals
      go_wp2_with fail
      exact bodyPost_ret (v := .tuple #[.int .u64 ((0 : Nat) : Int), cv ⟨d, a, e, dp, n, t⟩, .int .i64 x]) (by simp [results, Try.results27, go_sem, r0, r1, r2, r3, r4, r5]) rfl (res3_mk Hp ((below6 (below2t hb) (by omega) _ _ _ _ _ _).drew))

set_option maxRecDepth 100000 in
set_option maxHeartbeats 400000 in
theorem varintR (c : Cur) (w : World) (hc : Wf c) :
    Calls Try.prog 33 #[cv c] w (Res3 .u64 (pVarint c) w) := by
  have hle := rest_le c
  have hd := hc.d
  have Hc := Lib.hid hc
  obtain ⟨r, hr⟩ : ∃ r, r = rest c := ⟨_, rfl⟩
  have Hr := Lib.hid hr
  rw [← hr] at hle
  have hm : r.size ≤ maxLen := by unfold maxLen; omega
  have Hm := Lib.hid hm
  obtain ⟨u, m, x, ht⟩ : ∃ u m x, take r.data.toList = (u, m, x) := ⟨_, _, _, rfl⟩
  have Ht := Lib.hid ht
  have hn := take_n r.data.toList
  have hu := take_lt r.data.toList
  rw [ht] at hn hu
  obtain ⟨hn1, hn2, hn3⟩ := hn
  simp only at hn1 hn2 hn3 hu
  rw [size_toList] at hn1
  have hu1 : (u : Int) ≤ 18446744073709551615 := by omega
  clear hu hm
  by_cases hx : x = 0
  · subst hx
    have hm1 := hn3 rfl
    have Hp : Hid (pVarint c = (u, fwd c m, 0)) := Lib.hid (by unfold pVarint; rw [← hr, ht]; rfl)
    have hs : sound c = true := by
      cases h : sound c with
      | true => rfl
      | false => rw [hr, rest_size_no h] at hn1; omega
    have hi : inI (c.a + m) := by
      have h1 := sound_iff.1 hs
      have h2 := rest_size_yes hs
      rw [← hr] at h2
      unfold inI; omega
    have Hi := Lib.hid hi
    clear hr hc ht hs hi hn3
    obtain ⟨d, a, e, dp, n, t⟩ := c
    go_enter Try.func33, Try.ntmps33
    go_wp2_with fail
    refine (restR ⟨d, a, e, dp, n, t⟩ _ Hc.out).mono ?_
    rintro _ w1 ⟨rfl, hb⟩
    rw [← Hr.out]
    have hB := ((has_new _ _ _ _ _ _ _ _).alloc _).below hb
    have hR := (has_new _ _ _ _ _ _ _ _).below hb
    rw [World.size_alloc] at hR
    obtain ⟨-, b0, b1, b2, b3, b4, b5, bf⟩ := hB
    obtain ⟨hz, r0, r1, r2, r3, r4, r5, rf⟩ := hR
    go_wp2_with fail
    refine (rtake_any r _ Hm.out).mono ?_
    rintro _ _ ⟨rfl, rfl⟩
    rw [Ht.out]
    go_wp2_with fail
    refine (skipR ⟨d, a, e, dp, n, t⟩ m _ Hi.out).mono ?_
    rintro _ w2 ⟨rfl, hd⟩
    obtain ⟨hz2, r0, r1, r2, r3, r4, r5, rf⟩ := (HasC.mk (w := w1) hz r0 r1 r2 r3 r4 r5 rf).below hd
    go_wp2_with fail
    exact bodyPost_ret (v := .tuple #[.int .u64 (u : Int), cv (fwd ⟨d, a, e, dp, n, t⟩ m), .int .i64 0]) (by simp [results, Try.results33, go_sem, r0, r1, r2, r3, r4, r5]) rfl (res3_mk Hp (below6 (bt (below2t hb) hd) (by omega) _ _ _ _ _ _))
  · have hx1 : (0 : Int) < x := by omega
    have Hp : Hid (pVarint c = (0, c, (x : Int))) := Lib.hid (by unfold pVarint; rw [← hr, ht]; exact if_neg hx)
    clear hr hc ht hn3 hx
    obtain ⟨d, a, e, dp, n, t⟩ := c
    go_enter Try.func33, Try.ntmps33
    go_wp2_with fail
    refine (restR ⟨d, a, e, dp, n, t⟩ _ Hc.out).mono ?_
    rintro _ w1 ⟨rfl, hb⟩
    rw [← Hr.out]
    have hB := ((has_new _ _ _ _ _ _ _ _).alloc _).below hb
    have hR := (has_new _ _ _ _ _ _ _ _).below hb
    rw [World.size_alloc] at hR
    obtain ⟨-, b0, b1, b2, b3, b4, b5, bf⟩ := hB
    obtain ⟨hz, r0, r1, r2, r3, r4, r5, rf⟩ := hR
    go_wp2_with fail
    refine (rtake_any r _ Hm.out).mono ?_
    rintro _ _ ⟨rfl, rfl⟩
    rw [Ht.out]
    go_wp2_with fail
    go_region
    all_goals
      go_wp2_with fail
      exact bodyPost_ret (v := .tuple #[.int .u64 ((0 : Nat) : Int), cv ⟨d, a, e, dp, n, t⟩, .int .i64 x]) (by simp [results, Try.results33, go_sem, r0, r1, r2, r3, r4, r5]) rfl (res3_mk Hp ((below6 (below2t hb) (by omega) _ _ _ _ _ _).drew))
end Go.Proofs.Ytdgbbfhhjhhahaa.CurV
