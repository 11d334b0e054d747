/- Contracts of Fixed, of the program and of the reference. -/
import Derived.Test.YtdgbbfhhjhhahaaCurA
import Derived.Test.YtdgbbfhhjhhahaaFixT
import Derived.RegionTactic
import Derived.ChangeAlike
import Derived.Deep.RegionWith
namespace Go.Proofs.Ytdgbbfhhjhhahaa.CurF
open Go.RowKit CurM Has Nums CurA VarM FixM FixT

set_option maxRecDepth 100000 in
set_option maxHeartbeats 400000 in
theorem fixedP (c : Cur) (w : World) (hc : Wf c) :
    Calls Try.prog 28 #[cv c] w (Res3 .u64 (pFixed c) w) := by
  have hle := rest_le c
  have hd := hc.d
  have Hc := Lib.hid hc
  obtain ⟨r, hr⟩ : ∃ r, r = rest c := ⟨_, rfl⟩
  have Hr := Lib.hid hr
  rw [← hr] at hle
  have hm : r.size ≤ maxLen := by unfold maxLen; omega
  have Hm := Lib.hid hm
  clear hm
  by_cases h8 : r.size < 8
  · have Hf : Hid (fixed r.data.toList = (0, 4)) := Lib.hid (by unfold fixed; rw [if_pos (show r.data.toList.length < 8 from h8)])
    have Hp : Hid (pFixed c = (0, c, 4)) := Lib.hid (by unfold pFixed; rw [← hr, if_pos h8])
    clear hr hc
    obtain ⟨d, a, e, dp, n, t⟩ := c
    go_enter Try.func28, Try.ntmps28
    go_wp2_with fail
    refine (restP ⟨d, a, e, dp, n, t⟩ _ Hc.out).mono ?_
    rintro _ w1 ⟨rfl, hb⟩
    rw [← Hr.out]
    have hB := ((has_new _ _ _ _ _ _ _ _).alloc _).below hb
    have hR := (has_new _ _ _ _ _ _ _ _).below hb
    rw [World.size_alloc] at hR
    obtain ⟨-, b0, b1, b2, b3, b4, b5, bf⟩ := hB
    obtain ⟨hz, r0, r1, r2, r3, r4, r5, rf⟩ := hR
    go_wp2_with fail
    refine (tfix_any r _ Hm.out).mono ?_
    rintro _ _ ⟨rfl, rfl⟩
    rw [Hf.out]
    go_wp2_with fail
    go_region
    all_goals
      go_wp2_with fail
      exact bodyPost_ret (v := .tuple #[.int .u64 ((0 : Nat) : Int), cv ⟨d, a, e, dp, n, t⟩, .int .i64 4]) (by simp [results, Try.results28, go_sem, r0, r1, r2, r3, r4, r5]) rfl (res3_mk Hp ((below6 (below2t hb) (by omega) _ _ _ _ _ _).drew))
  · obtain ⟨u, hu⟩ : ∃ u, u = num (r.data.toList.take 8) := ⟨_, rfl⟩
    have Hf : Hid (fixed r.data.toList = (u, 0)) := Lib.hid (by unfold fixed; rw [if_neg (show ¬ r.data.toList.length < 8 from h8), hu])
    have Hp : Hid (pFixed c = (u, fwd c 8, 0)) := Lib.hid (by unfold pFixed; rw [← hr, if_neg h8, hu])
    have hu1 : (u : Int) ≤ 18446744073709551615 := by
      have h1 := num_take_lt r 8
      rw [← hu] at h1
      omega
    have hi : inI (c.a + 8) := by
      have hs : sound c = true := by
        cases h : sound c with
        | true => rfl
        | false => rw [hr, rest_size_no h] at h8; omega
      have h1 := sound_iff.1 hs
      have h2 := rest_size_yes hs
      rw [← hr] at h2
      unfold inI; omega
    have Hi := Lib.hid hi
    clear hr hc hi hu
    obtain ⟨d, a, e, dp, n, t⟩ := c
    go_enter Try.func28, Try.ntmps28
    go_wp2_with fail
    refine (restP ⟨d, a, e, dp, n, t⟩ _ Hc.out).mono ?_
    rintro _ w1 ⟨rfl, hb⟩
    rw [← Hr.out]
    have hB := ((has_new _ _ _ _ _ _ _ _).alloc _).below hb
    have hR := (has_new _ _ _ _ _ _ _ _).below hb
    rw [World.size_alloc] at hR
    obtain ⟨-, b0, b1, b2, b3, b4, b5, bf⟩ := hB
    obtain ⟨hz, r0, r1, r2, r3, r4, r5, rf⟩ := hR
    go_wp2_with fail
    refine (tfix_any r _ Hm.out).mono ?_
    rintro _ _ ⟨rfl, rfl⟩
    rw [Hf.out]
    go_wp2_with fail
    refine (skipP ⟨d, a, e, dp, n, t⟩ 8 _ Hi.out).mono ?_
    rintro _ w2 ⟨rfl, hd⟩
    obtain ⟨hz2, r0, r1, r2, r3, r4, r5, rf⟩ := (HasC.mk (w := w1) hz r0 r1 r2 r3 r4 r5 rf).below hd
    go_wp2_with fail
    exact bodyPost_ret (v := .tuple #[.int .u64 (u : Int), cv (fwd ⟨d, a, e, dp, n, t⟩ 8), .int .i64 0]) (by simp [results, Try.results28, go_sem, r0, r1, r2, r3, r4, r5]) rfl (res3_mk Hp (below6 (bt (below2t hb) hd) (by omega) _ _ _ _ _ _))

set_option maxRecDepth 100000 in
set_option maxHeartbeats 400000 in
theorem fixedR (c : Cur) (w : World) (hc : Wf c) :
    Calls Try.prog 34 #[cv c] w (Res3 .u64 (pFixed c) w) := by
  have hle := rest_le c
  have hd := hc.d
  have Hc := Lib.hid hc
  obtain ⟨r, hr⟩ : ∃ r, r = rest c := ⟨_, rfl⟩
  have Hr := Lib.hid hr
  rw [← hr] at hle
  by_cases h8 : r.size < 8
  · have Hp : Hid (pFixed c = (0, c, 4)) := Lib.hid (by unfold pFixed; rw [← hr, if_pos h8])
    clear hr hc
    obtain ⟨d, a, e, dp, n, t⟩ := c
    go_enter Try.func34, Try.ntmps34
    go_wp2_with fail
    refine (restR ⟨d, a, e, dp, n, t⟩ _ Hc.out).mono ?_
    rintro _ w1 ⟨rfl, hb⟩
    rw [← Hr.out]
    have hB := ((has_new _ _ _ _ _ _ _ _).alloc _).below hb
    have hR := (has_new _ _ _ _ _ _ _ _).below hb
    rw [World.size_alloc] at hR
    obtain ⟨-, b0, b1, b2, b3, b4, b5, bf⟩ := hB
    obtain ⟨hz, r0, r1, r2, r3, r4, r5, rf⟩ := hR
    go_wp2_with fail
    go_region
    all_goals
      go_wp2_with fail
      exact bodyPost_ret (v := .tuple #[.int .u64 ((0 : Nat) : Int), cv ⟨d, a, e, dp, n, t⟩, .int .i64 4]) (by simp [results, Try.results34, go_sem, r0, r1, r2, r3, r4, r5]) rfl (res3_mk Hp ((below6 (below2t hb) (by omega) _ _ _ _ _ _).drew))
  · have Hp : Hid (pFixed c = (num (r.data.toList.take 8), fwd c 8, 0)) := Lib.hid (by unfold pFixed; rw [← hr, if_neg h8])
    have hi : inI (c.a + 8) := by
      have hs : sound c = true := by
        cases h : sound c with
        | true => rfl
        | false => rw [hr, rest_size_no h] at h8; omega
      have h1 := sound_iff.1 hs
      have h2 := rest_size_yes hs
      rw [← hr] at h2
      unfold inI; omega
    have Hi := Lib.hid hi
    have h8' : (8 : Int) ≤ r.size := by omega
    clear hr hc hi
    obtain ⟨d, a, e, dp, n, t⟩ := c
    go_enter Try.func34, Try.ntmps34
    go_wp2_with fail
    refine (restR ⟨d, a, e, dp, n, t⟩ _ Hc.out).mono ?_
    rintro _ w1 ⟨rfl, hb⟩
    rw [← Hr.out]
    have hB := ((has_new _ _ _ _ _ _ _ _).alloc _).below hb
    have hR := (has_new _ _ _ _ _ _ _ _).below hb
    rw [World.size_alloc] at hR
    obtain ⟨-, b0, b1, b2, b3, b4, b5, bf⟩ := hB
    obtain ⟨hz, r0, r1, r2, r3, r4, r5, rf⟩ := hR
    go_wp2
    go_loop [6, 7] (fun u i => ∃ k : Nat, k ≤ 8 ∧ i = .int .i64 ((k : Int) - 1) ∧ u = .int .u64 (num ((r.data.toList.take 8).drop k))) (fun _ i => (intOf i + 1).toNat)
    case atStart => exact ⟨8, by omega, rfl, by rw [List.drop_eq_nil_of_le (List.length_take_le _ _)]; rfl⟩
    case round =>
      obtain ⟨k, hk, rfl, rfl⟩ := hrel
      by_cases hlt : 1 ≤ k
      · obtain ⟨j, rfl⟩ : ∃ j, k = j + 1 := ⟨k - 1, by omega⟩
        have hjs : j < r.size := by omega
        have Hs := Lib.hid (num_drop r j hjs (by omega))
        have hc1 : (r[j].toNat : Int) < 256 := by have := r[j].toNat_lt; omega
        have hbd : (num ((r.data.toList.take 8).drop (j + 1)) : Int) * 256 + (r[j].toNat : Int) ≤ 18446744073709551615 := by
          have h1 := num_lt ((r.data.toList.take 8).drop j)
          have h2 : 256 ^ ((r.data.toList.take 8).drop j).length ≤ 256 ^ 8 := Nat.pow_le_pow_right (by omega) (by
            rw [List.length_drop]
            have := List.length_take_le 8 r.data.toList
            omega)
          rw [Hs.out] at h1
          omega
        go_wp2
        go_round
        case rel => exact ⟨j, by omega, by go_num, by rw [Hs.out]; go_num⟩
        case measure => simp [intOf]
      · obtain rfl : k = 0 := by omega
        go_wp2_with fail
        refine (skipR ⟨d, a, e, dp, n, t⟩ 8 _ Hi.out).mono ?_
        rintro _ w2 ⟨rfl, hd⟩
        obtain ⟨hz2, r0, r1, r2, r3, r4, r5, rf⟩ := (HasC.mk (w := w1) hz r0 r1 r2 r3 r4 r5 rf).below hd
        go_wp2_with fail
        exact bodyPost_ret (v := .tuple #[.int .u64 ((num (r.data.toList.take 8) : Nat) : Int), cv (fwd ⟨d, a, e, dp, n, t⟩ 8), .int .i64 0]) (by simp [results, Try.results34, go_sem, r0, r1, r2, r3, r4, r5]) rfl (res3_mk Hp (below6 (bt (below2t hb) hd) (by omega) _ _ _ _ _ _))
end Go.Proofs.Ytdgbbfhhjhhahaa.CurF
