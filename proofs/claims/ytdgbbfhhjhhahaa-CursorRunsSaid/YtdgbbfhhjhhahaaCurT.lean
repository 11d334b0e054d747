/- Contracts of Text, of the program and of the reference. -/
import Derived.Test.YtdgbbfhhjhhahaaCurC
import Derived.Test.YtdgbbfhhjhhahaaBytT
import Derived.Test.YtdgbbfhhjhhahaaByc
import Derived.RegionTactic
import Derived.ChangeAlike
import Derived.Deep.RegionWith
namespace Go.Proofs.Ytdgbbfhhjhhahaa.CurT
open Go.RowKit CurM Has Nums CurA CurC Byt Byc BytT

/-- A part of a string, as bytes. -/
def PartR (s : ByteArray) (n : Nat) (w : World) (e : Ending) (w' : World) : Prop :=
  ∃ v, e = .returned v ∧ Hid (∀ w2, Below w'.heap.size w' w2 → (convert 56 9 v).run Try.prog w2 = .ok (.string (s.extract 0 n)) w2) ∧ Below w.heap.size w w'
theorem partR_mk {s : ByteArray} {n : Nat} {w w' : World} {v : Value} (h : Hid (∀ w2, Below w'.heap.size w' w2 → (convert 56 9 v).run Try.prog w2 = .ok (.string (s.extract 0 n)) w2)) (hb : Below w.heap.size w w') :
    PartR s n w (.returned v) w' := ⟨v, rfl, h, hb⟩

set_option maxRecDepth 100000 in
set_option maxHeartbeats 400000 in
theorem partP (s : ByteArray) (n : Nat) (w : World) (hn : n ≤ s.size) (hs : s.size ≤ 140737488355328) :
    Calls Try.prog 38 #[.string s, .int .i64 n] w (PartR s n w) := by
  have hsz : (s.extract 0 n).size = n := by rw [ByteArray.size_extract]; omega
  obtain ⟨cap, W', hcv, hown, hb⟩ := conv_bytes w bytesT Try.underlying9 (s.extract 0 n).data.toList n (by rw [size_toList, hsz]) (by unfold maxLen; omega)
  have hcv : (convert 9 56 (.string (s.extract 0 n))).run Try.prog w = _ := hcv
  obtain ⟨q, hq⟩ : ∃ q, q = s.extract 0 n := ⟨_, rfl⟩
  have Hown := Lib.hid hown
  have hcap : n ≤ cap := (OwnC.parts hown).2.2.2.1
  have hcap2 : cap ≤ 9223372036854775807 := by have := (OwnC.parts hown).2.2.2.2.1; unfold maxLen at this; omega
  clear hown hq
  have Hconv : Hid (∀ w2, Below W'.heap.size W' w2 → (convert 56 9 (.slice (some ⟨w.heap.size, 0, none⟩) n n)).run Try.prog w2 = .ok (.string (s.extract 0 n)) w2) := Lib.hid (fun w2 hb2 => by
    have h1 := (OwnC.below Hown.out hb2).conv_part bytesT Try.underlying9 (n := n) (cap' := n) (Nat.le_refl _)
    rw [h1, List.take_of_length_le (by rw [size_toList, hsz]; omega)])
  clear hsz Hown
  go_enter Try.func38, Try.ntmps38
  go_wp2_with fail
  go_ret
  exact partR_mk Hconv hb

set_option maxRecDepth 100000 in
set_option maxHeartbeats 1000000 in
theorem textP (c : Cur) (n : Int) (w : World) (hc : Wf c) (hn : inI n) :
    Calls Try.prog 23 #[cv c, .int .i64 n] w (Res3s (pText c n) w) := by
  have hle := rest_le c
  have hd := hc.d
  obtain ⟨h4, h5⟩ := hc.t
  obtain ⟨h8, h9⟩ := hc.a
  have Hn := Lib.hid hn
  obtain ⟨h6, h7⟩ := hn
  have Hc := Lib.hid hc
  clear hc
  by_cases h1 : n < 0
  ·
    have Hp : Hid (pText c n = (⟨#[]⟩, c, 1)) := Lib.hid (by unfold pText; rw [if_pos h1])
    have Hx := Lib.hid (show pEnough c n = 1 by unfold pEnough; rw [if_pos h1])
    obtain ⟨d, a, e, dp, m, t⟩ := c
    simp only at hd h4 h5 h8 h9
    go_enter Try.func23, Try.ntmps23
    go_wp2_with fail
    refine (enoughP ⟨d, a, e, dp, m, t⟩ n _ Hc.out Hn.out 1 Hx.out).mono ?_
    rintro _ w1 ⟨rfl, hb⟩
    have hB := ((has_new _ _ _ _ _ _ _ _).alloc _).below hb
    have hR := (has_new _ _ _ _ _ _ _ _).below hb
    rw [World.size_alloc] at hR
    obtain ⟨-, b0, b1, b2, b3, b4, b5, bf⟩ := hB
    obtain ⟨hz, r0, r1, r2, r3, r4, r5, rf⟩ := hR
    go_wp2_with fail
    go_region
    all_goals
      go_wp2_with fail
      exact bodyPost_ret (v := .tuple #[.string ⟨#[]⟩, cv ⟨d, a, e, dp, m, t⟩, .int .i64 1]) (by simp [results, Try.results23, go_sem, r0, r1, r2, r3, r4, r5]) rfl (res3s_mk Hp ((below6 (below2t hb) (by omega) _ _ _ _ _ _).drew))
  · by_cases h2 : ((rest c).size : Int) < n
    ·
      have Hp : Hid (pText c n = (⟨#[]⟩, c, 4)) := Lib.hid (by unfold pText; rw [if_neg h1, if_pos h2])
      have Hx := Lib.hid (show pEnough c n = 4 by unfold pEnough; rw [if_neg h1, if_pos h2])
      obtain ⟨d, a, e, dp, m, t⟩ := c
      simp only at hd h4 h5 h8 h9
      go_enter Try.func23, Try.ntmps23
      go_wp2_with fail
      refine (enoughP ⟨d, a, e, dp, m, t⟩ n _ Hc.out Hn.out 4 Hx.out).mono ?_
      rintro _ w1 ⟨rfl, hb⟩
      have hB := ((has_new _ _ _ _ _ _ _ _).alloc _).below hb
      have hR := (has_new _ _ _ _ _ _ _ _).below hb
      rw [World.size_alloc] at hR
      obtain ⟨-, b0, b1, b2, b3, b4, b5, bf⟩ := hB
      obtain ⟨hz, r0, r1, r2, r3, r4, r5, rf⟩ := hR
      go_wp2_with fail
      go_region
      all_goals
        go_wp2_with fail
        exact bodyPost_ret (v := .tuple #[.string ⟨#[]⟩, cv ⟨d, a, e, dp, m, t⟩, .int .i64 4]) (by simp [results, Try.results23, go_sem, r0, r1, r2, r3, r4, r5]) rfl (res3s_mk Hp ((below6 (below2t hb) (by omega) _ _ _ _ _ _).drew))
    · by_cases h3 : c.t < n
      ·
        have Hp : Hid (pText c n = (⟨#[]⟩, c, 3)) := Lib.hid (by unfold pText; rw [if_neg h1, if_neg h2, if_pos h3])
        have Hx := Lib.hid (show pEnough c n = 0 by unfold pEnough; rw [if_neg h1, if_neg h2])
        obtain ⟨d, a, e, dp, m, t⟩ := c
        simp only at hd h3 h4 h5 h8 h9
        go_enter Try.func23, Try.ntmps23
        go_wp2_with fail
        refine (enoughP ⟨d, a, e, dp, m, t⟩ n _ Hc.out Hn.out 0 Hx.out).mono ?_
        rintro _ w1 ⟨rfl, hb⟩
        have hB := ((has_new _ _ _ _ _ _ _ _).alloc _).below hb
        have hR := (has_new _ _ _ _ _ _ _ _).below hb
        rw [World.size_alloc] at hR
        obtain ⟨-, b0, b1, b2, b3, b4, b5, bf⟩ := hB
        obtain ⟨hz, r0, r1, r2, r3, r4, r5, rf⟩ := hR
        go_wp2_with fail
        go_region
        all_goals
          go_wp2_with fail
          exact bodyPost_ret (v := .tuple #[.string ⟨#[]⟩, cv ⟨d, a, e, dp, m, t⟩, .int .i64 3]) (by simp [results, Try.results23, go_sem, r0, r1, r2, r3, r4, r5]) rfl (res3s_mk Hp ((below6 (below2t hb) (by omega) _ _ _ _ _ _).drew))
      · obtain ⟨m, rfl⟩ : ∃ m : Nat, n = m := ⟨n.toNat, by omega⟩
        obtain ⟨r, hr⟩ : ∃ r, r = rest c := ⟨_, rfl⟩
        have Hp : Hid (pText c m = (r.extract 0 m, fwd c m, 0)) := Lib.hid (by unfold pText; rw [if_neg h1, if_neg h2, if_neg h3, hr]; rfl)
        have Hx := Lib.hid (show pEnough c m = 0 by unfold pEnough; rw [if_neg h1, if_neg h2])
        have h10 : inI (c.a + m) := by
          unfold inI
          cases h : sound c with
          | true => have := rest_size_yes h; have := sound_iff.1 h; omega
          | false => have := rest_size_no h; omega
        have Hi := Lib.hid h10
        have Hr := Lib.hid hr
        rw [← hr] at hle h2
        have Hm : Hid (m ≤ r.size) := Lib.hid (by omega)
        have Hs : Hid (r.size ≤ 140737488355328) := Lib.hid (by omega)
        clear hr h10
        obtain ⟨d, a, e, dp, nn, t⟩ := c
        simp only at hd h3 h4 h5 h8 h9
        go_enter Try.func23, Try.ntmps23
        go_wp2_with fail
        refine (enoughP ⟨d, a, e, dp, nn, t⟩ m _ Hc.out Hn.out 0 Hx.out).mono ?_
        rintro _ w1 ⟨rfl, hb⟩
        have hB := ((has_new _ _ _ _ _ _ _ _).alloc _).below hb
        have hR := (has_new _ _ _ _ _ _ _ _).below hb
        rw [World.size_alloc] at hR
        obtain ⟨-, b0, b1, b2, b3, b4, b5, bf⟩ := hB
        obtain ⟨hz, r0, r1, r2, r3, r4, r5, rf⟩ := hR
        go_wp2_with fail
        go_region_with (first
          | (go_at_call 29; refine (restP ⟨d, a, e, dp, nn, t⟩ _ Hc.out).mono ?_; rintro _ w2 ⟨rfl, hd2⟩; rw [← Hr.out]; obtain ⟨-, b0, b1, b2, b3, b4, b5, bf⟩ := (HasC.mk (w := w1) (Nat.lt_of_succ_lt hz) b0 b1 b2 b3 b4 b5 bf).drew.below hd2; obtain ⟨hz, r0, r1, r2, r3, r4, r5, rf⟩ := (HasC.mk (w := w1) hz r0 r1 r2 r3 r4 r5 rf).drew.below hd2)
          | (go_at_call 38; refine (partP r m _ Hm.out Hs.out).mono ?_; rintro _ w3 ⟨v, rfl, Hconv, hd3⟩; have hcv := Hconv.out _ (Below.refl _ _); obtain ⟨-, b0, b1, b2, b3, b4, b5, bf⟩ := (HasC.mk (w := w2) (Nat.lt_of_succ_lt hz) b0 b1 b2 b3 b4 b5 bf).below hd3; obtain ⟨hz, r0, r1, r2, r3, r4, r5, rf⟩ := (HasC.mk (w := w2) hz r0 r1 r2 r3 r4 r5 rf).below hd3)
          | (go_at_call 39; refine (skipP ⟨d, a, e, dp, nn, t⟩ m _ Hi.out).mono ?_; rintro _ w4 ⟨rfl, hd4⟩; have hcv4 := Hconv.out _ hd4; obtain ⟨-, b0, b1, b2, b3, b4, b5, bf⟩ := (HasC.mk (w := w3) (Nat.lt_of_succ_lt hz) b0 b1 b2 b3 b4 b5 bf).below hd4; obtain ⟨hz, r0, r1, r2, r3, r4, r5, rf⟩ := (HasC.mk (w := w3) hz r0 r1 r2 r3 r4 r5 rf).below hd4))
        all_goals
          go_wp2_with fail
          exact bodyPost_ret (v := .tuple #[.string (r.extract 0 m), cv (fwd ⟨d, a, e, dp, nn, t⟩ m), .int .i64 0]) (by simp [results, Try.results23, go_sem, r0, r1, r2, r3, r4, r5]) rfl (res3s_mk Hp (below6 (bt (bt (bt (below2t hb).drew hd2) hd3) hd4) (by omega) _ _ _ _ _ _))
end Go.Proofs.Ytdgbbfhhjhhahaa.CurT
