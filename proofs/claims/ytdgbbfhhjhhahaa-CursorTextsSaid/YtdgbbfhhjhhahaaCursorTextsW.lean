/- The walk of the law CursorTexts. -/
import Derived.Test.YtdgbbfhhjhhahaaCurW
import Derived.Test.YtdgbbfhhjhhahaaCurG
namespace Go.Proofs.Ytdgbbfhhjhhahaa.CursorTextsW
open Go.RowKit CurM Has Nums CurA CurB CurT CurW CurG

theorem byte_at {d : ByteArray} {a e dp nn t : Int} {k m : Nat} {s r : ByteArray} (hr : r = rest ⟨d, a, e, dp, nn, t⟩) (hs : s = r.extract 0 m) (hm : m ≤ r.size) (hk : k < m) (hk' : k < s.size) :
    pByte ⟨d, a + k, e, dp, nn, t⟩ = ((s[k]).toNat, ⟨d, a + (k + 1 : Nat), e, dp, nn, t⟩, 0) := by
  subst hr
  exact byte_fwd hs hm hk hk'

set_option maxRecDepth 100000 in
set_option maxHeartbeats 1000000 in
theorem walk (c : Cur) (n : Int) (hc : Wf c) (hn : (Lit.int .i64 n).wf = true) (w : World) :
    Calls Try.prog 7 #[cv c, .int .i64 n] w fun e w' => e = .returned (.bool true) ∧ Below w.heap.size w w' := by
  have hd := hc.d
  have hle := rest_le c
  have hin := wf_i64 hn
  have Hn : Hid (inI n) := Lib.hid hin
  obtain ⟨h6, h7⟩ := hin
  obtain ⟨h8, h9⟩ := hc.a
  have Hc := Lib.hid hc
  clear hn
  by_cases hbig : c.d.size ≤ 3000
  · rcases text_cases c n with ⟨x, hx, hp⟩ | ⟨m, rfl, hm, hp⟩
    · have Hp := Lib.hid hp
      clear hp hc
      obtain ⟨d, a, e, dp, nn, t⟩ := c
      simp only at hd hbig
      go_enter Try.func7, Try.ntmps7
      go_wp2_with fail
      refine (textP ⟨d, a, e, dp, nn, t⟩ n _ Hc.out Hn.out).mono ?_
      rintro _ w1 ⟨b1, c1, x1, rfl, k1, hb1⟩
      obtain ⟨rfl, rfl, rfl⟩ := inj3 k1.out Hp.out
      clear k1
      obtain ⟨lr, r0, r1, r2, r3, r4, r5, rf⟩ := (has_new _ _ _ _ _ _ _ _).below hb1
      go_wp2_with fail
      refine (awake_any _).mono ?_
      rintro _ w2 ⟨rfl, hb2⟩
      go_wp2_with fail
      go_ret
      exact ⟨rfl, bt (below1t hb1) (below1t hb2)⟩
    · obtain ⟨r, hr⟩ : ∃ r, r = rest c := ⟨_, rfl⟩
      rw [← hr] at hm hle
      obtain ⟨s, hs⟩ : ∃ s, s = r.extract 0 m := ⟨_, rfl⟩
      have hp : pText c m = (s, fwd c m, 0) := by rw [hp, hs, hr]
      have hsz : s.size = m := by rw [hs, ByteArray.size_extract]; omega
      have Hp := Lib.hid hp
      have Hr := Lib.hid hr
      have Hs := Lib.hid hs
      have Hsz := Lib.hid hsz
      have hamax : c.a + m ≤ 9223372036854775807 := by
        cases h : sound c with
        | true => have h1 := rest_size_yes h; have h2 := sound_iff.1 h; rw [← hr] at h1; omega
        | false => have h1 := rest_size_no h; rw [← hr] at h1; omega
      clear hp hr hs hsz
      obtain ⟨d, a, e, dp, nn, t⟩ := c
      have Hwf : Hid (∀ k : Nat, k ≤ m → Wf ⟨d, a + k, e, dp, nn, t⟩) := Lib.hid (fun k hk => ⟨hc.d, by simp only at h8 hamax; unfold inI; simp only; omega, hc.e, hc.dp, hc.n, hc.t⟩)
      simp only at hd hbig h8 h9 hle hamax
      clear hc
      have Hp : Hid (pText ⟨d, a, e, dp, nn, t⟩ m = (s, ⟨d, a + m, e, dp, nn, t⟩, 0)) := Lib.hid Hp.out
      have hdec1 : decide (d.size < m) = false := by simp; omega
      have hdec2 : decide ((3000 : Int) < d.size) = false := by simp; omega
      go_enter Try.func7, Try.ntmps7
      go_wp2_with fail
      refine (textP ⟨d, a, e, dp, nn, t⟩ m _ Hc.out Hn.out).mono ?_
      rintro _ w1 ⟨b1, c1, x1, rfl, k1, hb1⟩
      obtain ⟨rfl, rfl, rfl⟩ := inj3 k1.out Hp.out
      clear k1
      have hA := (has_new _ _ _ _ _ _ _ _).below hb1
      obtain ⟨lr, r0, r1, r2, r3, r4, r5, rf⟩ := hA
      have hs1 : (s.size : Int) ≤ m := by rw [Hsz.out]; omega
      have hs2 : (m : Int) ≤ s.size := by rw [Hsz.out]; omega
      go_wp2_with fail
      have hA0 : HasC (w1.alloc (.cells #[.string d, .int .i64 (a + m), .int .i64 e, .int .i64 dp, .int .i64 nn, .int .i64 t] 23)) w.heap.size d a e dp nn t := (HasC.mk lr r0 r1 r2 r3 r4 r5 rf).alloc _
      have hK0 := has_new w1 d (a + m) e dp nn t 23
      have hb0 : Below w.heap.size w (w1.alloc (.cells #[.string d, .int .i64 (a + m), .int .i64 e, .int .i64 dp, .int .i64 nn, .int .i64 t] 23)) := bt (below1t hb1) (below1 _)
      obtain ⟨K, hK⟩ : ∃ K, K = w1.heap.size := ⟨_, rfl⟩
      have HK := Lib.hid hK
      have hne : K ≠ w.heap.size := by omega
      have Hne := Lib.hid hne
      clear r0 r1 r2 r3 r4 r5 rf hne
      rw [← hK] at hK0
      clear hK
      go_loopw [8] (fun i wr => ∃ k : Nat, k ≤ m ∧ i = .int .i64 k ∧ HasC wr w.heap.size d (a + k) e dp nn t ∧ HasC wr K d (a + m) e dp nn t ∧ Below w.heap.size w wr) (fun i _ => m - (intOf i).toNat)
      case atStart => exact ⟨0, by omega, rfl, by simpa [fwd] using hA0, by simpa [fwd] using hK0, by simpa [fwd] using hb0⟩
      case round =>
        obtain ⟨k, hk, rfl, hA, hKK, hbel⟩ := hrel
        clear hA0 hK0 hb0
        have HA := Lib.hid hA
        have HKK := Lib.hid hKK
        obtain ⟨ar, a0, a1, a2, a3, a4, a5, af⟩ := hA
        obtain ⟨kr, g0, g1, g2, g3, g4, g5, gf⟩ := hKK
        rw [HK.out] at g0 g1 g2 g3 g4 g5 gf
        by_cases hlt : k < m
        · have hks : k < s.size := by omega
          have hks' : (k : Int) < s.size := by omega
          have Hbyte := Lib.hid (byte_at Hr.out Hs.out hm hlt hks)
          have hc256 : (s[k].toNat : Int) < 256 := by have := s[k].toNat_lt; omega
          go_wp2_with fail
          refine (byteP ⟨d, a + k, e, dp, nn, t⟩ _ (Hwf.out k hk)).mono ?_
          rintro _ w2 ⟨b2, c2, x2, rfl, k2, hb2⟩
          obtain ⟨rfl, rfl, rfl⟩ := inj3 Hbyte.out k2.out
          clear k2 a0 a1 a2 a3 a4 a5 af g0 g1 g2 g3 g4 g5 gf
          have hA2 := HA.out.below hb2
          have hK2 := HKK.out.below hb2
          have HA2 := Lib.hid hA2
          have HK2 := Lib.hid hK2
          obtain ⟨ar2, a0, a1, a2, a3, a4, a5, af⟩ := hA2
          clear hK2
          go_wp2_with fail
          have ek : ((k + 1 : Nat) : Int) = (k : Int) + 1 := by simp
          have Ek := Lib.hid ek
          clear ek
          refine ⟨⟨k + 1, by omega, by rw [Ek.out], ?_, (HK2.out.set6o Hne.out _ _ _ _ _ _).alloc _, bt (below6 (bt hbel hb2) (Nat.le_refl _) _ _ _ _ _ _) (below1 _)⟩, by simp [intOf]; omega⟩
          rw [Ek.out]
          exact (HA2.out.set6 d (a + ((k : Int) + 1)) e dp nn t).alloc _
        · obtain rfl : k = m := by omega
          go_wp2_with fail
          refine (awake_any _).mono ?_
          rintro _ w3 ⟨rfl, hb3⟩
          go_wp2_with fail
          go_ret
          exact ⟨rfl, bt hbel hb3⟩
  · have hbig' : (3000 : Int) < c.d.size := by omega
    clear hc
    obtain ⟨d, a, e, dp, nn, t⟩ := c
    simp only at hd hbig'
    go_enter Try.func7, Try.ntmps7
    go_wp2_with fail
    refine (awake_any _).mono ?_
    rintro _ w2 ⟨rfl, hb2⟩
    go_wp2_with fail
    go_ret
    exact ⟨rfl, below1t hb2⟩
end Go.Proofs.Ytdgbbfhhjhhahaa.CursorTextsW
