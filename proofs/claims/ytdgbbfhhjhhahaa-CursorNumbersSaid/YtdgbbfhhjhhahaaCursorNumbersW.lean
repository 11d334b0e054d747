/- The walk of the law CursorNumbers. -/
import Derived.Test.YtdgbbfhhjhhahaaCurW
import Derived.Test.YtdgbbfhhjhhahaaCurG
import Derived.Test.YtdgbbfhhjhhahaaCurV
import Derived.Test.YtdgbbfhhjhhahaaCurF
import Derived.Test.YtdgbbfhhjhhahaaPutP
import Derived.Test.YtdgbbfhhjhhahaaFixP
namespace Go.Proofs.Ytdgbbfhhjhhahaa.CursorNumbersW
open Go.RowKit VarM FixM CurM Has Nums CurA CurB CurO CurV CurF CurW CurG PutP FixP

theorem wf_at {s : ByteArray} (hs : s.size ≤ 4000) {k : Nat} (hk : k ≤ 4000) : Wf ⟨s, k, s.size, 0, 0, 0⟩ := by
  refine ⟨by simp only; omega, ?_, ?_, ?_, ?_, ?_⟩ <;> (unfold inI; simp only; omega)

set_option maxRecDepth 100000 in
set_option maxHeartbeats 1000000 in
theorem walk (u : Int) (tail : ByteArray) (hu : (Lit.int .u64 u).wf = true) (ht : tail.size ≤ 140737488351232) (w : World) :
    Calls Try.prog 8 #[.int .u64 u, .string tail] w fun e w' => e = .returned (.bool true) ∧ Below w.heap.size w w' := by
  obtain ⟨u, rfl, hu1⟩ := wf_u64 hu
  clear hu
  by_cases hbig : tail.size ≤ 3000
  · have hl1 : (put u).length ≤ 10 := put_le 9 u (by omega)
    have hl2 := fix_length 8 u
    obtain ⟨s1, hs1⟩ : ∃ s1, s1 = (⟨(put u).toArray⟩ : ByteArray) ++ tail := ⟨_, rfl⟩
    obtain ⟨s2, hs2⟩ : ∃ s2, s2 = (⟨(fix 8 u).toArray⟩ : ByteArray) ++ tail := ⟨_, rfl⟩
    have hz1 : s1.size = (put u).length + tail.size := by rw [hs1]; exact size_mk_append _ _
    have hz2 : s2.size = (fix 8 u).length + tail.size := by rw [hs2]; exact size_mk_append _ _
    have ho1 := open_tail (s := s1) (by omega)
    have ho2 := open_tail (s := s2) (by omega)
    have hd1 : s1.data.toList = put u ++ tail.data.toList := by rw [hs1]; exact append_toList _ _
    have hd2 : s2.data.toList = fix 8 u ++ tail.data.toList := by rw [hs2]; exact append_toList _ _
    have hv := varint_tail hd1 (by omega)
    have hf := fixed_tail hd2 (by omega)
    have hr1 : (rest ⟨s1, (put u).length, s1.size, 0, 0, 0⟩).size = tail.size := by rw [left_at (by omega)]; omega
    have hr2 : (rest ⟨s2, (8 : Nat), s2.size, 0, 0, 0⟩).size = tail.size := by rw [left_at (by omega)]; omega
    have W1 : Hid (s1.size ≤ 140737488355328) := Lib.hid (by omega)
    have W2 : Hid (s2.size ≤ 140737488355328) := Lib.hid (by omega)
    have Wa1 := Lib.hid (wf_at (s := s1) (by omega) (k := 0) (by omega))
    have Wa2 := Lib.hid (wf_at (s := s2) (by omega) (k := 0) (by omega))
    have Wb1 := Lib.hid (wf_at (s := s1) (by omega) (k := (put u).length) (by omega))
    have Wb2 := Lib.hid (wf_at (s := s2) (by omega) (k := 8) (by omega))
    have hsum1 : (put u).length + tail.size ≤ 140737488355328 := by omega
    have hsum2 : (fix 8 u).length + tail.size ≤ 140737488355328 := by omega
    have hsum3 : (((⟨(put u).toArray⟩ : ByteArray).size : Int)) + tail.size ≤ 140737488355328 := by rw [size_mk]; omega
    have hsum4 : (((⟨(fix 8 u).toArray⟩ : ByteArray).size : Int)) + tail.size ≤ 140737488355328 := by rw [size_mk]; omega
    have Hs1 := Lib.hid hs1
    have Hs2 := Lib.hid hs2
    have Hz1 := Lib.hid hz1
    have Hz2 := Lib.hid hz2
    have Ho1 := Lib.hid ho1
    have Ho2 := Lib.hid ho2
    have Hv := Lib.hid hv
    have Hf := Lib.hid hf
    have Hr1 := Lib.hid hr1
    have Hr2 := Lib.hid hr2
    have Hu := Lib.hid hu1
    clear hs1 hs2 hz1 hz2 ho1 ho2 hd1 hd2 hv hf hr1 hr2 hl2
    go_enter Try.func8, Try.ntmps8
    go_wp2_with fail
    refine (put_any u _ Hu.out).mono ?_
    rintro _ w1 ⟨rfl, hb1⟩
    go_wp2_with fail
    rw [← Hs1.out]
    refine (openP s1 4000 0 0 0 _ W1.out (by unfold inI; omega) (by unfold inI; omega) (by unfold inI; omega) (by unfold inI; omega)).mono ?_
    rintro _ w2 ⟨c2, x2, rfl, k2, hb2⟩
    obtain ⟨rfl, rfl⟩ := inj2 Ho1.out k2.out
    clear k2
    have hA := has_new w2 s1 0 s1.size 0 0 0 23
    go_wp2_with fail
    refine (fixed_any u _ Hu.out).mono ?_
    rintro _ w3 ⟨rfl, hb3⟩
    have hA := hA.below hb3
    go_wp2_with fail
    rw [← Hs2.out]
    refine (openP s2 4000 0 0 0 _ W2.out (by unfold inI; omega) (by unfold inI; omega) (by unfold inI; omega) (by unfold inI; omega)).mono ?_
    rintro _ w4 ⟨c4, x4, rfl, k4, hb4⟩
    obtain ⟨rfl, rfl⟩ := inj2 Ho2.out k4.out
    clear k4
    have hA := hA.below hb4
    have hB := has_new w4 s2 0 s2.size 0 0 0 23
    obtain ⟨l0, a0, a1, a2, a3, a4, a5, af⟩ := hA
    go_wp2_with fail
    refine (varintP ⟨s1, (0 : Nat), s1.size, 0, 0, 0⟩ _ Wa1.out).mono ?_
    rintro _ w5 ⟨b5, c5, x5, rfl, k5, hb5⟩
    obtain ⟨rfl, rfl, rfl⟩ := inj3 k5.out Hv.out
    clear k5 a0 a1 a2 a3 a4 a5 af
    obtain ⟨l1, b0, b1, b2, b3, b4, b5, bf⟩ := hB.below hb5
    have hC := has_new w5 s1 (put u).length s1.size 0 0 0 23
    go_wp2_with fail
    refine (fixedP ⟨s2, (0 : Nat), s2.size, 0, 0, 0⟩ _ Wa2.out).mono ?_
    rintro _ w6 ⟨b6, c6, x6, rfl, k6, hb6⟩
    obtain ⟨rfl, rfl, rfl⟩ := inj3 k6.out Hf.out
    clear k6 b0 b1 b2 b3 b4 b5 bf
    have hC := hC.below hb6
    have hD := has_new w6 s2 (8 : Nat) s2.size 0 0 0 23
    obtain ⟨l2, c0, c1, c2, c3, c4, c5, cf⟩ := hC
    go_wp2_with fail
    refine (leftP ⟨s1, (put u).length, s1.size, 0, 0, 0⟩ _ Wb1.out).mono ?_
    rintro _ w7 ⟨rfl, hb7⟩
    rw [Hr1.out]
    obtain ⟨l3, d0, d1, d2, d3, d4, d5, df⟩ := hD.below hb7
    go_wp2_with fail
    refine (leftP ⟨s2, (8 : Nat), s2.size, 0, 0, 0⟩ _ Wb2.out).mono ?_
    rintro _ w8 ⟨rfl, hb8⟩
    rw [Hr2.out]
    go_wp2_with fail
    refine (awake_any _).mono ?_
    rintro _ w9 ⟨rfl, hb9⟩
    go_wp2_with fail
    go_ret
    exact ⟨rfl, bt (bt (bt (bt (bt (bt (bt (bt hb1 hb2) (below1t hb3)) hb4) (below1t hb5)) (below1t hb6)) (below1t hb7)) hb8) hb9⟩
  · have hbig' : (3000 : Int) < tail.size := by omega
    go_enter Try.func8, Try.ntmps8
    go_wp2_with fail
    refine (awake_any _).mono ?_
    rintro _ w2 ⟨rfl, hb2⟩
    go_wp2_with fail
    go_ret
    exact ⟨rfl, hb2⟩
end Go.Proofs.Ytdgbbfhhjhhahaa.CursorNumbersW
