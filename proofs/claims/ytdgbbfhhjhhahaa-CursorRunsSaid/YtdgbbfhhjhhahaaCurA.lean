/- Contracts of Sound, rest, Left and skip, of the program and of the reference. -/
import Derived.Test.YtdgbbfhhjhhahaaHas
import Derived.Test.YtdgbbfhhjhhahaaNums
import Derived.IntWalk
namespace Go.Proofs.Ytdgbbfhhjhhahaa.CurA
open Go.RowKit CurM Has Nums

theorem bcell {W w1 : World} (hb : Below W.heap.size W w1) : (∀ b o, b < W.heap.size → w1.cell? ⟨b, o, none⟩ = W.cell? ⟨b, o, none⟩) ∧ (∀ b o, b < W.heap.size → w1.frozen? ⟨b, o, none⟩ = W.frozen? ⟨b, o, none⟩) :=
  ⟨fun b o h => hb.cell (p := ⟨b, o, none⟩) h, fun b o h => hb.frozen (p := ⟨b, o, none⟩) h⟩
theorem retb {a b : Bool} (h : a = b) : Ending.returned (.bool a) = .returned (.bool b) := by rw [h]
theorem rets {a b : ByteArray} (h : a = b) : Ending.returned (.string a) = .returned (.string b) := by rw [h]
theorem reti {k : IntKind} {a b : Int} (h : a = b) : Ending.returned (.int k a) = .returned (.int k b) := by rw [h]
theorem i64in {x : Int} (h : inI x) : IntKind.i64.wrap x = x := by rw [IntWalk.i64_in _ h]

set_option maxRecDepth 100000 in
set_option maxHeartbeats 400000 in
theorem soundP (c : Cur) (w : World) (hc : Wf c) (b : Bool) (hb : sound c = b) :
    Calls Try.prog 9 #[cv c] w fun e w' => e = .returned (.bool b) ∧ Below w.heap.size w w' := by
  obtain ⟨d, a, e, dp, n, t⟩ := c
  obtain ⟨h1, ⟨h2, h3⟩, ⟨h4, h5⟩, -, -, -⟩ := hc
  simp only at h1 h2 h3 h4 h5
  have Hs := Lib.hid (show (decide (0 ≤ a) && (decide (a ≤ e) && decide (e ≤ d.size))) = b from hb)
  clear hb
  go_enter Try.func9, Try.ntmps9
  go_wp2
  all_goals
    go_ret
    refine ⟨retb ?_, (Below.refl _ _).alloc (Nat.le_refl _) _⟩
    rw [← Hs.out, Bool.eq_iff_iff]
    simp
    try omega

set_option maxRecDepth 100000 in
set_option maxHeartbeats 400000 in
theorem restP (c : Cur) (w : World) (hc : Wf c) :
    Calls Try.prog 29 #[cv c] w fun e w' => e = .returned (.string (rest c)) ∧ Below w.heap.size w w' := by
  obtain ⟨d, a, e, dp, n, t⟩ := c
  by_cases hs : sound ⟨d, a, e, dp, n, t⟩ = true
  · have Hs := Lib.hid hs
    have Hr := Lib.hid (rest_yes hs)
    have Hc := Lib.hid hc
    obtain ⟨s1, s2, s3⟩ := sound_iff.1 hs
    simp only at s1 s2 s3
    obtain ⟨h1, ⟨h2, h3⟩, ⟨h4, h5⟩, -, -, -⟩ := hc
    simp only at h1 h2 h3 h4 h5
    clear hs
    go_enter Try.func29, Try.ntmps29
    go_wp2_with fail
    refine (soundP ⟨d, a, e, dp, n, t⟩ _ Hc.out true Hs.out).mono ?_
    rintro _ w1 ⟨rfl, hb⟩
    obtain ⟨hb1, hb2⟩ := bcell hb
    have hz := hb.size
    go_wp2
    go_ret
    refine ⟨rets Hr.out.symm, ((Below.refl _ _).alloc (Nat.le_refl _) _).trans (hb.mono (by simp))⟩
  · have hs : sound ⟨d, a, e, dp, n, t⟩ = false := by simpa using hs
    have Hs := Lib.hid hs
    have Hr := Lib.hid (rest_no hs)
    have Hc := Lib.hid hc
    clear hs hc
    go_enter Try.func29, Try.ntmps29
    go_wp2_with fail
    refine (soundP ⟨d, a, e, dp, n, t⟩ _ Hc.out false Hs.out).mono ?_
    rintro _ w1 ⟨rfl, hb⟩
    go_wp2
    go_ret
    refine ⟨rets Hr.out.symm, ((Below.refl _ _).alloc (Nat.le_refl _) _).trans (hb.mono (by simp))⟩

set_option maxRecDepth 100000 in
set_option maxHeartbeats 400000 in
theorem leftP (c : Cur) (w : World) (hc : Wf c) :
    Calls Try.prog 11 #[cv c] w fun e w' => e = .returned (.int .i64 (rest c).size) ∧ Below w.heap.size w w' := by
  have hle := rest_le c
  have hd := hc.d
  have Hc := Lib.hid hc
  clear hc
  obtain ⟨d, a, e, dp, n, t⟩ := c
  go_enter Try.func11, Try.ntmps11
  go_wp2_with fail
  refine (restP ⟨d, a, e, dp, n, t⟩ _ Hc.out).mono ?_
  rintro _ w1 ⟨rfl, hb⟩
  go_wp2
  go_ret
  exact ⟨rfl, ((Below.refl _ _).alloc (Nat.le_refl _) _).trans (hb.mono (by simp))⟩

set_option maxRecDepth 100000 in
set_option maxHeartbeats 400000 in
theorem skipP (c : Cur) (m : Int) (w : World) (h : inI (c.a + m)) :
    Calls Try.prog 39 #[cv c, .int .i64 m] w fun e w' => e = .returned (cv (fwd c m)) ∧ Below w.heap.size w w' := by
  obtain ⟨d, a, e, dp, n, t⟩ := c
  obtain ⟨h1, h2⟩ := h
  simp only at h1 h2
  go_enter Try.func39, Try.ntmps39
  go_wp2
  exact bodyPost_ret (v := cv (fwd ⟨d, a, e, dp, n, t⟩ m)) (by simp [results, Try.results39, go_sem, fwd]) rfl ⟨rfl, ((Below.refl _ _).alloc (Nat.le_refl _) _).alloc (by simp) _⟩

set_option maxRecDepth 100000 in
set_option maxHeartbeats 400000 in
theorem soundR (c : Cur) (w : World) (hc : Wf c) (b : Bool) (hb : sound c = b) :
    Calls Try.prog 10 #[cv c] w fun e w' => e = .returned (.bool b) ∧ Below w.heap.size w w' := by
  obtain ⟨d, a, e, dp, n, t⟩ := c
  obtain ⟨h1, ⟨h2, h3⟩, ⟨h4, h5⟩, -, -, -⟩ := hc
  simp only at h1 h2 h3 h4 h5
  have Hs := Lib.hid (show (decide (0 ≤ a) && (decide (a ≤ e) && decide (e ≤ d.size))) = b from hb)
  clear hb
  go_enter Try.func10, Try.ntmps10
  go_wp2
  all_goals
    go_ret
    refine ⟨retb ?_, (Below.refl _ _).alloc (Nat.le_refl _) _⟩
    rw [← Hs.out, Bool.eq_iff_iff]
    simp
    try omega

set_option maxRecDepth 100000 in
set_option maxHeartbeats 400000 in
theorem restR (c : Cur) (w : World) (hc : Wf c) :
    Calls Try.prog 30 #[cv c] w fun e w' => e = .returned (.string (rest c)) ∧ Below w.heap.size w w' := by
  obtain ⟨d, a, e, dp, n, t⟩ := c
  by_cases hs : sound ⟨d, a, e, dp, n, t⟩ = true
  · have Hs := Lib.hid hs
    have Hr := Lib.hid (rest_yes hs)
    have Hc := Lib.hid hc
    obtain ⟨s1, s2, s3⟩ := sound_iff.1 hs
    simp only at s1 s2 s3
    obtain ⟨h1, ⟨h2, h3⟩, ⟨h4, h5⟩, -, -, -⟩ := hc
    simp only at h1 h2 h3 h4 h5
    clear hs
    go_enter Try.func30, Try.ntmps30
    go_wp2_with fail
    refine (soundR ⟨d, a, e, dp, n, t⟩ _ Hc.out true Hs.out).mono ?_
    rintro _ w1 ⟨rfl, hb⟩
    obtain ⟨hb1, hb2⟩ := bcell hb
    have hz := hb.size
    go_wp2
    go_ret
    refine ⟨rets Hr.out.symm, ((Below.refl _ _).alloc (Nat.le_refl _) _).trans (hb.mono (by simp))⟩
  · have hs : sound ⟨d, a, e, dp, n, t⟩ = false := by simpa using hs
    have Hs := Lib.hid hs
    have Hr := Lib.hid (rest_no hs)
    have Hc := Lib.hid hc
    clear hs hc
    go_enter Try.func30, Try.ntmps30
    go_wp2_with fail
    refine (soundR ⟨d, a, e, dp, n, t⟩ _ Hc.out false Hs.out).mono ?_
    rintro _ w1 ⟨rfl, hb⟩
    go_wp2
    go_ret
    refine ⟨rets Hr.out.symm, ((Below.refl _ _).alloc (Nat.le_refl _) _).trans (hb.mono (by simp))⟩

set_option maxRecDepth 100000 in
set_option maxHeartbeats 400000 in
theorem leftR (c : Cur) (w : World) (hc : Wf c) :
    Calls Try.prog 12 #[cv c] w fun e w' => e = .returned (.int .i64 (rest c).size) ∧ Below w.heap.size w w' := by
  have hle := rest_le c
  have hd := hc.d
  have Hc := Lib.hid hc
  clear hc
  obtain ⟨d, a, e, dp, n, t⟩ := c
  go_enter Try.func12, Try.ntmps12
  go_wp2_with fail
  refine (restR ⟨d, a, e, dp, n, t⟩ _ Hc.out).mono ?_
  rintro _ w1 ⟨rfl, hb⟩
  go_wp2
  go_ret
  exact ⟨rfl, ((Below.refl _ _).alloc (Nat.le_refl _) _).trans (hb.mono (by simp))⟩

set_option maxRecDepth 100000 in
set_option maxHeartbeats 400000 in
theorem skipR (c : Cur) (m : Int) (w : World) (h : inI (c.a + m)) :
    Calls Try.prog 42 #[cv c, .int .i64 m] w fun e w' => e = .returned (cv (fwd c m)) ∧ Below w.heap.size w w' := by
  obtain ⟨d, a, e, dp, n, t⟩ := c
  obtain ⟨h1, h2⟩ := h
  simp only at h1 h2
  go_enter Try.func42, Try.ntmps42
  go_wp2
  exact bodyPost_ret (v := cv (fwd ⟨d, a, e, dp, n, t⟩ m)) (by simp [results, Try.results42, go_sem, fwd]) rfl ⟨rfl, ((Below.refl _ _).alloc (Nat.le_refl _) _).alloc (by simp) _⟩
end Go.Proofs.Ytdgbbfhhjhhahaa.CurA
