/- The program's Text where the value does not fit or is a number with a sign; awake. -/
import Derived.Test.YthjpchnogllliaaDoorScpD
set_option linter.unusedSimpArgs false
set_option linter.unusedVariables false
namespace Go.Proofs.YthjpchnogllliaaDoor.ScpE
open Go.RowKit Nums Byt UtfM UtfS ScaM ScaV ScaA ScaB ScaC ScaT ScaW ScpM ScpA ScpB ScpC ScpD Ld Box

theorem formatInt (n : Int) (h0 : -9223372036854775808 ≤ n) (h1 : n ≤ 9223372036854775807) (w : World) (hL : Ld w) :
    Calls Tryd.prog 59 #[.int .i64 n, .int .i64 10] w fun e w' => e = .returned (.string ⟨(Lib.itoa n).toArray⟩) ∧ Below w.heap.size w w' := by
  refine (Tryd.strconv_FormatInt_10 n h0 h1 w hL.tab).mono ?_
  rintro e w' ⟨he, k, os, rfl⟩
  exact ⟨he, ⟨rfl, rfl, rfl, by rw [Sort.size_grow]; exact Nat.le_add_right _ _, fun b hb => Sort.heap_grow_old (w.drewN k) os hb⟩⟩

theorem sI_bounds {b : Nat} (hb : b ≤ 18446744073709551615) : -9223372036854775808 ≤ sI b ∧ sI b ≤ 9223372036854775807 := by
  unfold sI; split <;> omega

set_option maxHeartbeats 1000000 in
set_option maxRecDepth 100000 in
theorem text_not (v : SV) (hb : v.b ≤ 18446744073709551615) (ht : v.t.size ≤ 140737488355328) (hl : v.l1 + v.l2 + v.l3 + v.l4 ≤ 9223372036854775807) (hf : fitsB v.k (sc v) = false) (w : World) :
    Calls Tryd.prog 38 #[vv v] w fun e w' => e = .returned (.string ⟨#[]⟩) ∧ Below w.heap.size w w' := by
  have H := Lib.hid fun w => fits_p v.k v hb ht hl w
  have HF := Lib.hid hf
  clear hb ht hl hf
  obtain ⟨k, b, t, a1, l1, c1, a2, l2, c2, a3, l3, c3, a4, l4, c4⟩ := v
  simp only [vv] at *
  go_enter Tryd.func38, Tryd.ntmps38
  go_wp2_with (first | (refine (H.out _).mono ?_; rintro _ w1 ⟨rfl, hb⟩; rw [HF.out]))
  go_ret
  exact ⟨rfl, bt (below_box _ _) hb⟩

set_option maxHeartbeats 1000000 in
set_option maxRecDepth 100000 in
theorem text_sg (v : SV) (hb : v.b ≤ 18446744073709551615) (ht : v.t.size ≤ 140737488355328) (hl : v.l1 + v.l2 + v.l3 + v.l4 ≤ 9223372036854775807) (hf : fitsB v.k (sc v) = true) (hk : sgB v.k = true) (w : World) (hL : Ld w) :
    Calls Tryd.prog 38 #[vv v] w fun e w' => e = .returned (.string ⟨(Lib.itoa (sI v.b)).toArray⟩) ∧ Below w.heap.size w w' := by
  have H := Lib.hid fun w => fits_p v.k v hb ht hl w
  have HF := Lib.hid hf
  have HW := Lib.hid (wrap_sI hb)
  have HI := Lib.hid fun w hL => formatInt (sI v.b) (sI_bounds hb).1 (sI_bounds hb).2 w hL
  clear hb ht hl hf
  obtain ⟨k, b, t, a1, l1, c1, a2, l2, c2, a3, l3, c3, a4, l4, c4⟩ := v
  simp only [vv] at *
  have hk' : k = 2 ∨ k = 3 := by simpa [sgB] using hk
  have HK := Lib.hid hk
  clear hk
  rcases hk' with rfl | rfl
  all_goals
    go_enter Tryd.func38, Tryd.ntmps38
    go_wp2_with fail
    refine (H.out _).mono ?_
    rintro _ w1 ⟨rfl, hb⟩
    rw [HF.out]
    obtain ⟨lc, lf⟩ := bcell hb
    go_wp2_with (first | (refine (signed_p _ _).mono ?_; rintro _ w1 ⟨rfl, rfl⟩; rw [HK.out]))
    rw [HW.out]
    refine (HI.out _ ((hL.below (below_box _ _)).below hb)).mono ?_
    rintro _ w2 ⟨rfl, hb2⟩
    go_wp2_with fail
    go_ret
    exact ⟨rfl, bt (bt (below_box _ _) hb) hb2⟩

theorem m1_list : (⟨#[45, 49]⟩ : ByteArray).data.toList = [45, 49] := rfl
set_option maxRecDepth 100000 in
theorem parse_m1 : finB 2 (parseN 2 [45, 49]) = (nv 2 18446744073709551615, 0) := by
  have h : parseN 2 [45, 49] = (18446744073709551615, 0) := by
    have h1 : decB [45, 49] = true := by decide +kernel
    have h2 : numR 2 [45, 49] = some 18446744073709551615 := by
      have : Lib.parseIntB 64 [45, 49] = .ok (-1) := by decide +kernel
      unfold numR
      rw [this]
      rfl
    unfold parseN
    rw [h1, h2]
    rfl
  rw [h]; rfl
theorem itoa_m1 : Lib.itoa (sI 18446744073709551615) = [45, 49] := by decide +kernel
theorem fits_m1 : fitsB 2 (sc (nv 2 18446744073709551615)) = true := by decide +kernel

end Go.Proofs.YthjpchnogllliaaDoor.ScpE
