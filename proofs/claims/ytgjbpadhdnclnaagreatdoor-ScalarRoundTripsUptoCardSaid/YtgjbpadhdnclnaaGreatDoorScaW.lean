/- The contract of whole of the reference of package scalar: whole numbers, read. -/
import Derived.Test.YtgjbpadhdnclnaaGreatDoorScaT
set_option linter.unusedSimpArgs false
set_option linter.unusedVariables false
namespace Go.Proofs.YtgjbpadhdnclnaaGreatDoor.ScaW
open Go.RowKit Nums Byt UtfM UtfQ UtfH UtfS ScaM ScaV ScaA ScaB ScaC ScaD ScaN ScaT UtfR UtfB UtfK UtfL

/-- A value with a number and nothing else. -/
def nv (k : Int) (b : Nat) : SV := ⟨k, b, ⟨#[]⟩, none, 0, 0, none, 0, 0, none, 0, 0, none, 0, 0⟩
def negN (u : Nat) : Nat := (18446744073709551616 - u) % 18446744073709551616
def outB (k : Int) (u : Nat) (neg : Bool) : Bool := if neg then !sgB k || decide (sgnN < u) else sgB k && decide (sgnN ≤ u)
def wholeS (k : Int) (l : List UInt8) : SV × Int :=
  if (numV l).2.2 ≠ 0 then (zv 0, (numV l).2.2)
  else if outB k (numV l).1 (numV l).2.1 then (zv 0, 6)
  else if fitsB k (sc (nv k (if (numV l).2.1 then negN (numV l).1 else (numV l).1))) then (nv k (if (numV l).2.1 then negN (numV l).1 else (numV l).1), 0) else (zv 0, 6)
theorem numD_le (neg : Bool) (l ds : List UInt8) : (numD neg l ds).1 ≤ 18446744073709551615 := by
  unfold numD
  split
  · simp
  · split
    · simp
    · simp only []; omega
theorem numV_le (l : List UInt8) : (numV l).1 ≤ 18446744073709551615 := by
  unfold numV
  split <;> exact numD_le _ _ _
theorem numV_err (l : List UInt8) : (numV l).2.2 = 0 ∨ (numV l).2.2 = 2 ∨ (numV l).2.2 = 6 := by
  have : ∀ neg a b, (numD neg a b).2.2 = 0 ∨ (numD neg a b).2.2 = 2 ∨ (numD neg a b).2.2 = 6 := by
    intro neg a b
    unfold numD
    split
    · simp
    · split <;> simp
  unfold numV
  split <;> exact this _ _ _
theorem sgn_i : (sgnN : Int) = 9223372036854775808 := rfl
/-- The box of the value under way after a call: its seven cells. -/
def nb (k : Int) (b : Nat) : Obj := .cells #[.int .i64 k, .int .u64 b, .string ⟨#[]⟩, .slice none 0 0, .slice none 0 0, .slice none 0 0, .slice none 0 0] 28
theorem cells2 {w w1 : World} {k : Int} {b : Nat} (hb : Below ((w.alloc zb).alloc (nb k b)).heap.size ((w.alloc zb).alloc (nb k b)) w1) :
    (w1.cell? ⟨w.heap.size, 0, none⟩ = some (.int .i64 0) ∧ w1.cell? ⟨w.heap.size, 1, none⟩ = some (.int .u64 0) ∧ w1.cell? ⟨w.heap.size, 2, none⟩ = some (.string ⟨#[]⟩) ∧ w1.cell? ⟨w.heap.size, 3, none⟩ = some (.slice none 0 0) ∧ w1.cell? ⟨w.heap.size, 4, none⟩ = some (.slice none 0 0) ∧ w1.cell? ⟨w.heap.size, 5, none⟩ = some (.slice none 0 0) ∧ w1.cell? ⟨w.heap.size, 6, none⟩ = some (.slice none 0 0))
    ∧ (w1.cell? ⟨w.heap.size + 1, 0, none⟩ = some (.int .i64 k) ∧ w1.cell? ⟨w.heap.size + 1, 1, none⟩ = some (.int .u64 b) ∧ w1.cell? ⟨w.heap.size + 1, 2, none⟩ = some (.string ⟨#[]⟩) ∧ w1.cell? ⟨w.heap.size + 1, 3, none⟩ = some (.slice none 0 0) ∧ w1.cell? ⟨w.heap.size + 1, 4, none⟩ = some (.slice none 0 0) ∧ w1.cell? ⟨w.heap.size + 1, 5, none⟩ = some (.slice none 0 0) ∧ w1.cell? ⟨w.heap.size + 1, 6, none⟩ = some (.slice none 0 0))
    ∧ (∀ o, w1.frozen? ⟨w.heap.size, o, none⟩ = false) ∧ (∀ o, w1.frozen? ⟨w.heap.size + 1, o, none⟩ = false) ∧ w.heap.size < w1.heap.size ∧ w.heap.size + 1 < w1.heap.size ∧ Below w.heap.size w w1 := by
  have hz : (w.alloc zb).heap.size = w.heap.size + 1 := by simp
  have h1 : Below (w.alloc zb).heap.size (w.alloc zb) w1 := bt (below_box _ _) hb
  obtain ⟨hc, hf, hs, hB⟩ := cells0 h1
  have hlt : w.heap.size + 1 < ((w.alloc zb).alloc (nb k b)).heap.size := by simp
  have hd : ∀ o, w1.cell? ⟨w.heap.size + 1, o, none⟩ = ((w.alloc zb).alloc (nb k b)).cell? ⟨w.heap.size + 1, o, none⟩ := fun o => hb.cell (p := ⟨w.heap.size + 1, o, none⟩) hlt
  refine ⟨hc, ⟨?_, ?_, ?_, ?_, ?_, ?_, ?_⟩, hf, fun o => (hb.frozen (p := ⟨w.heap.size + 1, o, none⟩) hlt).trans ?_, hs, Nat.lt_of_lt_of_le hlt hb.size, hB⟩
  · rw [hd]; unfold nb; rw [World.cell?_alloc_at _ _ _ _ hz.symm]; rfl
  · rw [hd]; unfold nb; rw [World.cell?_alloc_at _ _ _ _ hz.symm]; rfl
  · rw [hd]; unfold nb; rw [World.cell?_alloc_at _ _ _ _ hz.symm]; rfl
  · rw [hd]; unfold nb; rw [World.cell?_alloc_at _ _ _ _ hz.symm]; rfl
  · rw [hd]; unfold nb; rw [World.cell?_alloc_at _ _ _ _ hz.symm]; rfl
  · rw [hd]; unfold nb; rw [World.cell?_alloc_at _ _ _ _ hz.symm]; rfl
  · rw [hd]; unfold nb; rw [World.cell?_alloc_at _ _ _ _ hz.symm]; rfl
  · unfold nb zb; simp

set_option maxHeartbeats 4000000 in
set_option maxRecDepth 100000 in
theorem whole_any (k : Int) (s : ByteArray) (hs : s.size ≤ 35184372088000) (w : World) : Calls Tryz.prog 38 #[.int .i64 k, .string s] w fun e w' => e = .returned (.tuple #[vv (wholeS k s.data.toList).1, .int .i64 (wholeS k s.data.toList).2]) ∧ Below w.heap.size w w' := by
  have hule := numV_le s.data.toList
  obtain ⟨u, neg, e, hu⟩ : ∃ u neg e, numV s.data.toList = (u, neg, e) := ⟨_, _, _, rfl⟩
  rw [hu] at hule; simp only [] at hule
  have htx : ∀ x, wholeS k s.data.toList = x ↔ (if e ≠ 0 then ((zv 0, e) : SV × Int) else if outB k u neg then (zv 0, 6) else if fitsB k (sc (nv k (if neg then negN u else u))) then (nv k (if neg then negN u else u), 0) else (zv 0, 6)) = x := by intro x; unfold wholeS; rw [hu]
  have Hu := Lib.hid hu
  clear hu
  by_cases he : e = 0
  · have eb : (e != 0) = false := by rw [he]; rfl
    have hi := sgn_i
    cases neg with
    | true =>
      cases Sg : sgB k with
      | false =>
        have ho : outB k u true = true := by unfold outB; rw [Sg]; rfl
        have hf : wholeS k s.data.toList = (zv 0, 6) := by rw [htx, if_neg (by intro h; exact h he), if_pos ho]
        have Hf := Lib.hid hf
        clear hf htx he ho hi
        go_enter Tryz.func38, Tryz.ntmps38
        go_wp2_with fail
        refine (number_any s (by omega) _).mono ?_
        rintro _ w1 ⟨rfl, rfl⟩
        rw [Hu.out]
        simp only []
        go_wp2_with fail
        refine (signed_any _ _).mono ?_
        rintro _ w2 ⟨rfl, rfl⟩
        rw [Sg]
        go_wp2_with fail
        exact bodyPost_ret (v := .tuple #[.agg #[.int .i64 0, .int .u64 0, .string ⟨#[]⟩, .slice none 0 0, .slice none 0 0, .slice none 0 0, .slice none 0 0], .int .i64 6]) (by simp [results, Tryz.results38, go_sem]) rfl ⟨ret_ve (by rw [Hf.out]; rfl) (by rw [Hf.out]), below_box _ _⟩
      | true =>
        by_cases hg : sgnN < u
        · have d1 : decide ((9223372036854775808 : Int) < u) = true := by simp only [decide_eq_true_eq]; omega
          have ho : outB k u true = true := by unfold outB; rw [Sg, decide_eq_true hg]; rfl
          clear hg
          have hf : wholeS k s.data.toList = (zv 0, 6) := by rw [htx, if_neg (by intro h; exact h he), if_pos ho]
          have Hf := Lib.hid hf
          clear hf htx he ho hi
          go_enter Tryz.func38, Tryz.ntmps38
          go_wp2_with fail
          refine (number_any s (by omega) _).mono ?_
          rintro _ w1 ⟨rfl, rfl⟩
          rw [Hu.out]
          simp only []
          go_wp2_with fail
          refine (signed_any _ _).mono ?_
          rintro _ w2 ⟨rfl, rfl⟩
          rw [Sg]
          go_wp2_with fail
          exact bodyPost_ret (v := .tuple #[.agg #[.int .i64 0, .int .u64 0, .string ⟨#[]⟩, .slice none 0 0, .slice none 0 0, .slice none 0 0, .slice none 0 0], .int .i64 6]) (by simp [results, Tryz.results38, go_sem]) rfl ⟨ret_ve (by rw [Hf.out]; rfl) (by rw [Hf.out]), below_box _ _⟩
        · have d1 : decide ((9223372036854775808 : Int) < u) = false := by simp only [decide_eq_false_iff_not]; omega
          have ho : outB k u true = false := by unfold outB; rw [Sg, decide_eq_false hg]; rfl
          clear hg
          obtain ⟨b, hb⟩ : ∃ b, b = negN u := ⟨_, rfl⟩
          have hb2 : b ≤ 18446744073709551615 := by rw [hb]; unfold negN; omega
          have hw : IntKind.u64.wrap (-(u : Int)) = (b : Int) := by rw [IntKind.wrap_u64, hb]; unfold negN; omega
          have hx2 : ∀ x, wholeS k s.data.toList = x ↔ (if fitsB k (sc (nv k b)) then ((nv k b, 0) : SV × Int) else (zv 0, 6)) = x := by intro x; rw [htx, if_neg (by intro h; exact h he), if_neg (by rw [ho]; simp), hb]; rfl
          clear hb
          have hq := fits_any k (nv k b) hb2
          simp only [vv, nv] at hq
          cases hft : fitsB k (sc (nv k b)) with
          | true =>
            have hf : wholeS k s.data.toList = (nv k b, 0) := by rw [hx2, hft]; rfl
            simp only [nv] at hft
            rw [hft] at hq
            have Hf := Lib.hid hf
            clear hf hx2 htx he ho hi hft
            go_enter Tryz.func38, Tryz.ntmps38
            go_wp2_with fail
            refine (number_any s (by omega) _).mono ?_
            rintro _ w1 ⟨rfl, rfl⟩
            rw [Hu.out]
            simp only []
            go_wp2_with fail
            refine (signed_any _ _).mono ?_
            rintro _ w2 ⟨rfl, rfl⟩
            rw [Sg]
            go_wp2_with fail
            refine (hq _).mono ?_
            rintro _ w3 ⟨rfl, hb3⟩
            obtain ⟨⟨q0, q1, q2, q3, q4, q5, q6⟩, ⟨r0, r1, r2, r3, r4, r5, r6⟩, qf, rf, qs, rs, hb0⟩ := cells2 hb3
            clear hb3
            go_wp2_with fail
            exact bodyPost_ret (v := .tuple #[.agg #[.int .i64 k, .int .u64 b, .string ⟨#[]⟩, .slice none 0 0, .slice none 0 0, .slice none 0 0, .slice none 0 0], .int .i64 0]) (by simp [results, Tryz.results38, go_sem, q0, q1, q2, q3, q4, q5, q6]) rfl ⟨ret_ve (by rw [Hf.out]; rfl) (by rw [Hf.out]), below7 hb0 (Nat.le_refl _) _ _ _ _ _ _ _⟩
          | false =>
            have hf : wholeS k s.data.toList = (zv 0, 6) := by rw [hx2, hft]; rfl
            simp only [nv] at hft
            rw [hft] at hq
            have Hf := Lib.hid hf
            clear hf hx2 htx he ho hi hft
            go_enter Tryz.func38, Tryz.ntmps38
            go_wp2_with fail
            refine (number_any s (by omega) _).mono ?_
            rintro _ w1 ⟨rfl, rfl⟩
            rw [Hu.out]
            simp only []
            go_wp2_with fail
            refine (signed_any _ _).mono ?_
            rintro _ w2 ⟨rfl, rfl⟩
            rw [Sg]
            go_wp2_with fail
            refine (hq _).mono ?_
            rintro _ w3 ⟨rfl, hb3⟩
            obtain ⟨⟨q0, q1, q2, q3, q4, q5, q6⟩, ⟨r0, r1, r2, r3, r4, r5, r6⟩, qf, rf, qs, rs, hb0⟩ := cells2 hb3
            clear hb3
            go_wp2_with fail
            exact bodyPost_ret (v := .tuple #[.agg #[.int .i64 0, .int .u64 0, .string ⟨#[]⟩, .slice none 0 0, .slice none 0 0, .slice none 0 0, .slice none 0 0], .int .i64 6]) (by simp [results, Tryz.results38, go_sem, q0, q1, q2, q3, q4, q5, q6]) rfl ⟨ret_ve (by rw [Hf.out]; rfl) (by rw [Hf.out]), below7 hb0 (Nat.le_refl _) _ _ _ _ _ _ _⟩
    | false =>
      cases Sg : sgB k with
      | false =>
        have ho : outB k u false = false := by unfold outB; rw [Sg]; rfl
        have hb2 := hule
        have hx2 : ∀ x, wholeS k s.data.toList = x ↔ (if fitsB k (sc (nv k u)) then ((nv k u, 0) : SV × Int) else (zv 0, 6)) = x := by intro x; rw [htx, if_neg (by intro h; exact h he), if_neg (by rw [ho]; simp)]; rfl
        have hq := fits_any k (nv k u) hb2
        simp only [vv, nv] at hq
        cases hft : fitsB k (sc (nv k u)) with
        | true =>
          have hf : wholeS k s.data.toList = (nv k u, 0) := by rw [hx2, hft]; rfl
          simp only [nv] at hft
          rw [hft] at hq
          have Hf := Lib.hid hf
          clear hf hx2 htx he ho hi hft
          go_enter Tryz.func38, Tryz.ntmps38
          go_wp2_with fail
          refine (number_any s (by omega) _).mono ?_
          rintro _ w1 ⟨rfl, rfl⟩
          rw [Hu.out]
          simp only []
          go_wp2_with fail
          refine (signed_any _ _).mono ?_
          rintro _ w2 ⟨rfl, rfl⟩
          rw [Sg]
          go_wp2_with fail
          refine (hq _).mono ?_
          rintro _ w3 ⟨rfl, hb3⟩
          obtain ⟨⟨q0, q1, q2, q3, q4, q5, q6⟩, ⟨r0, r1, r2, r3, r4, r5, r6⟩, qf, rf, qs, rs, hb0⟩ := cells2 hb3
          clear hb3
          go_wp2_with fail
          exact bodyPost_ret (v := .tuple #[.agg #[.int .i64 k, .int .u64 u, .string ⟨#[]⟩, .slice none 0 0, .slice none 0 0, .slice none 0 0, .slice none 0 0], .int .i64 0]) (by simp [results, Tryz.results38, go_sem, q0, q1, q2, q3, q4, q5, q6]) rfl ⟨ret_ve (by rw [Hf.out]; rfl) (by rw [Hf.out]), below7 hb0 (Nat.le_refl _) _ _ _ _ _ _ _⟩
        | false =>
          have hf : wholeS k s.data.toList = (zv 0, 6) := by rw [hx2, hft]; rfl
          simp only [nv] at hft
          rw [hft] at hq
          have Hf := Lib.hid hf
          clear hf hx2 htx he ho hi hft
          go_enter Tryz.func38, Tryz.ntmps38
          go_wp2_with fail
          refine (number_any s (by omega) _).mono ?_
          rintro _ w1 ⟨rfl, rfl⟩
          rw [Hu.out]
          simp only []
          go_wp2_with fail
          refine (signed_any _ _).mono ?_
          rintro _ w2 ⟨rfl, rfl⟩
          rw [Sg]
          go_wp2_with fail
          refine (hq _).mono ?_
          rintro _ w3 ⟨rfl, hb3⟩
          obtain ⟨⟨q0, q1, q2, q3, q4, q5, q6⟩, ⟨r0, r1, r2, r3, r4, r5, r6⟩, qf, rf, qs, rs, hb0⟩ := cells2 hb3
          clear hb3
          go_wp2_with fail
          exact bodyPost_ret (v := .tuple #[.agg #[.int .i64 0, .int .u64 0, .string ⟨#[]⟩, .slice none 0 0, .slice none 0 0, .slice none 0 0, .slice none 0 0], .int .i64 6]) (by simp [results, Tryz.results38, go_sem, q0, q1, q2, q3, q4, q5, q6]) rfl ⟨ret_ve (by rw [Hf.out]; rfl) (by rw [Hf.out]), below7 hb0 (Nat.le_refl _) _ _ _ _ _ _ _⟩
      | true =>
        by_cases hg : sgnN ≤ u
        · have d1 : decide ((9223372036854775808 : Int) ≤ u) = true := by simp only [decide_eq_true_eq]; omega
          have ho : outB k u false = true := by unfold outB; rw [Sg, decide_eq_true hg]; rfl
          clear hg
          have hf : wholeS k s.data.toList = (zv 0, 6) := by rw [htx, if_neg (by intro h; exact h he), if_pos ho]
          have Hf := Lib.hid hf
          clear hf htx he ho hi
          go_enter Tryz.func38, Tryz.ntmps38
          go_wp2_with fail
          refine (number_any s (by omega) _).mono ?_
          rintro _ w1 ⟨rfl, rfl⟩
          rw [Hu.out]
          simp only []
          go_wp2_with fail
          refine (signed_any _ _).mono ?_
          rintro _ w2 ⟨rfl, rfl⟩
          rw [Sg]
          go_wp2_with fail
          exact bodyPost_ret (v := .tuple #[.agg #[.int .i64 0, .int .u64 0, .string ⟨#[]⟩, .slice none 0 0, .slice none 0 0, .slice none 0 0, .slice none 0 0], .int .i64 6]) (by simp [results, Tryz.results38, go_sem]) rfl ⟨ret_ve (by rw [Hf.out]; rfl) (by rw [Hf.out]), below_box _ _⟩
        · have d1 : decide ((9223372036854775808 : Int) ≤ u) = false := by simp only [decide_eq_false_iff_not]; omega
          have ho : outB k u false = false := by unfold outB; rw [Sg, decide_eq_false hg]; rfl
          clear hg
          have hb2 := hule
          have hx2 : ∀ x, wholeS k s.data.toList = x ↔ (if fitsB k (sc (nv k u)) then ((nv k u, 0) : SV × Int) else (zv 0, 6)) = x := by intro x; rw [htx, if_neg (by intro h; exact h he), if_neg (by rw [ho]; simp)]; rfl
          have hq := fits_any k (nv k u) hb2
          simp only [vv, nv] at hq
          cases hft : fitsB k (sc (nv k u)) with
          | true =>
            have hf : wholeS k s.data.toList = (nv k u, 0) := by rw [hx2, hft]; rfl
            simp only [nv] at hft
            rw [hft] at hq
            have Hf := Lib.hid hf
            clear hf hx2 htx he ho hi hft
            go_enter Tryz.func38, Tryz.ntmps38
            go_wp2_with fail
            refine (number_any s (by omega) _).mono ?_
            rintro _ w1 ⟨rfl, rfl⟩
            rw [Hu.out]
            simp only []
            go_wp2_with fail
            refine (signed_any _ _).mono ?_
            rintro _ w2 ⟨rfl, rfl⟩
            rw [Sg]
            go_wp2_with fail
            refine (hq _).mono ?_
            rintro _ w3 ⟨rfl, hb3⟩
            obtain ⟨⟨q0, q1, q2, q3, q4, q5, q6⟩, ⟨r0, r1, r2, r3, r4, r5, r6⟩, qf, rf, qs, rs, hb0⟩ := cells2 hb3
            clear hb3
            go_wp2_with fail
            exact bodyPost_ret (v := .tuple #[.agg #[.int .i64 k, .int .u64 u, .string ⟨#[]⟩, .slice none 0 0, .slice none 0 0, .slice none 0 0, .slice none 0 0], .int .i64 0]) (by simp [results, Tryz.results38, go_sem, q0, q1, q2, q3, q4, q5, q6]) rfl ⟨ret_ve (by rw [Hf.out]; rfl) (by rw [Hf.out]), below7 hb0 (Nat.le_refl _) _ _ _ _ _ _ _⟩
          | false =>
            have hf : wholeS k s.data.toList = (zv 0, 6) := by rw [hx2, hft]; rfl
            simp only [nv] at hft
            rw [hft] at hq
            have Hf := Lib.hid hf
            clear hf hx2 htx he ho hi hft
            go_enter Tryz.func38, Tryz.ntmps38
            go_wp2_with fail
            refine (number_any s (by omega) _).mono ?_
            rintro _ w1 ⟨rfl, rfl⟩
            rw [Hu.out]
            simp only []
            go_wp2_with fail
            refine (signed_any _ _).mono ?_
            rintro _ w2 ⟨rfl, rfl⟩
            rw [Sg]
            go_wp2_with fail
            refine (hq _).mono ?_
            rintro _ w3 ⟨rfl, hb3⟩
            obtain ⟨⟨q0, q1, q2, q3, q4, q5, q6⟩, ⟨r0, r1, r2, r3, r4, r5, r6⟩, qf, rf, qs, rs, hb0⟩ := cells2 hb3
            clear hb3
            go_wp2_with fail
            exact bodyPost_ret (v := .tuple #[.agg #[.int .i64 0, .int .u64 0, .string ⟨#[]⟩, .slice none 0 0, .slice none 0 0, .slice none 0 0, .slice none 0 0], .int .i64 6]) (by simp [results, Tryz.results38, go_sem, q0, q1, q2, q3, q4, q5, q6]) rfl ⟨ret_ve (by rw [Hf.out]; rfl) (by rw [Hf.out]), below7 hb0 (Nat.le_refl _) _ _ _ _ _ _ _⟩
  · have eb : (e != 0) = true := by rw [bne_iff_ne]; exact he
    have hf : wholeS k s.data.toList = (zv 0, e) := by rw [htx, if_pos he]
    have Hf := Lib.hid hf
    clear hf htx he
    go_enter Tryz.func38, Tryz.ntmps38
    go_wp2_with fail
    refine (number_any s (by omega) _).mono ?_
    rintro _ w1 ⟨rfl, rfl⟩
    rw [Hu.out]
    simp only []
    go_wp2_with fail
    exact bodyPost_ret (v := .tuple #[.agg #[.int .i64 0, .int .u64 0, .string ⟨#[]⟩, .slice none 0 0, .slice none 0 0, .slice none 0 0, .slice none 0 0], .int .i64 e]) (by simp [results, Tryz.results38, go_sem]) rfl ⟨ret_ve (by rw [Hf.out]; rfl) (by rw [Hf.out]), below_box _ _⟩
end Go.Proofs.YtgjbpadhdnclnaaGreatDoor.ScaW
