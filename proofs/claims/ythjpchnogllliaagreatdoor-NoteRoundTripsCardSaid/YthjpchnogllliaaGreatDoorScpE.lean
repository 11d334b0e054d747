import Derived.Test.YthjpchnogllliaaGreatDoorScpC
import Derived.Test.YthjpchnogllliaaGreatDoorScaX
import Derived.Test.YthjpchnogllliaaGreatDoorBox
/- The program's parseNumber, and Parse at the kinds of whole numbers. -/
set_option linter.unusedSimpArgs false
set_option linter.unusedVariables false
namespace Go.Proofs.YthjpchnogllliaaGreatDoor.ScpD
open Go.RowKit Nums Byt UtfM UtfS ScaM ScaV ScaA ScaB ScaC ScaT ScaW ScpM ScpA ScpB ScpC Ld Box

def parseN (k : Int) (l : List UInt8) : Nat × Int :=
  if decB l then (match numR k l with | some n => if rgB k n then (n, 0) else (0, 6) | none => (0, 6)) else (0, 2)

set_option maxHeartbeats 1000000 in
set_option maxRecDepth 100000 in
theorem parseNumber_any (k : Int) (s : ByteArray) (hs : s.size ≤ 140737488355328) (w : World) (hL : Ld w) : Calls Tryz.prog 113 #[.int .i64 k, .string s] w fun e w' => e = .returned (.tuple #[.int .u64 (parseN k s.data.toList).1, .int .i64 (parseN k s.data.toList).2]) ∧ Below w.heap.size w w' := by
  have C := Lib.hid fun w => decimal_any s (by omega) w
  have D := Lib.hid fun w hL => number_any k s hs w hL
  cases h : decB s.data.toList with
  | false =>
    have hp : parseN k s.data.toList = (0, 2) := by unfold parseN; rw [h]; rfl
    rw [hp]
    clear hs hp
    go_enter Tryz.func113, Tryz.ntmps113
    go_wp2_with (first | (refine (C.out _).mono ?_; rintro _ w1 ⟨rfl, hb⟩; rw [h]))
    go_ret2
    exact ⟨rfl, hb⟩
  | true =>
    clear hs
    go_enter Tryz.func113, Tryz.ntmps113
    go_wp2_with (first | (refine (C.out _).mono ?_; rintro _ w1 ⟨rfl, hb⟩; rw [h]))
    refine (D.out _ (hL.below hb)).mono ?_
    rintro _ w2 ⟨⟨u, ok, rfl, hu, hy, hn⟩, hb2⟩
    cases ok with
    | false =>
      have hp : parseN k s.data.toList = (0, 6) := by unfold parseN; rw [h, hn rfl]; rfl
      have HP := Lib.hid hp
      clear hp hn hy
      go_wp2_with fail
      go_ret2
      exact ⟨by rw [HP.out]; rfl, bt hb hb2⟩
    | true =>
      cases hr : rgB k u with
      | false =>
        have hp : parseN k s.data.toList = (0, 6) := by unfold parseN; rw [h, hy rfl]; simp [hr]
        have HP := Lib.hid hp
        clear hp hn hy
        have R := Lib.hid fun w => inRange_p k u hu w
        clear hu
        go_wp2_with (first | (refine (R.out _).mono ?_; rintro _ w1 ⟨rfl, rfl⟩; rw [hr]))
        go_ret2
        exact ⟨by rw [HP.out]; rfl, bt hb hb2⟩
      | true =>
        have hp : parseN k s.data.toList = (u, 0) := by unfold parseN; rw [h, hy rfl]; simp [hr]
        have HP := Lib.hid hp
        clear hp hn hy
        have R := Lib.hid fun w => inRange_p k u hu w
        clear hu
        go_wp2_with (first | (refine (R.out _).mono ?_; rintro _ w1 ⟨rfl, rfl⟩; rw [hr]))
        go_ret2
        exact ⟨by rw [HP.out]; rfl, bt hb hb2⟩

/-- What Parse returns of the bits and the error of a kind's own parser. -/
def finB (k : Int) (r : Nat × Int) : SV × Int := if r.2 = 0 then (nv k r.1, 0) else (zv 0, r.2)

set_option maxHeartbeats 2000000 in
set_option maxRecDepth 100000 in
theorem parse_2 (s : ByteArray) (hs : s.size ≤ 140737488355328) (w : World) (hL : Ld w) : Calls Tryz.prog 89 #[.int .i64 2, .string s] w fun e w' => e = .returned (.tuple #[vv (finB 2 (parseN 2 s.data.toList)).1, .int .i64 (finB 2 (parseN 2 s.data.toList)).2]) ∧ Below w.heap.size w w' := by
  have D := Lib.hid fun w hL => parseNumber_any 2 s hs w hL
  clear hs
  generalize parseN 2 s.data.toList = r at *
  obtain ⟨b, e⟩ := r
  simp only [] at D
  cases he : (e != 0) with
  | true =>
    have hf : finB 2 (b, e) = (zv 0, e) := by unfold finB; rw [if_neg (by simpa using he)]
    rw [hf]
    clear hf
    go_enter Tryz.func89, Tryz.ntmps89
    go_wp2_with fail
    refine (zero_p 2 _).mono ?_
    rintro _ w1 ⟨rfl, hb1⟩
    have B1 := (b7_new w (.int .i64 0) (.int .u64 0) (.string ⟨#[]⟩) (.slice none 0 0) (.slice none 0 0) (.slice none 0 0) (.slice none 0 0) 42).below hb1
    have hL1 := (hL.below (below_box w _)).below hb1
    have hbw := bt (below_box w _) hb1
    have hlt := Nat.lt_of_lt_of_le (show w.heap.size < (w.alloc (.cells #[.int .i64 0, .int .u64 0, .string ⟨#[]⟩, .slice none 0 0, .slice none 0 0, .slice none 0 0, .slice none 0 0] 42)).heap.size by simp) hb1.size
    have hne : w.heap.size ≠ w1.heap.size := by omega
    have hne' : w1.heap.size ≠ w.heap.size := by omega
    clear hb1
    rw [show vv (zeroS 2) = .agg #[.int .i64 2, .int .u64 0, .string ⟨#[]⟩, .slice none 0 0, .slice none 0 0, .slice none 0 0, .slice none 0 0] from rfl]
    go_wp2_with fail
    refine (D.out _ (hL1.below (below_box _ _))).mono ?_
    rintro _ w2 ⟨rfl, hb2⟩
    obtain ⟨lt0, p0, p1, p2, p3, p4, p5, p6, pf⟩ := (B1.alloc _).below hb2
    obtain ⟨lt1, q0, q1, q2, q3, q4, q5, q6, qf⟩ := (b7_new w1 (.int .i64 2) (.int .u64 0) (.string ⟨#[]⟩) (.slice none 0 0) (.slice none 0 0) (.slice none 0 0) (.slice none 0 0) 42).below hb2
    have hbz := bt (bt hbw (below_box _ _)) hb2
    have hle := hbw.size
    clear hb2 hL1 hL D B1 hbw
    go_wp2_with fail
    exact bodyPost_ret (v := .tuple #[.agg #[.int .i64 0, .int .u64 0, .string ⟨#[]⟩, .slice none 0 0, .slice none 0 0, .slice none 0 0, .slice none 0 0], .int .i64 e]) (by simp [results, Tryz.results89, go_sem, p0, p1, p2, p3, p4, p5, p6, hne, hne']) rfl ⟨rfl, below7 (hbz.setCell hle _) (Nat.le_refl _) _ _ _ _ _ _ _⟩
  | false =>
    have h0 : e = 0 := by simpa using he
    subst h0
    have hf : finB 2 (b, 0) = (nv 2 b, 0) := by unfold finB; rw [if_pos rfl]
    rw [hf]
    clear hf he
    go_enter Tryz.func89, Tryz.ntmps89
    go_wp2_with fail
    refine (zero_p 2 _).mono ?_
    rintro _ w1 ⟨rfl, hb1⟩
    have B1 := (b7_new w (.int .i64 0) (.int .u64 0) (.string ⟨#[]⟩) (.slice none 0 0) (.slice none 0 0) (.slice none 0 0) (.slice none 0 0) 42).below hb1
    have hL1 := (hL.below (below_box w _)).below hb1
    have hbw := bt (below_box w _) hb1
    have hlt := Nat.lt_of_lt_of_le (show w.heap.size < (w.alloc (.cells #[.int .i64 0, .int .u64 0, .string ⟨#[]⟩, .slice none 0 0, .slice none 0 0, .slice none 0 0, .slice none 0 0] 42)).heap.size by simp) hb1.size
    have hne : w.heap.size ≠ w1.heap.size := by omega
    have hne' : w1.heap.size ≠ w.heap.size := by omega
    clear hb1
    rw [show vv (zeroS 2) = .agg #[.int .i64 2, .int .u64 0, .string ⟨#[]⟩, .slice none 0 0, .slice none 0 0, .slice none 0 0, .slice none 0 0] from rfl]
    go_wp2_with fail
    refine (D.out _ (hL1.below (below_box _ _))).mono ?_
    rintro _ w2 ⟨rfl, hb2⟩
    obtain ⟨lt0, p0, p1, p2, p3, p4, p5, p6, pf⟩ := (B1.alloc _).below hb2
    obtain ⟨lt1, q0, q1, q2, q3, q4, q5, q6, qf⟩ := (b7_new w1 (.int .i64 2) (.int .u64 0) (.string ⟨#[]⟩) (.slice none 0 0) (.slice none 0 0) (.slice none 0 0) (.slice none 0 0) 42).below hb2
    have hbz := bt (bt hbw (below_box _ _)) hb2
    have hle := hbw.size
    clear hb2 hL1 hL D B1 hbw
    go_wp2_with fail
    exact bodyPost_ret (v := .tuple #[.agg #[.int .i64 2, .int .u64 b, .string ⟨#[]⟩, .slice none 0 0, .slice none 0 0, .slice none 0 0, .slice none 0 0], .int .i64 0]) (by simp [results, Tryz.results89, go_sem, p0, p1, p2, p3, p4, p5, p6, q0, q1, q2, q3, q4, q5, q6, hne, hne']) rfl ⟨rfl, below7 (hbz.setCell hle _) (Nat.le_refl _) _ _ _ _ _ _ _⟩

set_option maxHeartbeats 2000000 in
set_option maxRecDepth 100000 in
theorem parse_3 (s : ByteArray) (hs : s.size ≤ 140737488355328) (w : World) (hL : Ld w) : Calls Tryz.prog 89 #[.int .i64 3, .string s] w fun e w' => e = .returned (.tuple #[vv (finB 3 (parseN 3 s.data.toList)).1, .int .i64 (finB 3 (parseN 3 s.data.toList)).2]) ∧ Below w.heap.size w w' := by
  have D := Lib.hid fun w hL => parseNumber_any 3 s hs w hL
  clear hs
  generalize parseN 3 s.data.toList = r at *
  obtain ⟨b, e⟩ := r
  simp only [] at D
  cases he : (e != 0) with
  | true =>
    have hf : finB 3 (b, e) = (zv 0, e) := by unfold finB; rw [if_neg (by simpa using he)]
    rw [hf]
    clear hf
    go_enter Tryz.func89, Tryz.ntmps89
    go_wp2_with fail
    refine (zero_p 3 _).mono ?_
    rintro _ w1 ⟨rfl, hb1⟩
    have B1 := (b7_new w (.int .i64 0) (.int .u64 0) (.string ⟨#[]⟩) (.slice none 0 0) (.slice none 0 0) (.slice none 0 0) (.slice none 0 0) 42).below hb1
    have hL1 := (hL.below (below_box w _)).below hb1
    have hbw := bt (below_box w _) hb1
    have hlt := Nat.lt_of_lt_of_le (show w.heap.size < (w.alloc (.cells #[.int .i64 0, .int .u64 0, .string ⟨#[]⟩, .slice none 0 0, .slice none 0 0, .slice none 0 0, .slice none 0 0] 42)).heap.size by simp) hb1.size
    have hne : w.heap.size ≠ w1.heap.size := by omega
    have hne' : w1.heap.size ≠ w.heap.size := by omega
    clear hb1
    rw [show vv (zeroS 3) = .agg #[.int .i64 3, .int .u64 0, .string ⟨#[]⟩, .slice none 0 0, .slice none 0 0, .slice none 0 0, .slice none 0 0] from rfl]
    go_wp2_with fail
    refine (D.out _ (hL1.below (below_box _ _))).mono ?_
    rintro _ w2 ⟨rfl, hb2⟩
    obtain ⟨lt0, p0, p1, p2, p3, p4, p5, p6, pf⟩ := (B1.alloc _).below hb2
    obtain ⟨lt1, q0, q1, q2, q3, q4, q5, q6, qf⟩ := (b7_new w1 (.int .i64 3) (.int .u64 0) (.string ⟨#[]⟩) (.slice none 0 0) (.slice none 0 0) (.slice none 0 0) (.slice none 0 0) 42).below hb2
    have hbz := bt (bt hbw (below_box _ _)) hb2
    have hle := hbw.size
    clear hb2 hL1 hL D B1 hbw
    go_wp2_with fail
    exact bodyPost_ret (v := .tuple #[.agg #[.int .i64 0, .int .u64 0, .string ⟨#[]⟩, .slice none 0 0, .slice none 0 0, .slice none 0 0, .slice none 0 0], .int .i64 e]) (by simp [results, Tryz.results89, go_sem, p0, p1, p2, p3, p4, p5, p6, hne, hne']) rfl ⟨rfl, below7 (hbz.setCell hle _) (Nat.le_refl _) _ _ _ _ _ _ _⟩
  | false =>
    have h0 : e = 0 := by simpa using he
    subst h0
    have hf : finB 3 (b, 0) = (nv 3 b, 0) := by unfold finB; rw [if_pos rfl]
    rw [hf]
    clear hf he
    go_enter Tryz.func89, Tryz.ntmps89
    go_wp2_with fail
    refine (zero_p 3 _).mono ?_
    rintro _ w1 ⟨rfl, hb1⟩
    have B1 := (b7_new w (.int .i64 0) (.int .u64 0) (.string ⟨#[]⟩) (.slice none 0 0) (.slice none 0 0) (.slice none 0 0) (.slice none 0 0) 42).below hb1
    have hL1 := (hL.below (below_box w _)).below hb1
    have hbw := bt (below_box w _) hb1
    have hlt := Nat.lt_of_lt_of_le (show w.heap.size < (w.alloc (.cells #[.int .i64 0, .int .u64 0, .string ⟨#[]⟩, .slice none 0 0, .slice none 0 0, .slice none 0 0, .slice none 0 0] 42)).heap.size by simp) hb1.size
    have hne : w.heap.size ≠ w1.heap.size := by omega
    have hne' : w1.heap.size ≠ w.heap.size := by omega
    clear hb1
    rw [show vv (zeroS 3) = .agg #[.int .i64 3, .int .u64 0, .string ⟨#[]⟩, .slice none 0 0, .slice none 0 0, .slice none 0 0, .slice none 0 0] from rfl]
    go_wp2_with fail
    refine (D.out _ (hL1.below (below_box _ _))).mono ?_
    rintro _ w2 ⟨rfl, hb2⟩
    obtain ⟨lt0, p0, p1, p2, p3, p4, p5, p6, pf⟩ := (B1.alloc _).below hb2
    obtain ⟨lt1, q0, q1, q2, q3, q4, q5, q6, qf⟩ := (b7_new w1 (.int .i64 3) (.int .u64 0) (.string ⟨#[]⟩) (.slice none 0 0) (.slice none 0 0) (.slice none 0 0) (.slice none 0 0) 42).below hb2
    have hbz := bt (bt hbw (below_box _ _)) hb2
    have hle := hbw.size
    clear hb2 hL1 hL D B1 hbw
    go_wp2_with fail
    exact bodyPost_ret (v := .tuple #[.agg #[.int .i64 3, .int .u64 b, .string ⟨#[]⟩, .slice none 0 0, .slice none 0 0, .slice none 0 0, .slice none 0 0], .int .i64 0]) (by simp [results, Tryz.results89, go_sem, p0, p1, p2, p3, p4, p5, p6, q0, q1, q2, q3, q4, q5, q6, hne, hne']) rfl ⟨rfl, below7 (hbz.setCell hle _) (Nat.le_refl _) _ _ _ _ _ _ _⟩

set_option maxHeartbeats 2000000 in
set_option maxRecDepth 100000 in
theorem parse_4 (s : ByteArray) (hs : s.size ≤ 140737488355328) (w : World) (hL : Ld w) : Calls Tryz.prog 89 #[.int .i64 4, .string s] w fun e w' => e = .returned (.tuple #[vv (finB 4 (parseN 4 s.data.toList)).1, .int .i64 (finB 4 (parseN 4 s.data.toList)).2]) ∧ Below w.heap.size w w' := by
  have D := Lib.hid fun w hL => parseNumber_any 4 s hs w hL
  clear hs
  generalize parseN 4 s.data.toList = r at *
  obtain ⟨b, e⟩ := r
  simp only [] at D
  cases he : (e != 0) with
  | true =>
    have hf : finB 4 (b, e) = (zv 0, e) := by unfold finB; rw [if_neg (by simpa using he)]
    rw [hf]
    clear hf
    go_enter Tryz.func89, Tryz.ntmps89
    go_wp2_with fail
    refine (zero_p 4 _).mono ?_
    rintro _ w1 ⟨rfl, hb1⟩
    have B1 := (b7_new w (.int .i64 0) (.int .u64 0) (.string ⟨#[]⟩) (.slice none 0 0) (.slice none 0 0) (.slice none 0 0) (.slice none 0 0) 42).below hb1
    have hL1 := (hL.below (below_box w _)).below hb1
    have hbw := bt (below_box w _) hb1
    have hlt := Nat.lt_of_lt_of_le (show w.heap.size < (w.alloc (.cells #[.int .i64 0, .int .u64 0, .string ⟨#[]⟩, .slice none 0 0, .slice none 0 0, .slice none 0 0, .slice none 0 0] 42)).heap.size by simp) hb1.size
    have hne : w.heap.size ≠ w1.heap.size := by omega
    have hne' : w1.heap.size ≠ w.heap.size := by omega
    clear hb1
    rw [show vv (zeroS 4) = .agg #[.int .i64 4, .int .u64 0, .string ⟨#[]⟩, .slice none 0 0, .slice none 0 0, .slice none 0 0, .slice none 0 0] from rfl]
    go_wp2_with fail
    refine (D.out _ (hL1.below (below_box _ _))).mono ?_
    rintro _ w2 ⟨rfl, hb2⟩
    obtain ⟨lt0, p0, p1, p2, p3, p4, p5, p6, pf⟩ := (B1.alloc _).below hb2
    obtain ⟨lt1, q0, q1, q2, q3, q4, q5, q6, qf⟩ := (b7_new w1 (.int .i64 4) (.int .u64 0) (.string ⟨#[]⟩) (.slice none 0 0) (.slice none 0 0) (.slice none 0 0) (.slice none 0 0) 42).below hb2
    have hbz := bt (bt hbw (below_box _ _)) hb2
    have hle := hbw.size
    clear hb2 hL1 hL D B1 hbw
    go_wp2_with fail
    exact bodyPost_ret (v := .tuple #[.agg #[.int .i64 0, .int .u64 0, .string ⟨#[]⟩, .slice none 0 0, .slice none 0 0, .slice none 0 0, .slice none 0 0], .int .i64 e]) (by simp [results, Tryz.results89, go_sem, p0, p1, p2, p3, p4, p5, p6, hne, hne']) rfl ⟨rfl, below7 (hbz.setCell hle _) (Nat.le_refl _) _ _ _ _ _ _ _⟩
  | false =>
    have h0 : e = 0 := by simpa using he
    subst h0
    have hf : finB 4 (b, 0) = (nv 4 b, 0) := by unfold finB; rw [if_pos rfl]
    rw [hf]
    clear hf he
    go_enter Tryz.func89, Tryz.ntmps89
    go_wp2_with fail
    refine (zero_p 4 _).mono ?_
    rintro _ w1 ⟨rfl, hb1⟩
    have B1 := (b7_new w (.int .i64 0) (.int .u64 0) (.string ⟨#[]⟩) (.slice none 0 0) (.slice none 0 0) (.slice none 0 0) (.slice none 0 0) 42).below hb1
    have hL1 := (hL.below (below_box w _)).below hb1
    have hbw := bt (below_box w _) hb1
    have hlt := Nat.lt_of_lt_of_le (show w.heap.size < (w.alloc (.cells #[.int .i64 0, .int .u64 0, .string ⟨#[]⟩, .slice none 0 0, .slice none 0 0, .slice none 0 0, .slice none 0 0] 42)).heap.size by simp) hb1.size
    have hne : w.heap.size ≠ w1.heap.size := by omega
    have hne' : w1.heap.size ≠ w.heap.size := by omega
    clear hb1
    rw [show vv (zeroS 4) = .agg #[.int .i64 4, .int .u64 0, .string ⟨#[]⟩, .slice none 0 0, .slice none 0 0, .slice none 0 0, .slice none 0 0] from rfl]
    go_wp2_with fail
    refine (D.out _ (hL1.below (below_box _ _))).mono ?_
    rintro _ w2 ⟨rfl, hb2⟩
    obtain ⟨lt0, p0, p1, p2, p3, p4, p5, p6, pf⟩ := (B1.alloc _).below hb2
    obtain ⟨lt1, q0, q1, q2, q3, q4, q5, q6, qf⟩ := (b7_new w1 (.int .i64 4) (.int .u64 0) (.string ⟨#[]⟩) (.slice none 0 0) (.slice none 0 0) (.slice none 0 0) (.slice none 0 0) 42).below hb2
    have hbz := bt (bt hbw (below_box _ _)) hb2
    have hle := hbw.size
    clear hb2 hL1 hL D B1 hbw
    go_wp2_with fail
    exact bodyPost_ret (v := .tuple #[.agg #[.int .i64 4, .int .u64 b, .string ⟨#[]⟩, .slice none 0 0, .slice none 0 0, .slice none 0 0, .slice none 0 0], .int .i64 0]) (by simp [results, Tryz.results89, go_sem, p0, p1, p2, p3, p4, p5, p6, q0, q1, q2, q3, q4, q5, q6, hne, hne']) rfl ⟨rfl, below7 (hbz.setCell hle _) (Nat.le_refl _) _ _ _ _ _ _ _⟩

set_option maxHeartbeats 2000000 in
set_option maxRecDepth 100000 in
theorem parse_5 (s : ByteArray) (hs : s.size ≤ 140737488355328) (w : World) (hL : Ld w) : Calls Tryz.prog 89 #[.int .i64 5, .string s] w fun e w' => e = .returned (.tuple #[vv (finB 5 (parseN 5 s.data.toList)).1, .int .i64 (finB 5 (parseN 5 s.data.toList)).2]) ∧ Below w.heap.size w w' := by
  have D := Lib.hid fun w hL => parseNumber_any 5 s hs w hL
  clear hs
  generalize parseN 5 s.data.toList = r at *
  obtain ⟨b, e⟩ := r
  simp only [] at D
  cases he : (e != 0) with
  | true =>
    have hf : finB 5 (b, e) = (zv 0, e) := by unfold finB; rw [if_neg (by simpa using he)]
    rw [hf]
    clear hf
    go_enter Tryz.func89, Tryz.ntmps89
    go_wp2_with fail
    refine (zero_p 5 _).mono ?_
    rintro _ w1 ⟨rfl, hb1⟩
    have B1 := (b7_new w (.int .i64 0) (.int .u64 0) (.string ⟨#[]⟩) (.slice none 0 0) (.slice none 0 0) (.slice none 0 0) (.slice none 0 0) 42).below hb1
    have hL1 := (hL.below (below_box w _)).below hb1
    have hbw := bt (below_box w _) hb1
    have hlt := Nat.lt_of_lt_of_le (show w.heap.size < (w.alloc (.cells #[.int .i64 0, .int .u64 0, .string ⟨#[]⟩, .slice none 0 0, .slice none 0 0, .slice none 0 0, .slice none 0 0] 42)).heap.size by simp) hb1.size
    have hne : w.heap.size ≠ w1.heap.size := by omega
    have hne' : w1.heap.size ≠ w.heap.size := by omega
    clear hb1
    rw [show vv (zeroS 5) = .agg #[.int .i64 5, .int .u64 0, .string ⟨#[]⟩, .slice none 0 0, .slice none 0 0, .slice none 0 0, .slice none 0 0] from rfl]
    go_wp2_with fail
    refine (D.out _ (hL1.below (below_box _ _))).mono ?_
    rintro _ w2 ⟨rfl, hb2⟩
    obtain ⟨lt0, p0, p1, p2, p3, p4, p5, p6, pf⟩ := (B1.alloc _).below hb2
    obtain ⟨lt1, q0, q1, q2, q3, q4, q5, q6, qf⟩ := (b7_new w1 (.int .i64 5) (.int .u64 0) (.string ⟨#[]⟩) (.slice none 0 0) (.slice none 0 0) (.slice none 0 0) (.slice none 0 0) 42).below hb2
    have hbz := bt (bt hbw (below_box _ _)) hb2
    have hle := hbw.size
    clear hb2 hL1 hL D B1 hbw
    go_wp2_with fail
    exact bodyPost_ret (v := .tuple #[.agg #[.int .i64 0, .int .u64 0, .string ⟨#[]⟩, .slice none 0 0, .slice none 0 0, .slice none 0 0, .slice none 0 0], .int .i64 e]) (by simp [results, Tryz.results89, go_sem, p0, p1, p2, p3, p4, p5, p6, hne, hne']) rfl ⟨rfl, below7 (hbz.setCell hle _) (Nat.le_refl _) _ _ _ _ _ _ _⟩
  | false =>
    have h0 : e = 0 := by simpa using he
    subst h0
    have hf : finB 5 (b, 0) = (nv 5 b, 0) := by unfold finB; rw [if_pos rfl]
    rw [hf]
    clear hf he
    go_enter Tryz.func89, Tryz.ntmps89
    go_wp2_with fail
    refine (zero_p 5 _).mono ?_
    rintro _ w1 ⟨rfl, hb1⟩
    have B1 := (b7_new w (.int .i64 0) (.int .u64 0) (.string ⟨#[]⟩) (.slice none 0 0) (.slice none 0 0) (.slice none 0 0) (.slice none 0 0) 42).below hb1
    have hL1 := (hL.below (below_box w _)).below hb1
    have hbw := bt (below_box w _) hb1
    have hlt := Nat.lt_of_lt_of_le (show w.heap.size < (w.alloc (.cells #[.int .i64 0, .int .u64 0, .string ⟨#[]⟩, .slice none 0 0, .slice none 0 0, .slice none 0 0, .slice none 0 0] 42)).heap.size by simp) hb1.size
    have hne : w.heap.size ≠ w1.heap.size := by omega
    have hne' : w1.heap.size ≠ w.heap.size := by omega
    clear hb1
    rw [show vv (zeroS 5) = .agg #[.int .i64 5, .int .u64 0, .string ⟨#[]⟩, .slice none 0 0, .slice none 0 0, .slice none 0 0, .slice none 0 0] from rfl]
    go_wp2_with fail
    refine (D.out _ (hL1.below (below_box _ _))).mono ?_
    rintro _ w2 ⟨rfl, hb2⟩
    obtain ⟨lt0, p0, p1, p2, p3, p4, p5, p6, pf⟩ := (B1.alloc _).below hb2
    obtain ⟨lt1, q0, q1, q2, q3, q4, q5, q6, qf⟩ := (b7_new w1 (.int .i64 5) (.int .u64 0) (.string ⟨#[]⟩) (.slice none 0 0) (.slice none 0 0) (.slice none 0 0) (.slice none 0 0) 42).below hb2
    have hbz := bt (bt hbw (below_box _ _)) hb2
    have hle := hbw.size
    clear hb2 hL1 hL D B1 hbw
    go_wp2_with fail
    exact bodyPost_ret (v := .tuple #[.agg #[.int .i64 5, .int .u64 b, .string ⟨#[]⟩, .slice none 0 0, .slice none 0 0, .slice none 0 0, .slice none 0 0], .int .i64 0]) (by simp [results, Tryz.results89, go_sem, p0, p1, p2, p3, p4, p5, p6, q0, q1, q2, q3, q4, q5, q6, hne, hne']) rfl ⟨rfl, below7 (hbz.setCell hle _) (Nat.le_refl _) _ _ _ _ _ _ _⟩

set_option maxHeartbeats 2000000 in
set_option maxRecDepth 100000 in
theorem parse_9 (s : ByteArray) (hs : s.size ≤ 140737488355328) (w : World) (hL : Ld w) : Calls Tryz.prog 89 #[.int .i64 9, .string s] w fun e w' => e = .returned (.tuple #[vv (finB 9 (parseN 9 s.data.toList)).1, .int .i64 (finB 9 (parseN 9 s.data.toList)).2]) ∧ Below w.heap.size w w' := by
  have D := Lib.hid fun w hL => parseNumber_any 9 s hs w hL
  clear hs
  generalize parseN 9 s.data.toList = r at *
  obtain ⟨b, e⟩ := r
  simp only [] at D
  cases he : (e != 0) with
  | true =>
    have hf : finB 9 (b, e) = (zv 0, e) := by unfold finB; rw [if_neg (by simpa using he)]
    rw [hf]
    clear hf
    go_enter Tryz.func89, Tryz.ntmps89
    go_wp2_with fail
    refine (zero_p 9 _).mono ?_
    rintro _ w1 ⟨rfl, hb1⟩
    have B1 := (b7_new w (.int .i64 0) (.int .u64 0) (.string ⟨#[]⟩) (.slice none 0 0) (.slice none 0 0) (.slice none 0 0) (.slice none 0 0) 42).below hb1
    have hL1 := (hL.below (below_box w _)).below hb1
    have hbw := bt (below_box w _) hb1
    have hlt := Nat.lt_of_lt_of_le (show w.heap.size < (w.alloc (.cells #[.int .i64 0, .int .u64 0, .string ⟨#[]⟩, .slice none 0 0, .slice none 0 0, .slice none 0 0, .slice none 0 0] 42)).heap.size by simp) hb1.size
    have hne : w.heap.size ≠ w1.heap.size := by omega
    have hne' : w1.heap.size ≠ w.heap.size := by omega
    clear hb1
    rw [show vv (zeroS 9) = .agg #[.int .i64 9, .int .u64 0, .string ⟨#[]⟩, .slice none 0 0, .slice none 0 0, .slice none 0 0, .slice none 0 0] from rfl]
    go_wp2_with fail
    refine (D.out _ (hL1.below (below_box _ _))).mono ?_
    rintro _ w2 ⟨rfl, hb2⟩
    obtain ⟨lt0, p0, p1, p2, p3, p4, p5, p6, pf⟩ := (B1.alloc _).below hb2
    obtain ⟨lt1, q0, q1, q2, q3, q4, q5, q6, qf⟩ := (b7_new w1 (.int .i64 9) (.int .u64 0) (.string ⟨#[]⟩) (.slice none 0 0) (.slice none 0 0) (.slice none 0 0) (.slice none 0 0) 42).below hb2
    have hbz := bt (bt hbw (below_box _ _)) hb2
    have hle := hbw.size
    clear hb2 hL1 hL D B1 hbw
    go_wp2_with fail
    exact bodyPost_ret (v := .tuple #[.agg #[.int .i64 0, .int .u64 0, .string ⟨#[]⟩, .slice none 0 0, .slice none 0 0, .slice none 0 0, .slice none 0 0], .int .i64 e]) (by simp [results, Tryz.results89, go_sem, p0, p1, p2, p3, p4, p5, p6, hne, hne']) rfl ⟨rfl, below7 (hbz.setCell hle _) (Nat.le_refl _) _ _ _ _ _ _ _⟩
  | false =>
    have h0 : e = 0 := by simpa using he
    subst h0
    have hf : finB 9 (b, 0) = (nv 9 b, 0) := by unfold finB; rw [if_pos rfl]
    rw [hf]
    clear hf he
    go_enter Tryz.func89, Tryz.ntmps89
    go_wp2_with fail
    refine (zero_p 9 _).mono ?_
    rintro _ w1 ⟨rfl, hb1⟩
    have B1 := (b7_new w (.int .i64 0) (.int .u64 0) (.string ⟨#[]⟩) (.slice none 0 0) (.slice none 0 0) (.slice none 0 0) (.slice none 0 0) 42).below hb1
    have hL1 := (hL.below (below_box w _)).below hb1
    have hbw := bt (below_box w _) hb1
    have hlt := Nat.lt_of_lt_of_le (show w.heap.size < (w.alloc (.cells #[.int .i64 0, .int .u64 0, .string ⟨#[]⟩, .slice none 0 0, .slice none 0 0, .slice none 0 0, .slice none 0 0] 42)).heap.size by simp) hb1.size
    have hne : w.heap.size ≠ w1.heap.size := by omega
    have hne' : w1.heap.size ≠ w.heap.size := by omega
    clear hb1
    rw [show vv (zeroS 9) = .agg #[.int .i64 9, .int .u64 0, .string ⟨#[]⟩, .slice none 0 0, .slice none 0 0, .slice none 0 0, .slice none 0 0] from rfl]
    go_wp2_with fail
    refine (D.out _ (hL1.below (below_box _ _))).mono ?_
    rintro _ w2 ⟨rfl, hb2⟩
    obtain ⟨lt0, p0, p1, p2, p3, p4, p5, p6, pf⟩ := (B1.alloc _).below hb2
    obtain ⟨lt1, q0, q1, q2, q3, q4, q5, q6, qf⟩ := (b7_new w1 (.int .i64 9) (.int .u64 0) (.string ⟨#[]⟩) (.slice none 0 0) (.slice none 0 0) (.slice none 0 0) (.slice none 0 0) 42).below hb2
    have hbz := bt (bt hbw (below_box _ _)) hb2
    have hle := hbw.size
    clear hb2 hL1 hL D B1 hbw
    go_wp2_with fail
    exact bodyPost_ret (v := .tuple #[.agg #[.int .i64 9, .int .u64 b, .string ⟨#[]⟩, .slice none 0 0, .slice none 0 0, .slice none 0 0, .slice none 0 0], .int .i64 0]) (by simp [results, Tryz.results89, go_sem, p0, p1, p2, p3, p4, p5, p6, q0, q1, q2, q3, q4, q5, q6, hne, hne']) rfl ⟨rfl, below7 (hbz.setCell hle _) (Nat.le_refl _) _ _ _ _ _ _ _⟩
end Go.Proofs.YthjpchnogllliaaGreatDoor.ScpD

/- The program's Text where the value does not fit or is a number with a sign; awake. -/
set_option linter.unusedSimpArgs false
set_option linter.unusedVariables false
namespace Go.Proofs.YthjpchnogllliaaGreatDoor.ScpE
open Go.RowKit Nums Byt UtfM UtfS ScaM ScaV ScaA ScaB ScaC ScaT ScaW ScpM ScpA ScpB ScpC ScpD Ld Box

theorem formatInt (n : Int) (h0 : -9223372036854775808 ≤ n) (h1 : n ≤ 9223372036854775807) (w : World) (hL : Ld w) :
    Calls Tryz.prog 44 #[.int .i64 n, .int .i64 10] w fun e w' => e = .returned (.string ⟨(Lib.itoa n).toArray⟩) ∧ Below w.heap.size w w' := by
  refine (Tryz.strconv_FormatInt_10 n h0 h1 w hL.tab).mono ?_
  rintro e w' ⟨he, k, os, rfl⟩
  exact ⟨he, ⟨rfl, rfl, rfl, by rw [Sort.size_grow]; exact Nat.le_add_right _ _, fun b hb => Sort.heap_grow_old (w.drewN k) os hb⟩⟩

theorem sI_bounds {b : Nat} (hb : b ≤ 18446744073709551615) : -9223372036854775808 ≤ sI b ∧ sI b ≤ 9223372036854775807 := by
  unfold sI; split <;> omega

set_option maxHeartbeats 1000000 in
set_option maxRecDepth 100000 in
theorem text_not (v : SV) (hb : v.b ≤ 18446744073709551615) (ht : v.t.size ≤ 140737488355328) (hl : v.l1 + v.l2 + v.l3 + v.l4 ≤ 9223372036854775807) (hf : fitsB v.k (sc v) = false) (w : World) :
    Calls Tryz.prog 23 #[vv v] w fun e w' => e = .returned (.string ⟨#[]⟩) ∧ Below w.heap.size w w' := by
  have H := Lib.hid fun w => fits_p v.k v hb ht hl w
  have HF := Lib.hid hf
  clear hb ht hl hf
  obtain ⟨k, b, t, a1, l1, c1, a2, l2, c2, a3, l3, c3, a4, l4, c4⟩ := v
  simp only [vv] at *
  go_enter Tryz.func23, Tryz.ntmps23
  go_wp2_with (first | (refine (H.out _).mono ?_; rintro _ w1 ⟨rfl, hb⟩; rw [HF.out]))
  go_ret
  exact ⟨rfl, bt (below_box _ _) hb⟩

set_option maxHeartbeats 1000000 in
set_option maxRecDepth 100000 in
theorem text_sg (v : SV) (hb : v.b ≤ 18446744073709551615) (ht : v.t.size ≤ 140737488355328) (hl : v.l1 + v.l2 + v.l3 + v.l4 ≤ 9223372036854775807) (hf : fitsB v.k (sc v) = true) (hk : sgB v.k = true) (w : World) (hL : Ld w) :
    Calls Tryz.prog 23 #[vv v] w fun e w' => e = .returned (.string ⟨(Lib.itoa (sI v.b)).toArray⟩) ∧ Below w.heap.size w w' := by
  have H := Lib.hid fun w => fits_p v.k v hb ht hl w
  have HF := Lib.hid hf
  have HW := Lib.hid (wrap_sI hb)
  have HI := Lib.hid fun w hL => formatInt (sI v.b) (sI_bounds hb).1 (sI_bounds hb).2 w hL
  clear hb ht hl hf
  obtain ⟨k, b, t, a1, l1, c1, a2, l2, c2, a3, l3, c3, a4, l4, c4⟩ := v
  simp only [vv] at *
  have hk' : k = 2 ∨ k = 3 := by simpa [sgB] using hk
  have HK := Lib.hid hk
  clear hk
  rcases hk' with rfl | rfl
  all_goals
    go_enter Tryz.func23, Tryz.ntmps23
    go_wp2_with fail
    refine (H.out _).mono ?_
    rintro _ w1 ⟨rfl, hb⟩
    rw [HF.out]
    obtain ⟨lc, lf⟩ := bcell hb
    go_wp2_with (first | (refine (signed_p _ _).mono ?_; rintro _ w1 ⟨rfl, rfl⟩; rw [HK.out]))
    rw [HW.out]
    refine (HI.out _ ((hL.below (below_box _ _)).below hb)).mono ?_
    rintro _ w2 ⟨rfl, hb2⟩
    go_wp2_with fail
    go_ret
    exact ⟨rfl, bt (bt (below_box _ _) hb) hb2⟩

theorem m1_list : (⟨#[45, 49]⟩ : ByteArray).data.toList = [45, 49] := rfl
set_option maxRecDepth 100000 in
theorem parse_m1 : finB 2 (parseN 2 [45, 49]) = (nv 2 18446744073709551615, 0) := by
  have h : parseN 2 [45, 49] = (18446744073709551615, 0) := by
    have h1 : decB [45, 49] = true := by decide +kernel
    have h2 : numR 2 [45, 49] = some 18446744073709551615 := by
      have : Lib.parseIntB 64 [45, 49] = .ok (-1) := by decide +kernel
      unfold numR
      rw [this]
      rfl
    unfold parseN
    rw [h1, h2]
    rfl
  rw [h]; rfl
theorem itoa_m1 : Lib.itoa (sI 18446744073709551615) = [45, 49] := by decide +kernel
theorem fits_m1 : fitsB 2 (sc (nv 2 18446744073709551615)) = true := by decide +kernel

end Go.Proofs.YthjpchnogllliaaGreatDoor.ScpE
