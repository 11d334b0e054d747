/- Parse at kinds that are none; the program's Parse is the reference's. -/
import Derived.Test.YtgjbpadhdnclnaaGreatDoorPrsP
import Derived.Test.YtgjbpadhdnclnaaGreatDoorScaY
set_option linter.unusedSimpArgs false
set_option linter.unusedVariables false
namespace Go.Proofs.YtgjbpadhdnclnaaGreatDoor.PrsQ
open Go.RowKit Nums Byt UtfM UtfS UtfQ UtfH ScaM ScaV ScaA ScaB ScaC ScaT ScaW ScaX ScaY ScpM ScpA ScpB ScpC ScpD PrsP NumQ Ld Box

set_option maxHeartbeats 2000000 in
set_option maxRecDepth 100000 in
theorem parse_other (k : Int) (hk : isB k = false) (s : ByteArray) (w : World) : Calls Tryz.prog 10 #[.int .i64 k, .string s] w fun e w' => e = .returned (.tuple #[vv (zv 0), .int .i64 1]) ∧ Below w.heap.size w w' := by
  have hn : ¬ (1 ≤ k ∧ k ≤ 9) := by
    intro h
    unfold isB at hk
    simp only [Bool.and_eq_false_iff, decide_eq_false_iff_not] at hk
    omega
  have e1 : (k == 1) = false := by rw [beq_eq_false_iff_ne]; omega
  have e2 : (k == 2) = false := by rw [beq_eq_false_iff_ne]; omega
  have e3 : (k == 3) = false := by rw [beq_eq_false_iff_ne]; omega
  have e4 : (k == 4) = false := by rw [beq_eq_false_iff_ne]; omega
  have e5 : (k == 5) = false := by rw [beq_eq_false_iff_ne]; omega
  have e6 : (k == 6) = false := by rw [beq_eq_false_iff_ne]; omega
  have e7 : (k == 7) = false := by rw [beq_eq_false_iff_ne]; omega
  have e8 : (k == 8) = false := by rw [beq_eq_false_iff_ne]; omega
  have e9 : (k == 9) = false := by rw [beq_eq_false_iff_ne]; omega
  have hz : zeroS k = zv 0 := by unfold zeroS; rw [hk]; rfl
  have HZ := Lib.hid fun w => zero_p k w
  rw [hz] at HZ
  clear hz hn hk
  go_enter Tryz.func10, Tryz.ntmps10
  go_wp2_with fail
  refine (HZ.out _).mono ?_
  rintro _ w1 ⟨rfl, hb1⟩
  have B1 := (b7_new w (.int .i64 0) (.int .u64 0) (.string ⟨#[]⟩) (.slice none 0 0) (.slice none 0 0) (.slice none 0 0) (.slice none 0 0) 28).below hb1
  have hbw := bt (below_box w _) hb1
  have hlt := Nat.lt_of_lt_of_le (show w.heap.size < (w.alloc (.cells #[.int .i64 0, .int .u64 0, .string ⟨#[]⟩, .slice none 0 0, .slice none 0 0, .slice none 0 0, .slice none 0 0] 28)).heap.size by simp) hb1.size
  have hne : w.heap.size ≠ w1.heap.size := by omega
  have hne' : w1.heap.size ≠ w.heap.size := by omega
  clear hb1
  rw [show vv (zv 0) = .agg #[.int .i64 0, .int .u64 0, .string ⟨#[]⟩, .slice none 0 0, .slice none 0 0, .slice none 0 0, .slice none 0 0] from rfl]
  obtain ⟨lt0, p0, p1, p2, p3, p4, p5, p6, pf⟩ := B1
  have hbz := bt hbw (below_box _ (.cells #[.int .i64 0, .int .u64 0, .string ⟨#[]⟩, .slice none 0 0, .slice none 0 0, .slice none 0 0, .slice none 0 0] 28))
  have hle := hbw.size
  have hb7 := below7 hbw (Nat.le_refl w.heap.size) (.int .i64 0) (.int .u64 0) (.string ⟨#[]⟩) (.slice none 0 0) (.slice none 0 0) (.slice none 0 0) (.slice none 0 0)
  clear hbz hbw
  go_wp2_with fail
  exact bodyPost_ret (v := .tuple #[.agg #[.int .i64 0, .int .u64 0, .string ⟨#[]⟩, .slice none 0 0, .slice none 0 0, .slice none 0 0, .slice none 0 0], .int .i64 1]) (by simp [results, Tryz.results10, go_sem, World.cell?_alloc_past, lt0, p0, p1, p2, p3, p4, p5, p6, hne, hne']) rfl ⟨rfl, hb7.alloc hb7.size _⟩

theorem zv_kind (v : SV × Int) : v = (v.1, v.2) := rfl
theorem parse_bool_eq (l : List UInt8) : finB 1 (pbP l) = boolS 1 l := by
  unfold pbP boolS finB
  by_cases h1 : l = ScaY.trueL
  · have h2 : ¬ l = PrsP.falseL := by rw [h1]; decide
    rw [if_neg h2, if_pos h1, if_pos (show l = PrsP.trueL from h1)]; rfl
  · rw [if_neg h1, if_neg (show ¬ l = PrsP.trueL from h1)]
    by_cases h2 : l = ScaY.falseL
    · rw [if_pos h2, if_pos (show l = PrsP.falseL from h2)]; rfl
    · rw [if_neg h2, if_neg (show ¬ l = PrsP.falseL from h2)]; rfl
theorem parse_text_eq (l : List UInt8) : finT 7 (ptP l) = textS 7 l := by
  unfold ptP textS kept finT
  by_cases h1 : (unquote l).2.2 ≠ 0 ∨ (unquote l).2.1 ≠ l.length
  · rw [if_pos h1, if_pos h1]; rfl
  · rw [if_neg h1, if_neg h1, if_neg (show ¬ (7 : Int) = 8 by decide)]
    by_cases h2 : 0 ≤ bad (unquote l).1
    · rw [if_pos h2, if_pos h2]; rfl
    · rw [if_neg h2, if_neg h2]
      by_cases h3 : 4096 < (unquote l).1.length
      · rw [if_pos h3, if_pos h3]; rfl
      · rw [if_neg h3, if_neg h3]; rfl
theorem prefix_one (l : List UInt8) (c : UInt8) : (Lib.hasPrefix l [c] = true ↔ l.head? = some c) ∧ (l.head? = some c → Lib.trimPrefix l [c] = l.drop 1) := by
  cases l with
  | nil => exact ⟨by simp [Lib.hasPrefix], fun h => by cases h⟩
  | cons a l =>
    have e : Lib.hasPrefix (a :: l) [c] = (c == a) := by simp [Lib.hasPrefix, List.isPrefixOf]
    refine ⟨?_, fun h => ?_⟩
    · rw [e, beq_iff_eq]
      constructor
      · intro h; rw [h]; rfl
      · intro h; injection h with h; exact h.symm
    · injection h with h
      subst h
      unfold Lib.trimPrefix
      rw [show Lib.hasPrefix (a :: l) [a] = true by simp [Lib.hasPrefix, List.isPrefixOf]]
      rfl
theorem parse_bytes_eq (l : List UInt8) : finT 8 (pyP l) = bytesS 8 l := by
  obtain ⟨h1, h2⟩ := prefix_one l 120
  unfold bytesS
  by_cases hx : l.head? = some 120
  · rw [if_pos hx]
    unfold pyP
    rw [h2 hx, h1.2 hx]
    generalize l.drop 1 = d
    unfold textS kept finT
    by_cases c1 : (unquote d).2.2 ≠ 0 ∨ (unquote d).2.1 ≠ d.length
    · rw [if_pos (show (true = false ∨ (unquote d).2.2 ≠ 0 ∨ (unquote d).2.1 ≠ d.length) from .inr c1), if_pos c1]; rfl
    · rw [if_neg (show ¬ (true = false ∨ (unquote d).2.2 ≠ 0 ∨ (unquote d).2.1 ≠ d.length) by simp only [Bool.true_eq_false, false_or]; exact c1), if_neg c1, if_pos rfl]
      by_cases c2 : uhE (unquote d).1 ≠ 0
      · rw [if_pos c2, if_pos c2]; rfl
      · rw [if_neg c2, if_neg c2]
        by_cases c3 : 4096 < (uhT (unquote d).1).length
        · rw [if_pos c3, if_pos c3]; rfl
        · rw [if_neg c3, if_neg c3]; rfl
  · rw [if_neg hx]
    have hp : Lib.hasPrefix l [120] = false := by
      cases e : Lib.hasPrefix l [120] with
      | false => rfl
      | true => exact absurd (h1.1 e) hx
    unfold pyP
    rw [if_pos (.inl hp)]; rfl
theorem prefix_two (l : List UInt8) : (Lib.hasPrefix l [48, 120] = true ↔ l.take 2 = [48, 120]) ∧ (l.take 2 = [48, 120] → Lib.trimPrefix l [48, 120] = l.drop 2) := by
  match l with
  | [] => exact ⟨by simp [Lib.hasPrefix], fun h => by cases h⟩
  | [a] => exact ⟨by simp [Lib.hasPrefix, List.isPrefixOf], fun h => by simp at h⟩
  | a :: b :: l =>
    have e : Lib.hasPrefix (a :: b :: l) [48, 120] = ((48 == a) && (120 == b)) := by simp [Lib.hasPrefix, List.isPrefixOf]
    refine ⟨?_, fun h => ?_⟩
    · rw [e, Bool.and_eq_true, beq_iff_eq, beq_iff_eq]
      constructor
      · rintro ⟨h1, h2⟩; rw [← h1, ← h2]; rfl
      · intro h; simp at h; exact ⟨h.1.symm, h.2.symm⟩
    · simp at h
      obtain ⟨rfl, rfl⟩ := h
      unfold Lib.trimPrefix
      rw [show Lib.hasPrefix (48 :: 120 :: l) [48, 120] = true by simp [Lib.hasPrefix, List.isPrefixOf]]
      rfl
theorem uh_len {d : List UInt8} (h : uhE d = 0) : 2 * (uhT d).length = d.length := by
  cases e : unhexL d with
  | none => unfold uhE at h; rw [e] at h; cases h
  | some r =>
    have := unhexL_len d r e
    unfold uhT
    rw [e]
    exact this
theorem parse_double_eq (l : List UInt8) : finB 6 (pdP l) = doubleS l := by
  unfold pdP doubleS
  by_cases h1 : l = nanL
  · rw [if_pos h1, if_pos h1]; rfl
  · rw [if_neg h1, if_neg h1]
    by_cases h2 : l = infL
    · rw [if_pos h2, if_pos h2]; rfl
    · rw [if_neg h2, if_neg h2]
      by_cases h3 : l = ninL
      · rw [if_pos h3, if_pos h3]; rfl
      · rw [if_neg h3, if_neg h3]
        obtain ⟨p1, p2⟩ := prefix_two l
        by_cases hx : l.take 2 = [48, 120]
        · rw [p2 hx, p1.2 hx]
          have hd : (l.drop 2).length = l.length - 2 := by rw [List.length_drop]
          have h2l : 2 ≤ l.length := by
            have := congrArg List.length hx
            simp [List.length_take] at this
            omega
          unfold bitsS
          by_cases hu : uhE (l.drop 2) = 0
          · have hul := uh_len hu
            by_cases h8 : (uhT (l.drop 2)).length = 8
            · rw [if_neg (show ¬ (true = false ∨ uhE (l.drop 2) ≠ 0 ∨ (uhT (l.drop 2)).length ≠ 8) by simp [hu, h8]), if_neg (show ¬ (l.length ≠ 18 ∨ l.take 2 ≠ [48, 120]) by rintro (e | e); omega; exact e hx), if_neg (show ¬ uhE (l.drop 2) ≠ 0 by simp [hu])]
              by_cases hc : clsN (numW (uhT (l.drop 2))) ≤ 1
              · rw [if_pos hc, if_pos hc]; rfl
              · rw [if_neg hc, if_neg hc]; rfl
            · rw [if_pos (.inr (.inr h8)), if_pos (show l.length ≠ 18 ∨ l.take 2 ≠ [48, 120] from .inl (by omega))]; rfl
          · rw [if_pos (.inr (.inl hu))]
            by_cases h18 : l.length ≠ 18 ∨ l.take 2 ≠ [48, 120]
            · rw [if_pos h18]; rfl
            · rw [if_neg h18, if_pos hu]; rfl
        · have hp : Lib.hasPrefix l [48, 120] = false := by
            cases e : Lib.hasPrefix l [48, 120] with
            | false => rfl
            | true => exact absurd (p1.1 e) hx
          rw [if_pos (.inl hp), if_pos (.inr hx)]; rfl
/-- Parse. -/
theorem parse_p (k : Int) (s : ByteArray) (hs : s.size ≤ 35184372088000) (w : World) (hL : Ld w) : Calls Tryz.prog 10 #[.int .i64 k, .string s] w fun e w' => e = .returned (.tuple #[vv (parseS doubleS k s.data.toList).1, .int .i64 (parseS doubleS k s.data.toList).2]) ∧ Below w.heap.size w w' := by
  cases hk : isB k with
  | false =>
    have hf : parseS doubleS k s.data.toList = (zv 0, 1) := by unfold parseS; rw [if_pos hk]
    rw [hf]
    exact parse_other k hk s w
  | true =>
    have hn : ¬ isB k = false := by rw [hk]; simp
    have hr : 1 ≤ k ∧ k ≤ 9 := by
      unfold isB at hk
      simp only [Bool.and_eq_true, decide_eq_true_eq] at hk
      exact hk
    unfold parseS
    rw [if_neg hn]
    rcases (by omega : k = 1 ∨ k = 2 ∨ k = 3 ∨ k = 4 ∨ k = 5 ∨ k = 6 ∨ k = 7 ∨ k = 8 ∨ k = 9) with rfl | rfl | rfl | rfl | rfl | rfl | rfl | rfl | rfl
    · rw [if_pos rfl, ← parse_bool_eq]; exact parse_1 s hs w hL
    · rw [if_neg (by decide), if_neg (by decide), if_neg (by decide), if_neg (by decide), ← fin_whole (by omega)]; exact parse_2 s (by omega) w hL
    · rw [if_neg (by decide), if_neg (by decide), if_neg (by decide), if_neg (by decide), ← fin_whole (by omega)]; exact parse_3 s (by omega) w hL
    · rw [if_neg (by decide), if_neg (by decide), if_neg (by decide), if_neg (by decide), ← fin_whole (by omega)]; exact parse_4 s (by omega) w hL
    · rw [if_neg (by decide), if_neg (by decide), if_neg (by decide), if_neg (by decide), ← fin_whole (by omega)]; exact parse_5 s (by omega) w hL
    · rw [if_neg (by decide), if_pos rfl, ← parse_double_eq]; exact parse_6 s hs w hL
    · rw [if_neg (by decide), if_neg (by decide), if_pos rfl, ← parse_text_eq]; exact parse_7 s hs w hL
    · rw [if_neg (by decide), if_neg (by decide), if_neg (by decide), if_pos rfl, ← parse_bytes_eq]; exact parse_8 s hs w hL
    · rw [if_neg (by decide), if_neg (by decide), if_neg (by decide), if_neg (by decide), ← fin_whole (by omega)]; exact parse_9 s (by omega) w hL
end Go.Proofs.YtgjbpadhdnclnaaGreatDoor.PrsQ
