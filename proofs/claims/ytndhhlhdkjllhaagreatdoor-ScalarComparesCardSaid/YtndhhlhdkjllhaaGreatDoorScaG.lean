/- Contracts of Same and Cmp of the reference of package scalar. -/
import Derived.Test.YtndhhlhdkjllhaaGreatDoorScaD
import Derived.Test.YtndhhlhdkjllhaaGreatDoorScaC
import Derived.Deep.RegionHeld3
set_option linter.unusedSimpArgs false
set_option linter.unusedVariables false
namespace Go.Proofs.YtndhhlhdkjllhaaGreatDoor.ScaG
open Go.RowKit Nums Byt UtfM UtfS ScaM ScaV ScaA ScaB ScaC ScaD

/-- A block holds a value. -/
structure HasV (w : World) (B : Nat) (v : SV) : Prop where
  lt : B < w.heap.size
  cells : w.cell? ⟨B, 0, none⟩ = some (.int .i64 v.k) ∧ w.cell? ⟨B, 1, none⟩ = some (.int .u64 v.b) ∧ w.cell? ⟨B, 2, none⟩ = some (.string v.t) ∧ w.cell? ⟨B, 3, none⟩ = some (.slice v.a1 v.l1 v.c1) ∧ w.cell? ⟨B, 4, none⟩ = some (.slice v.a2 v.l2 v.c2) ∧ w.cell? ⟨B, 5, none⟩ = some (.slice v.a3 v.l3 v.c3) ∧ w.cell? ⟨B, 6, none⟩ = some (.slice v.a4 v.l4 v.c4)
theorem has_newV (w : World) (v : SV) (T : TypeId) : HasV (w.alloc (.cells #[.int .i64 v.k, .int .u64 v.b, .string v.t, .slice v.a1 v.l1 v.c1, .slice v.a2 v.l2 v.c2, .slice v.a3 v.l3 v.c3, .slice v.a4 v.l4 v.c4] T)) w.heap.size v := by
  refine ⟨by simp, ?_⟩
  simp [World.cell?_alloc_at _ _ _ _ rfl]
theorem HasV.below {w w' : World} {B : Nat} {v : SV} (h : HasV w B v) (hb : Below w.heap.size w w') : HasV w' B v := by
  have e : ∀ i, w'.cell? ⟨B, i, none⟩ = w.cell? ⟨B, i, none⟩ := fun i => hb.cell (p := ⟨B, i, none⟩) h.lt
  refine ⟨Nat.lt_of_lt_of_le h.lt hb.size, ?_⟩
  simp only [e]
  exact h.cells
theorem HasV.alloc {w : World} {B : Nat} {v : SV} (h : HasV w B v) (o : Obj) : HasV (w.alloc o) B v := h.below (below_box w o)
theorem HasV.drew {w : World} {B : Nat} {v : SV} (h : HasV w B v) : HasV w.drew B v := ⟨h.lt, h.cells⟩

theorem box2 {w w' : World} {o o2 : Obj} (h : Below ((w.alloc o).alloc o2).drew.heap.size ((w.alloc o).alloc o2).drew w') : Below w.heap.size w w' :=
  ((((Below.refl w.heap.size w).alloc (Nat.le_refl _) o).alloc (by simp) o2).drew).trans (h.mono (by show w.heap.size ≤ ((w.alloc o).alloc o2).heap.size; simp; omega))
set_option maxHeartbeats 2000000 in
set_option maxRecDepth 100000 in
theorem cmp_any (x y : SV) (hbx : x.b ≤ 18446744073709551615) (hby : y.b ≤ 18446744073709551615) (w : World) : Calls Tryz.prog 31 #[vv x, vv y] w fun e w' => e = .returned (.int .i64 (cmpV (sc x) (sc y))) ∧ Below w.heap.size w w' := by
  obtain ⟨k, b, t, a1, l1, c1, a2, l2, c2, a3, l3, c3, a4, l4, c4⟩ := x
  obtain ⟨k', b', t', a1', l1', c1', a2', l2', c2', a3', l3', c3', a4', l4', c4'⟩ := y
  simp only at hbx hby
  obtain ⟨r, hr⟩ : ∃ r, r = cmpV (sc ⟨k, b, t, a1, l1, c1, a2, l2, c2, a3, l3, c3, a4, l4, c4⟩) (sc ⟨k', b', t', a1', l1', c1', a2', l2', c2', a3', l3', c3', a4', l4', c4'⟩) := ⟨_, rfl⟩
  rw [← hr]
  have two_boxes : ∀ (o o2 : Obj), Below w.heap.size w ((w.alloc o).alloc o2) := fun o o2 => ((Below.refl _ _).alloc (Nat.le_refl _) _).alloc (by simp) _
  have Two := Lib.hid two_boxes
  clear two_boxes
  by_cases h1 : k < k'
  · have hf : r = -1 := by rw [hr]; simp [cmpV, sc, h1]
    rw [hf]
    clear hf hr hbx hby
    simp only [vv]
    go_enter Tryz.func31, Tryz.ntmps31
    go_wp2_with fail
    go_ret
    exact ⟨rfl, Two.out _ _⟩
  by_cases h2 : k' < k
  · have hf : r = 1 := by rw [hr]; simp [cmpV, sc, h1, h2]
    rw [hf]
    clear hf hr hbx hby
    simp only [vv]
    go_enter Tryz.func31, Tryz.ntmps31
    go_wp2_with fail
    go_ret
    exact ⟨rfl, Two.out _ _⟩
  obtain rfl : k = k' := by omega
  clear h1 h2
  cases h3 : isB k with
  | false =>
    have hf : r = 0 := by rw [hr]; simp [cmpV, sc, h3]
    rw [hf]
    have H3 := Lib.hid h3
    clear hf hr hbx hby h3
    simp only [vv]
    go_enter Tryz.func31, Tryz.ntmps31
    go_wp2_with fail
    refine (is_any _ _).mono ?_
    rintro _ w1 ⟨rfl, rfl⟩
    rw [H3.out]
    go_wp2_with fail
    go_ret
    exact ⟨rfl, Two.out _ _⟩
  | true =>
    cases h4 : txB k with
    | true =>
      have e1 : t.toList = t.data.toList := ByteArray.toList_eq _
      have e2 : t'.toList = t'.data.toList := ByteArray.toList_eq _
      have hr' : r = if Op.bytesLess t.toList t'.toList = true then -1 else if (t.toList == t'.toList) = true then 0 else 1 := by rw [hr, e1, e2]; unfold cmpV; simp only [sc, h3, h4]; simp
      have H3 := Lib.hid h3
      have H4 := Lib.hid h4
      clear hr hbx hby h3 h4 e1 e2
      cases h5 : Op.bytesLess t.toList t'.toList with
      | true =>
        rw [h5, if_pos rfl] at hr'
        rw [hr']
        clear hr'
        simp only [vv]
        go_enter Tryz.func31, Tryz.ntmps31
        go_wp2_with fail
        refine (is_any _ _).mono ?_
        rintro _ w1 ⟨rfl, rfl⟩
        rw [H3.out]
        go_wp2_with fail
        refine (texts_any _ _).mono ?_
        rintro _ w1 ⟨rfl, rfl⟩
        rw [H4.out]
        go_wp2_with fail
        go_ret
        exact ⟨rfl, Two.out _ _⟩
      | false =>
        rw [h5, if_neg (by simp)] at hr'
        cases h6 : (t.toList == t'.toList) with
        | true =>
          rw [h6, if_pos rfl] at hr'
          rw [hr']
          clear hr'
          simp only [vv]
          go_enter Tryz.func31, Tryz.ntmps31
          go_wp2_with fail
          refine (is_any _ _).mono ?_
          rintro _ w1 ⟨rfl, rfl⟩
          rw [H3.out]
          go_wp2_with fail
          refine (texts_any _ _).mono ?_
          rintro _ w1 ⟨rfl, rfl⟩
          rw [H4.out]
          go_wp2_with fail
          refine (texts_any _ _).mono ?_
          rintro _ w1 ⟨rfl, rfl⟩
          rw [H4.out]
          go_wp2_with fail
          refine (texts_any _ _).mono ?_
          rintro _ w1 ⟨rfl, rfl⟩
          rw [H4.out]
          go_wp2_with fail
          go_ret
          exact ⟨rfl, Two.out _ _⟩
        | false =>
          rw [h6, if_neg (by simp)] at hr'
          rw [hr']
          clear hr'
          simp only [vv]
          go_enter Tryz.func31, Tryz.ntmps31
          go_wp2_with fail
          refine (is_any _ _).mono ?_
          rintro _ w1 ⟨rfl, rfl⟩
          rw [H3.out]
          go_wp2_with fail
          refine (texts_any _ _).mono ?_
          rintro _ w1 ⟨rfl, rfl⟩
          rw [H4.out]
          go_wp2_with fail
          refine (texts_any _ _).mono ?_
          rintro _ w1 ⟨rfl, rfl⟩
          rw [H4.out]
          go_wp2_with fail
          go_ret
          exact ⟨rfl, Two.out _ _⟩
    | false =>
      obtain ⟨p, hp⟩ : ∃ p, p = rankN (sc ⟨k, b, t, a1, l1, c1, a2, l2, c2, a3, l3, c3, a4, l4, c4⟩) := ⟨_, rfl⟩
      obtain ⟨q, hq⟩ : ∃ q, q = rankN (sc ⟨k, b', t', a1', l1', c1', a2', l2', c2', a3', l3', c3', a4', l4', c4'⟩) := ⟨_, rfl⟩
      have hr' : r = if p < q then -1 else if q < p then 1 else 0 := by rw [hr, hp, hq]; unfold cmpV; simp [sc, h3, h4]
      have H3 := Lib.hid h3
      have H4 := Lib.hid h4
      have HP := Lib.hid hp
      have HQ := Lib.hid hq
      have Hr := Lib.hid hr'
      clear hr h3 h4 hp hq hr'
      by_cases hpq : p < q
      · have hr2 : r = -1 := by rw [Hr.out, if_pos hpq]
        rw [hr2]
        have hi : (p : Int) < q := by omega
        have di : decide ((p : Int) < q) = true := by simp; omega
        have dn : decide (p < q) = true := by simp [hpq]
        clear hr2
        simp only [vv]
        go_enter Tryz.func31, Tryz.ntmps31
        go_wp2_with fail
        refine (is_any _ _).mono ?_
        rintro _ w1 ⟨rfl, rfl⟩
        rw [H3.out]
        go_wp2_with fail
        refine (texts_any _ _).mono ?_
        rintro _ w1 ⟨rfl, rfl⟩
        rw [H4.out]
        go_wp2_with fail
        refine (texts_any _ _).mono ?_
        rintro _ w1 ⟨rfl, rfl⟩
        rw [H4.out]
        go_wp2_with fail
        refine (texts_any _ _).mono ?_
        rintro _ w1 ⟨rfl, rfl⟩
        rw [H4.out]
        have hA := ((has_newV w ⟨k, b, t, a1, l1, c1, a2, l2, c2, a3, l3, c3, a4, l4, c4⟩ 28).alloc (.cells #[.int .i64 k, .int .u64 b', .string t', .slice a1' l1' c1', .slice a2' l2' c2', .slice a3' l3' c3', .slice a4' l4' c4'] 28)).drew
        have hB := (has_newV (w.alloc (.cells #[.int .i64 k, .int .u64 b, .string t, .slice a1 l1 c1, .slice a2 l2 c2, .slice a3 l3 c3, .slice a4 l4 c4] 28)) ⟨k, b', t', a1', l1', c1', a2', l2', c2', a3', l3', c3', a4', l4', c4'⟩ 28).drew
        rw [World.size_alloc] at hB
        go_wp2_with fail
        go_region_held3 (fun w' => (w'.cell? ⟨w.heap.size, 0, none⟩ = some (.int .i64 k) ∧ w'.cell? ⟨w.heap.size, 1, none⟩ = some (.int .u64 b) ∧ w'.cell? ⟨w.heap.size, 2, none⟩ = some (.string t) ∧ w'.cell? ⟨w.heap.size, 3, none⟩ = some (.slice a1 l1 c1) ∧ w'.cell? ⟨w.heap.size, 4, none⟩ = some (.slice a2 l2 c2) ∧ w'.cell? ⟨w.heap.size, 5, none⟩ = some (.slice a3 l3 c3) ∧ w'.cell? ⟨w.heap.size, 6, none⟩ = some (.slice a4 l4 c4)) ∧ (w'.cell? ⟨w.heap.size + 1, 0, none⟩ = some (.int .i64 k) ∧ w'.cell? ⟨w.heap.size + 1, 1, none⟩ = some (.int .u64 b') ∧ w'.cell? ⟨w.heap.size + 1, 2, none⟩ = some (.string t') ∧ w'.cell? ⟨w.heap.size + 1, 3, none⟩ = some (.slice a1' l1' c1') ∧ w'.cell? ⟨w.heap.size + 1, 4, none⟩ = some (.slice a2' l2' c2') ∧ w'.cell? ⟨w.heap.size + 1, 5, none⟩ = some (.slice a3' l3' c3') ∧ w'.cell? ⟨w.heap.size + 1, 6, none⟩ = some (.slice a4' l4' c4'))) (exact ⟨hA.cells, hB.cells⟩) (first
          | (go_at_call_of 63 (Value.agg #[.int .i64 k, .int .u64 b, .string t, .slice a1 l1 c1, .slice a2 l2 c2, .slice a3 l3 c3, .slice a4 l4 c4]); refine (rank_any ⟨k, b, t, a1, l1, c1, a2, l2, c2, a3, l3, c3, a4, l4, c4⟩ hbx _).mono ?_; rintro _ w2 ⟨rfl, hb2⟩; rw [← HP.out]; have hA := hA.below hb2; have hB := hB.below hb2)
          | (go_at_call_of 63 (Value.agg #[.int .i64 k, .int .u64 b', .string t', .slice a1' l1' c1', .slice a2' l2' c2', .slice a3' l3' c3', .slice a4' l4' c4']); refine (rank_any ⟨k, b', t', a1', l1', c1', a2', l2', c2', a3', l3', c3', a4', l4', c4'⟩ hby _).mono ?_; rintro _ w3 ⟨rfl, hb3⟩; rw [← HQ.out]; have hA := hA.below hb3; have hB := hB.below hb3))
        all_goals
          go_wp2_with fail
          go_ret
          exact ⟨rfl, box2 (bt hb2 hb3)⟩
      · by_cases hqp : q < p
        · have hr2 : r = 1 := by rw [Hr.out, if_neg hpq, if_pos hqp]
          rw [hr2]
          have dn : decide (p < q) = false := by simp; omega
          have dn2 : decide (q < p) = true := by simp [hqp]
          clear hr2
          simp only [vv]
          go_enter Tryz.func31, Tryz.ntmps31
          go_wp2_with fail
          refine (is_any _ _).mono ?_
          rintro _ w1 ⟨rfl, rfl⟩
          rw [H3.out]
          go_wp2_with fail
          refine (texts_any _ _).mono ?_
          rintro _ w1 ⟨rfl, rfl⟩
          rw [H4.out]
          go_wp2_with fail
          refine (texts_any _ _).mono ?_
          rintro _ w1 ⟨rfl, rfl⟩
          rw [H4.out]
          go_wp2_with fail
          refine (texts_any _ _).mono ?_
          rintro _ w1 ⟨rfl, rfl⟩
          rw [H4.out]
          have hA := ((has_newV w ⟨k, b, t, a1, l1, c1, a2, l2, c2, a3, l3, c3, a4, l4, c4⟩ 28).alloc (.cells #[.int .i64 k, .int .u64 b', .string t', .slice a1' l1' c1', .slice a2' l2' c2', .slice a3' l3' c3', .slice a4' l4' c4'] 28)).drew
          have hB := (has_newV (w.alloc (.cells #[.int .i64 k, .int .u64 b, .string t, .slice a1 l1 c1, .slice a2 l2 c2, .slice a3 l3 c3, .slice a4 l4 c4] 28)) ⟨k, b', t', a1', l1', c1', a2', l2', c2', a3', l3', c3', a4', l4', c4'⟩ 28).drew
          rw [World.size_alloc] at hB
          go_wp2_with fail
          go_region_held3 (fun w' => (w'.cell? ⟨w.heap.size, 0, none⟩ = some (.int .i64 k) ∧ w'.cell? ⟨w.heap.size, 1, none⟩ = some (.int .u64 b) ∧ w'.cell? ⟨w.heap.size, 2, none⟩ = some (.string t) ∧ w'.cell? ⟨w.heap.size, 3, none⟩ = some (.slice a1 l1 c1) ∧ w'.cell? ⟨w.heap.size, 4, none⟩ = some (.slice a2 l2 c2) ∧ w'.cell? ⟨w.heap.size, 5, none⟩ = some (.slice a3 l3 c3) ∧ w'.cell? ⟨w.heap.size, 6, none⟩ = some (.slice a4 l4 c4)) ∧ (w'.cell? ⟨w.heap.size + 1, 0, none⟩ = some (.int .i64 k) ∧ w'.cell? ⟨w.heap.size + 1, 1, none⟩ = some (.int .u64 b') ∧ w'.cell? ⟨w.heap.size + 1, 2, none⟩ = some (.string t') ∧ w'.cell? ⟨w.heap.size + 1, 3, none⟩ = some (.slice a1' l1' c1') ∧ w'.cell? ⟨w.heap.size + 1, 4, none⟩ = some (.slice a2' l2' c2') ∧ w'.cell? ⟨w.heap.size + 1, 5, none⟩ = some (.slice a3' l3' c3') ∧ w'.cell? ⟨w.heap.size + 1, 6, none⟩ = some (.slice a4' l4' c4'))) (exact ⟨hA.cells, hB.cells⟩) (first
            | (go_at_call_of 63 (Value.agg #[.int .i64 k, .int .u64 b, .string t, .slice a1 l1 c1, .slice a2 l2 c2, .slice a3 l3 c3, .slice a4 l4 c4]); refine (rank_any ⟨k, b, t, a1, l1, c1, a2, l2, c2, a3, l3, c3, a4, l4, c4⟩ hbx _).mono ?_; rintro _ w2 ⟨rfl, hb2⟩; rw [← HP.out]; have hA := hA.below hb2; have hB := hB.below hb2)
            | (go_at_call_of 63 (Value.agg #[.int .i64 k, .int .u64 b', .string t', .slice a1' l1' c1', .slice a2' l2' c2', .slice a3' l3' c3', .slice a4' l4' c4']); refine (rank_any ⟨k, b', t', a1', l1', c1', a2', l2', c2', a3', l3', c3', a4', l4', c4'⟩ hby _).mono ?_; rintro _ w3 ⟨rfl, hb3⟩; rw [← HQ.out]; have hA := hA.below hb3; have hB := hB.below hb3))
          all_goals
            have hA := hA.drew
            have hB := hB.drew
            go_wp2_with fail
            go_region_held3 (fun w' => (w'.cell? ⟨w.heap.size, 0, none⟩ = some (.int .i64 k) ∧ w'.cell? ⟨w.heap.size, 1, none⟩ = some (.int .u64 b) ∧ w'.cell? ⟨w.heap.size, 2, none⟩ = some (.string t) ∧ w'.cell? ⟨w.heap.size, 3, none⟩ = some (.slice a1 l1 c1) ∧ w'.cell? ⟨w.heap.size, 4, none⟩ = some (.slice a2 l2 c2) ∧ w'.cell? ⟨w.heap.size, 5, none⟩ = some (.slice a3 l3 c3) ∧ w'.cell? ⟨w.heap.size, 6, none⟩ = some (.slice a4 l4 c4)) ∧ (w'.cell? ⟨w.heap.size + 1, 0, none⟩ = some (.int .i64 k) ∧ w'.cell? ⟨w.heap.size + 1, 1, none⟩ = some (.int .u64 b') ∧ w'.cell? ⟨w.heap.size + 1, 2, none⟩ = some (.string t') ∧ w'.cell? ⟨w.heap.size + 1, 3, none⟩ = some (.slice a1' l1' c1') ∧ w'.cell? ⟨w.heap.size + 1, 4, none⟩ = some (.slice a2' l2' c2') ∧ w'.cell? ⟨w.heap.size + 1, 5, none⟩ = some (.slice a3' l3' c3') ∧ w'.cell? ⟨w.heap.size + 1, 6, none⟩ = some (.slice a4' l4' c4'))) (exact ⟨hA.cells, hB.cells⟩) (first
              | (go_at_call_of 63 (Value.agg #[.int .i64 k, .int .u64 b, .string t, .slice a1 l1 c1, .slice a2 l2 c2, .slice a3 l3 c3, .slice a4 l4 c4]); refine (rank_any ⟨k, b, t, a1, l1, c1, a2, l2, c2, a3, l3, c3, a4, l4, c4⟩ hbx _).mono ?_; rintro _ w4 ⟨rfl, hb4⟩; rw [← HP.out]; have hA := hA.below hb4; have hB := hB.below hb4)
              | (go_at_call_of 63 (Value.agg #[.int .i64 k, .int .u64 b', .string t', .slice a1' l1' c1', .slice a2' l2' c2', .slice a3' l3' c3', .slice a4' l4' c4']); refine (rank_any ⟨k, b', t', a1', l1', c1', a2', l2', c2', a3', l3', c3', a4', l4', c4'⟩ hby _).mono ?_; rintro _ w5 ⟨rfl, hb5⟩; rw [← HQ.out]; have hA := hA.below hb5; have hB := hB.below hb5))
            all_goals
              go_wp2_with fail
              go_ret
              exact ⟨rfl, box2 (bt (bt (bt hb2 hb3) (Below.refl _ _).drew) (bt hb4 hb5))⟩
        · have hr2 : r = 0 := by rw [Hr.out, if_neg hpq, if_neg hqp]
          rw [hr2]
          have dn : decide (p < q) = false := by simp; omega
          have dn2 : decide (q < p) = false := by simp; omega
          clear hr2
          simp only [vv]
          go_enter Tryz.func31, Tryz.ntmps31
          go_wp2_with fail
          refine (is_any _ _).mono ?_
          rintro _ w1 ⟨rfl, rfl⟩
          rw [H3.out]
          go_wp2_with fail
          refine (texts_any _ _).mono ?_
          rintro _ w1 ⟨rfl, rfl⟩
          rw [H4.out]
          go_wp2_with fail
          refine (texts_any _ _).mono ?_
          rintro _ w1 ⟨rfl, rfl⟩
          rw [H4.out]
          go_wp2_with fail
          refine (texts_any _ _).mono ?_
          rintro _ w1 ⟨rfl, rfl⟩
          rw [H4.out]
          have hA := ((has_newV w ⟨k, b, t, a1, l1, c1, a2, l2, c2, a3, l3, c3, a4, l4, c4⟩ 28).alloc (.cells #[.int .i64 k, .int .u64 b', .string t', .slice a1' l1' c1', .slice a2' l2' c2', .slice a3' l3' c3', .slice a4' l4' c4'] 28)).drew
          have hB := (has_newV (w.alloc (.cells #[.int .i64 k, .int .u64 b, .string t, .slice a1 l1 c1, .slice a2 l2 c2, .slice a3 l3 c3, .slice a4 l4 c4] 28)) ⟨k, b', t', a1', l1', c1', a2', l2', c2', a3', l3', c3', a4', l4', c4'⟩ 28).drew
          rw [World.size_alloc] at hB
          go_wp2_with fail
          go_region_held3 (fun w' => (w'.cell? ⟨w.heap.size, 0, none⟩ = some (.int .i64 k) ∧ w'.cell? ⟨w.heap.size, 1, none⟩ = some (.int .u64 b) ∧ w'.cell? ⟨w.heap.size, 2, none⟩ = some (.string t) ∧ w'.cell? ⟨w.heap.size, 3, none⟩ = some (.slice a1 l1 c1) ∧ w'.cell? ⟨w.heap.size, 4, none⟩ = some (.slice a2 l2 c2) ∧ w'.cell? ⟨w.heap.size, 5, none⟩ = some (.slice a3 l3 c3) ∧ w'.cell? ⟨w.heap.size, 6, none⟩ = some (.slice a4 l4 c4)) ∧ (w'.cell? ⟨w.heap.size + 1, 0, none⟩ = some (.int .i64 k) ∧ w'.cell? ⟨w.heap.size + 1, 1, none⟩ = some (.int .u64 b') ∧ w'.cell? ⟨w.heap.size + 1, 2, none⟩ = some (.string t') ∧ w'.cell? ⟨w.heap.size + 1, 3, none⟩ = some (.slice a1' l1' c1') ∧ w'.cell? ⟨w.heap.size + 1, 4, none⟩ = some (.slice a2' l2' c2') ∧ w'.cell? ⟨w.heap.size + 1, 5, none⟩ = some (.slice a3' l3' c3') ∧ w'.cell? ⟨w.heap.size + 1, 6, none⟩ = some (.slice a4' l4' c4'))) (exact ⟨hA.cells, hB.cells⟩) (first
            | (go_at_call_of 63 (Value.agg #[.int .i64 k, .int .u64 b, .string t, .slice a1 l1 c1, .slice a2 l2 c2, .slice a3 l3 c3, .slice a4 l4 c4]); refine (rank_any ⟨k, b, t, a1, l1, c1, a2, l2, c2, a3, l3, c3, a4, l4, c4⟩ hbx _).mono ?_; rintro _ w2 ⟨rfl, hb2⟩; rw [← HP.out]; have hA := hA.below hb2; have hB := hB.below hb2)
            | (go_at_call_of 63 (Value.agg #[.int .i64 k, .int .u64 b', .string t', .slice a1' l1' c1', .slice a2' l2' c2', .slice a3' l3' c3', .slice a4' l4' c4']); refine (rank_any ⟨k, b', t', a1', l1', c1', a2', l2', c2', a3', l3', c3', a4', l4', c4'⟩ hby _).mono ?_; rintro _ w3 ⟨rfl, hb3⟩; rw [← HQ.out]; have hA := hA.below hb3; have hB := hB.below hb3))
          all_goals
            have hA := hA.drew
            have hB := hB.drew
            go_wp2_with fail
            go_region_held3 (fun w' => (w'.cell? ⟨w.heap.size, 0, none⟩ = some (.int .i64 k) ∧ w'.cell? ⟨w.heap.size, 1, none⟩ = some (.int .u64 b) ∧ w'.cell? ⟨w.heap.size, 2, none⟩ = some (.string t) ∧ w'.cell? ⟨w.heap.size, 3, none⟩ = some (.slice a1 l1 c1) ∧ w'.cell? ⟨w.heap.size, 4, none⟩ = some (.slice a2 l2 c2) ∧ w'.cell? ⟨w.heap.size, 5, none⟩ = some (.slice a3 l3 c3) ∧ w'.cell? ⟨w.heap.size, 6, none⟩ = some (.slice a4 l4 c4)) ∧ (w'.cell? ⟨w.heap.size + 1, 0, none⟩ = some (.int .i64 k) ∧ w'.cell? ⟨w.heap.size + 1, 1, none⟩ = some (.int .u64 b') ∧ w'.cell? ⟨w.heap.size + 1, 2, none⟩ = some (.string t') ∧ w'.cell? ⟨w.heap.size + 1, 3, none⟩ = some (.slice a1' l1' c1') ∧ w'.cell? ⟨w.heap.size + 1, 4, none⟩ = some (.slice a2' l2' c2') ∧ w'.cell? ⟨w.heap.size + 1, 5, none⟩ = some (.slice a3' l3' c3') ∧ w'.cell? ⟨w.heap.size + 1, 6, none⟩ = some (.slice a4' l4' c4'))) (exact ⟨hA.cells, hB.cells⟩) (first
              | (go_at_call_of 63 (Value.agg #[.int .i64 k, .int .u64 b, .string t, .slice a1 l1 c1, .slice a2 l2 c2, .slice a3 l3 c3, .slice a4 l4 c4]); refine (rank_any ⟨k, b, t, a1, l1, c1, a2, l2, c2, a3, l3, c3, a4, l4, c4⟩ hbx _).mono ?_; rintro _ w4 ⟨rfl, hb4⟩; rw [← HP.out]; have hA := hA.below hb4; have hB := hB.below hb4)
              | (go_at_call_of 63 (Value.agg #[.int .i64 k, .int .u64 b', .string t', .slice a1' l1' c1', .slice a2' l2' c2', .slice a3' l3' c3', .slice a4' l4' c4']); refine (rank_any ⟨k, b', t', a1', l1', c1', a2', l2', c2', a3', l3', c3', a4', l4', c4'⟩ hby _).mono ?_; rintro _ w5 ⟨rfl, hb5⟩; rw [← HQ.out]; have hA := hA.below hb5; have hB := hB.below hb5))
            all_goals
              go_wp2_with fail
              go_ret
              exact ⟨rfl, box2 (bt (bt (bt hb2 hb3) (Below.refl _ _).drew) (bt hb4 hb5))⟩
end Go.Proofs.YtndhhlhdkjllhaaGreatDoor.ScaG
