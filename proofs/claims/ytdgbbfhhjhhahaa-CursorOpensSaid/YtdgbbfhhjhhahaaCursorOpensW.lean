/- The walk of the law CursorOpens. -/
import Derived.Test.YtdgbbfhhjhhahaaCurW
import Derived.Deep.RegionHeld3
namespace Go.Proofs.Ytdgbbfhhjhhahaa.CursorOpensW
open Go.RowKit CurM Has Nums CurA CurO CurW

set_option maxRecDepth 100000 in
set_option maxHeartbeats 1000000 in
theorem walk (s : ByteArray) (lb ld ln lt : Int) (c : Cur) (hs : s.size ≤ 140737488351232) (h1 : inI lb) (h2 : inI ld) (h3 : inI ln) (h4 : inI lt) (hc : Wf c) (w : World) :
    Calls Try.prog 4 #[.string s, .agg #[.int .i64 lb, .int .i64 ld, .int .i64 ln, .int .i64 lt], cv c] w fun e w' => e = .returned (.bool true) ∧ Below w.heap.size w w' := by
  obtain ⟨so, hso⟩ : ∃ so, sound c = so := ⟨_, rfl⟩
  have Hso := Lib.hid hso
  have hle := rest_le c
  have hd := hc.d
  have Hs : Hid (s.size ≤ 140737488355328) := Lib.hid (by omega)
  have H1 := Lib.hid h1
  have H2 := Lib.hid h2
  have H3 := Lib.hid h3
  have H4 := Lib.hid h4
  have Hc := Lib.hid hc
  clear hs h1 h2 h3 h4 hc hso
  obtain ⟨d, a, e, dp, n, t⟩ := c
  go_enter Try.func4, Try.ntmps4
  go_wp2_with fail
  refine (openP s lb ld ln lt _ Hs.out H1.out H2.out H3.out H4.out).mono ?_
  rintro _ w1 ⟨c1, x1, rfl, k1, hb1⟩
  obtain ⟨d1, a1, e1, p1, n1, t1⟩ := c1
  have hC := (has_new _ _ _ _ _ _ _ _).below hb1
  rw [World.size_alloc] at hC
  obtain ⟨ll, l0, l1, l2, l3⟩ := ((hasL_new w _ _ _ _ _).alloc _).below hb1
  go_wp2_with fail
  refine (openR s lb ld ln lt _ Hs.out H1.out H2.out H3.out H4.out).mono ?_
  rintro _ w2 ⟨c2, x2, rfl, k2, hb2⟩
  obtain ⟨rfl, rfl⟩ := inj2 k1.out k2.out
  clear k2
  have hA := (((has_new _ _ _ _ _ _ _ _).below hb2).alloc (.cells #[.string d1, .int .i64 a1, .int .i64 e1, .int .i64 p1, .int .i64 n1, .int .i64 t1] 23)).drew
  have hB := (has_new w2 d1 a1 e1 p1 n1 t1 23).drew
  have hC := (((hC.alloc _).below hb2).alloc (.cells #[.string d1, .int .i64 a1, .int .i64 e1, .int .i64 p1, .int .i64 n1, .int .i64 t1] 23)).drew
  go_wp2_with fail
  go_region_held3 (fun w' => (w'.cell? ⟨w1.heap.size, 0, none⟩ = some (.string d1) ∧ w'.cell? ⟨w1.heap.size, 1, none⟩ = some (.int .i64 a1) ∧ w'.cell? ⟨w1.heap.size, 2, none⟩ = some (.int .i64 e1) ∧ w'.cell? ⟨w1.heap.size, 3, none⟩ = some (.int .i64 p1) ∧ w'.cell? ⟨w1.heap.size, 4, none⟩ = some (.int .i64 n1) ∧ w'.cell? ⟨w1.heap.size, 5, none⟩ = some (.int .i64 t1)) ∧ (w'.cell? ⟨w2.heap.size, 0, none⟩ = some (.string d1) ∧ w'.cell? ⟨w2.heap.size, 1, none⟩ = some (.int .i64 a1) ∧ w'.cell? ⟨w2.heap.size, 2, none⟩ = some (.int .i64 e1) ∧ w'.cell? ⟨w2.heap.size, 3, none⟩ = some (.int .i64 p1) ∧ w'.cell? ⟨w2.heap.size, 4, none⟩ = some (.int .i64 n1) ∧ w'.cell? ⟨w2.heap.size, 5, none⟩ = some (.int .i64 t1)) ∧ (w'.cell? ⟨w.heap.size + 1, 0, none⟩ = some (.string d) ∧ w'.cell? ⟨w.heap.size + 1, 1, none⟩ = some (.int .i64 a) ∧ w'.cell? ⟨w.heap.size + 1, 2, none⟩ = some (.int .i64 e) ∧ w'.cell? ⟨w.heap.size + 1, 3, none⟩ = some (.int .i64 dp) ∧ w'.cell? ⟨w.heap.size + 1, 4, none⟩ = some (.int .i64 n) ∧ w'.cell? ⟨w.heap.size + 1, 5, none⟩ = some (.int .i64 t))) (exact ⟨hA.cells, hB.cells, hC.cells⟩)
    (first
      | (go_at_call 9; refine (soundP ⟨d, a, e, dp, n, t⟩ _ Hc.out so Hso.out).mono ?_; rintro _ w3 ⟨rfl, hb3⟩; have hA := hA.below hb3; have hB := hB.below hb3; have hC := hC.below hb3)
      | (go_at_call 10; refine (soundR ⟨d, a, e, dp, n, t⟩ _ Hc.out so Hso.out).mono ?_; rintro _ w4 ⟨rfl, hb4⟩; have hA := hA.below hb4; have hB := hB.below hb4; have hC := hC.below hb4)
      | (go_at_call 11; refine (leftP ⟨d, a, e, dp, n, t⟩ _ Hc.out).mono ?_; rintro _ w5 ⟨rfl, hb5⟩; have hA := hA.below hb5; have hB := hB.below hb5; have hC := hC.below hb5)
      | (go_at_call 12; refine (leftR ⟨d, a, e, dp, n, t⟩ _ Hc.out).mono ?_; rintro _ w6 ⟨rfl, hb6⟩; have hA := hA.below hb6; have hB := hB.below hb6; have hC := hC.below hb6)
      | (go_at_call 18; refine (awake_any _).mono ?_; rintro _ w7 ⟨rfl, hb7⟩; have hA := hA.below hb7; have hB := hB.below hb7; have hC := hC.below hb7)
    )
  all_goals
    go_wp2_with fail
    go_ret
    exact ⟨rfl, bt (bt (bt (bt (bt (bt (below2t hb1) (below1t hb2)) (below1dt hb3)) hb4) hb5) hb6) hb7⟩
end Go.Proofs.Ytdgbbfhhjhhahaa.CursorOpensW
