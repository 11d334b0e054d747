/- The walk of the law CursorLeaves. -/
import Derived.Test.YtdgbbfhhjhhahaaCurW
import Derived.Test.YtdgbbfhhjhhahaaCurL
import Derived.Deep.RegionHeld3
namespace Go.Proofs.Ytdgbbfhhjhhahaa.CursorLeavesW
open Go.RowKit CurM Has Nums CurA CurL CurW

theorem leave_props (c i : Cur) : ∃ a' n' : Int, pLeave c i = ⟨c.d, a', c.e, c.dp, n', c.t⟩ ∧ c.a ≤ a' ∧ n' ≤ c.n := by
  unfold pLeave
  cases h : leaves c i with
  | true =>
    have := leaves_iff.1 h
    exact ⟨i.e, i.n, by simp, by omega, by omega⟩
  | false => exact ⟨c.a, c.n, by simp, by omega, by omega⟩

set_option maxRecDepth 100000 in
set_option maxHeartbeats 1000000 in
theorem walk (c i : Cur) (hc : Wf c) (hi : Wf i) (w : World) :
    Calls Try.prog 5 #[cv c, cv i] w fun e w' => e = .returned (.bool true) ∧ Below w.heap.size w w' := by
  have Hc := Lib.hid hc
  have Hi := Lib.hid hi
  obtain ⟨a', n', hp, ha', hn'⟩ := leave_props c i
  have Hp := Lib.hid hp
  clear hc hi hp
  obtain ⟨d, a, e, dp, n, t⟩ := c
  obtain ⟨d2, a2, e2, dp2, n2, t2⟩ := i
  simp only at ha' hn'
  go_enter Try.func5, Try.ntmps5
  go_wp2_with fail
  refine (leaveP ⟨d, a, e, dp, n, t⟩ ⟨d2, a2, e2, dp2, n2, t2⟩ _ Hc.out Hi.out).mono ?_
  rintro _ w1 ⟨c1, rfl, k1, hb1⟩
  obtain rfl : c1 = ⟨d, a', e, dp, n', t⟩ := k1.out.symm.trans Hp.out
  have hA := (((has_new w d a e dp n t _).alloc _).below hb1)
  have hB := (has_new _ _ _ _ _ _ _ _).below hb1
  rw [World.size_alloc] at hB
  have hA := (hA.alloc (.cells #[.string d, .int .i64 a', .int .i64 e, .int .i64 dp, .int .i64 n', .int .i64 t] 23)).drew
  have hB := (hB.alloc (.cells #[.string d, .int .i64 a', .int .i64 e, .int .i64 dp, .int .i64 n', .int .i64 t] 23)).drew
  have hC := (has_new w1 d a' e dp n' t 23).drew
  go_wp2_with fail
  go_region_held3 (fun w' => (w'.cell? ⟨w.heap.size, 0, none⟩ = some (.string d) ∧ w'.cell? ⟨w.heap.size, 1, none⟩ = some (.int .i64 a) ∧ w'.cell? ⟨w.heap.size, 2, none⟩ = some (.int .i64 e) ∧ w'.cell? ⟨w.heap.size, 3, none⟩ = some (.int .i64 dp) ∧ w'.cell? ⟨w.heap.size, 4, none⟩ = some (.int .i64 n) ∧ w'.cell? ⟨w.heap.size, 5, none⟩ = some (.int .i64 t)) ∧ (w'.cell? ⟨w.heap.size + 1, 0, none⟩ = some (.string d2) ∧ w'.cell? ⟨w.heap.size + 1, 1, none⟩ = some (.int .i64 a2) ∧ w'.cell? ⟨w.heap.size + 1, 2, none⟩ = some (.int .i64 e2) ∧ w'.cell? ⟨w.heap.size + 1, 3, none⟩ = some (.int .i64 dp2) ∧ w'.cell? ⟨w.heap.size + 1, 4, none⟩ = some (.int .i64 n2) ∧ w'.cell? ⟨w.heap.size + 1, 5, none⟩ = some (.int .i64 t2)) ∧ (w'.cell? ⟨w1.heap.size, 0, none⟩ = some (.string d) ∧ w'.cell? ⟨w1.heap.size, 1, none⟩ = some (.int .i64 a') ∧ w'.cell? ⟨w1.heap.size, 2, none⟩ = some (.int .i64 e) ∧ w'.cell? ⟨w1.heap.size, 3, none⟩ = some (.int .i64 dp) ∧ w'.cell? ⟨w1.heap.size, 4, none⟩ = some (.int .i64 n') ∧ w'.cell? ⟨w1.heap.size, 5, none⟩ = some (.int .i64 t))) (exact ⟨hA.cells, hB.cells, hC.cells⟩)
    (first
      | (go_at_call 16; refine (leaveR ⟨d, a, e, dp, n, t⟩ ⟨d2, a2, e2, dp2, n2, t2⟩ _ Hc.out Hi.out).mono ?_; rintro _ w2 ⟨c2, rfl, k2, hb2⟩; obtain rfl : c2 = ⟨d, a', e, dp, n', t⟩ := k2.out.symm.trans Hp.out; have hA := hA.below hb2; have hB := hB.below hb2; have hC := hC.below hb2)
      | (go_at_call 18; refine (awake_any _).mono ?_; rintro _ w3 ⟨rfl, hb3⟩; have hA := hA.below hb3; have hB := hB.below hb3; have hC := hC.below hb3)
    )
  all_goals
    go_wp2_with fail
    go_ret
    exact ⟨rfl, bt (bt (below2t hb1) (below1dt hb2)) hb3⟩
end Go.Proofs.Ytdgbbfhhjhhahaa.CursorLeavesW
