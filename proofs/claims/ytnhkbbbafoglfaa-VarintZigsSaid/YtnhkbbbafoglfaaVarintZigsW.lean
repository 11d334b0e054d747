/- The walk of the law VarintZigs: by the contracts of Zig and Zag. -/
import Derived.Test.YtnhkbbbafoglfaaVarZ
namespace Go.Proofs.Ytnhkbbbafoglfaa.VarintZigsW
open Go.RowKit VarZ

set_option maxHeartbeats 400000 in
theorem walk (n u : Int) (w0 : (Lit.int .i64 n).wf = true) (w1 : (Lit.int .u64 u).wf = true) (w : World) :
    Calls Try.prog 5 #[.int .i64 n, .int .u64 u] w fun e w' => e = .returned (.bool true) ∧ Below w.heap.size w w' := by
  have hn : -9223372036854775808 ≤ n ∧ n ≤ 9223372036854775807 := by simpa [Lit.wf, IntKind.min, IntKind.max, IntKind.signed, IntKind.bits] using w0
  have hu : 0 ≤ u ∧ u ≤ 18446744073709551615 := by simpa [Lit.wf, IntKind.min, IntKind.max, IntKind.signed, IntKind.bits] using w1
  obtain ⟨hn1, hn2⟩ := hn
  obtain ⟨hu1, hu2⟩ := hu
  obtain ⟨z1, z2⟩ := zig_bd n hn1 hn2
  obtain ⟨y1, y2⟩ := zag_bd u hu1 hu2
  have e1 := zag_zig n
  have e2 := zig_zag u hu1
  have e3 : zig 1 = 2 := rfl
  clear w0 w1
  go_enter Try.func5, Try.ntmps5
  go_wp2_with (first
    | (go_at_call 18; refine (zig_any _ _ (by omega) (by omega)).mono ?_; rintro e w' ⟨rfl, rfl⟩)
    | (go_at_call 19; refine (rzig_any _ _ (by omega) (by omega)).mono ?_; rintro e w' ⟨rfl, rfl⟩)
    | (go_at_call 20; refine (zag_any _ _ (by omega) (by omega)).mono ?_; rintro e w' ⟨rfl, rfl⟩)
    | (go_at_call 21; refine (rzag_any _ _ (by omega) (by omega)).mono ?_; rintro e w' ⟨rfl, rfl⟩))
  go_ret
  exact ⟨by simp [e1, e2, e3], Below.refl _ _⟩
end Go.Proofs.Ytnhkbbbafoglfaa.VarintZigsW
