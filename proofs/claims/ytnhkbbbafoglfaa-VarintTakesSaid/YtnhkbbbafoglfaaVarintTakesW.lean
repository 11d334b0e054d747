/- The walk of the law VarintTakes. -/
import Derived.Test.YtnhkbbbafoglfaaVarV
import Derived.Test.YtnhkbbbafoglfaaVarL
import Derived.Test.YtnhkbbbafoglfaaNums
namespace Go.Proofs.Ytnhkbbbafoglfaa.VarintTakesW
open Go.RowKit VarM VarS VarT VarU VarV VarL Nums

set_option maxRecDepth 100000 in
set_option maxHeartbeats 400000 in
theorem walk (s : ByteArray) (hz : s.size ≤ 140737488351232) (w : World) :
    Calls Try.prog 4 #[.string s] w fun e w' => e = .returned (.bool true) ∧ Below w.heap.size w w' := by
  have hs : s.size ≤ maxLen := by unfold maxLen; omega
  have Hs := Lib.hid hs
  clear hs
  have hl0 : (put 0).length = 1 := by rw [put_small (by omega)]; rfl
  have Hl0 := Lib.hid hl0
  clear hl0
  go_enter Try.func4, Try.ntmps4
  go_wp2_with fail
  refine (take_any s _ Hs.out).mono ?_
  rintro e w1 ⟨rfl, rfl⟩
  go_wp2_with fail
  refine (rtake_any s _ Hs.out).mono ?_
  rintro e w1 ⟨rfl, rfl⟩
  go_wp2_with fail
  refine (short_any s _ Hs.out).mono ?_
  rintro e w1 ⟨rfl, rfl⟩
  go_wp2_with fail
  refine (rshort_any s _ Hs.out).mono ?_
  rintro e w1 ⟨rfl, h1⟩
  go_wp2_with fail
  refine (len_any 0 _ (by omega)).mono ?_
  rintro e w1 ⟨rfl, rfl⟩
  rw [Hl0.out]
  go_wp2
  go_ret
  exact ⟨rfl, h1⟩
end Go.Proofs.Ytnhkbbbafoglfaa.VarintTakesW
