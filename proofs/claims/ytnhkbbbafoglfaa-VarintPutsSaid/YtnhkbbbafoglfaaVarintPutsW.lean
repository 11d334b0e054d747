/- The walk of the law VarintPuts. -/
import Derived.Test.YtnhkbbbafoglfaaVarQ
import Derived.Test.YtnhkbbbafoglfaaVarL
import Derived.Test.YtnhkbbbafoglfaaNums
namespace Go.Proofs.Ytnhkbbbafoglfaa.VarintPutsW
open Go.RowKit VarM VarP VarQ VarL Nums

set_option maxRecDepth 100000 in
set_option maxHeartbeats 400000 in
theorem walk (a : Int) (w0 : (Lit.int .u64 a).wf = true) (w : World) :
    Calls Try.prog 3 #[.int .u64 a] w fun e w' => e = .returned (.bool true) ∧ Below w.heap.size w w' := by
  obtain ⟨u, rfl, hu⟩ := wf_u64 w0
  clear w0
  go_enter Try.func3, Try.ntmps3
  go_wp2_with fail
  refine (put_any u _ hu).mono ?_
  rintro e w1 ⟨rfl, h1⟩
  go_wp2_with fail
  refine (rput_any u _ hu).mono ?_
  rintro e w2 ⟨rfl, h2⟩
  go_wp2_with fail
  refine (len_any u _ hu).mono ?_
  rintro e w2 ⟨rfl, rfl⟩
  go_wp2_with fail
  refine (rlen_any u _ hu).mono ?_
  rintro e w3 ⟨rfl, h3⟩
  go_wp2
  go_ret
  exact ⟨ret_true (by simp), below_trans (below_trans h1 h2) h3⟩
end Go.Proofs.Ytnhkbbbafoglfaa.VarintPutsW
