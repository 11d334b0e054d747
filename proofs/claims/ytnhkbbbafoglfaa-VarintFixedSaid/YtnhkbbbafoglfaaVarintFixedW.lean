/- The walk of the law VarintFixed. -/
import Derived.Test.YtnhkbbbafoglfaaVarF
import Derived.Test.YtnhkbbbafoglfaaNums
namespace Go.Proofs.Ytnhkbbbafoglfaa.VarintFixedW
open Go.RowKit VarM VarF Nums

theorem fixed_back (u : Nat) (hu : u ≤ 18446744073709551615) (r : List UInt8) : fixed (fix 8 u ++ r) = (u, 0) := by
  have hl := fix_length 8 u
  unfold fixed
  rw [if_neg (by rw [List.length_append, hl]; omega), List.take_append_of_le_length (by omega), List.take_of_length_le (by omega), num_fix]
  rw [Nat.mod_eq_of_lt (by omega)]

set_option maxRecDepth 100000 in
set_option maxHeartbeats 400000 in
theorem walk (a : Int) (s : ByteArray) (w0 : (Lit.int .u64 a).wf = true) (hz : s.size ≤ 140737488351232) (w : World) :
    Calls Try.prog 6 #[.int .u64 a, .string s] w fun e w' => e = .returned (.bool true) ∧ Below w.heap.size w w' := by
  obtain ⟨u, rfl, hu⟩ := wf_u64 w0
  clear w0
  have Hb : Hid (fixed ((⟨(fix 8 u).toArray⟩ : ByteArray) ++ s).data.toList = (u, 0)) := Lib.hid (by rw [append_toList]; exact fixed_back u hu s.data.toList)
  have Hsz : Hid (s.size ≤ maxLen) := Lib.hid (by unfold maxLen; omega)
  have Hsz2 : Hid (((⟨(fix 8 u).toArray⟩ : ByteArray) ++ s).size ≤ maxLen) := Lib.hid (by rw [size_mk_append, fix_length]; unfold maxLen; omega)
  obtain ⟨⟨v, er⟩, hv⟩ : ∃ t, fixed s.data.toList = t := ⟨_, rfl⟩
  have Hv := Lib.hid hv
  clear hv
  have hsz : ((⟨(fix 8 u).toArray⟩ : ByteArray).size : Int) = 8 := by rw [size_mk, fix_length]; rfl
  go_enter Try.func6, Try.ntmps6
  go_wp2_with fail
  refine (tfix_any s _ Hsz.out).mono ?_
  rintro e w1 ⟨rfl, rfl⟩
  rw [Hv.out]
  go_wp2_with fail
  refine (rtfix_any s _ Hsz.out).mono ?_
  rintro e w1 ⟨rfl, rfl⟩
  rw [Hv.out]
  go_wp2_with fail
  refine (fixed_any u _ hu).mono ?_
  rintro e w1 ⟨rfl, h1⟩
  go_wp2_with fail
  refine (tfix_any _ _ Hsz2.out).mono ?_
  rintro e w1 ⟨rfl, rfl⟩
  rw [Hb.out]
  go_wp2_with fail
  refine (rfixed_any u _ hu).mono ?_
  rintro e w2 ⟨rfl, h2⟩
  go_wp2
  go_ret
  exact ⟨ret_true (by simp), below_trans h1 h2⟩
end Go.Proofs.Ytnhkbbbafoglfaa.VarintFixedW
