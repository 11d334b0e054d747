/- The walk of the law VarintRoundTrips. -/
import Derived.Test.YtnhkbbbafoglfaaVarQ
import Derived.Test.YtnhkbbbafoglfaaVarV
import Derived.Test.YtnhkbbbafoglfaaVarL
import Derived.Test.YtnhkbbbafoglfaaNums
namespace Go.Proofs.Ytnhkbbbafoglfaa.VarintRoundTripsW
open Go.RowKit VarM VarS VarP VarQ VarT VarU VarV VarL Nums

/-- The law's last line. -/
theorem last_line (u : Nat) (hu : u < 18446744073709551616) (s : ByteArray) (h : (short s.data.toList == (s.toList == put u)) = false) : (put (take s.data.toList).1 == put u) = false := by
  rw [beq_eq_false_iff_ne] at h ⊢
  rw [ByteArray.toList_eq] at h
  intro e
  apply h
  by_cases hs : s.data.toList = put u
  · rw [hs, short_put hu]; simp
  · have h1 : (s.data.toList == put u) = false := by rw [beq_eq_false_iff_ne]; exact hs
    rw [h1]
    unfold short
    rw [decide_eq_false_iff_not]
    rintro ⟨_, _, h3⟩
    exact hs (h3.symm.trans e)

set_option maxRecDepth 100000 in
set_option maxHeartbeats 400000 in
theorem walk (a : Int) (s : ByteArray) (w0 : (Lit.int .u64 a).wf = true) (hz : s.size ≤ 140737488351232) (w : World) :
    Calls Try.prog 7 #[.int .u64 a, .string s] w fun e w' => e = .returned (.bool true) ∧ Below w.heap.size w w' := by
  obtain ⟨u, rfl, hu⟩ := wf_u64 w0
  clear w0
  have hp10 := put_le 9 u (by omega)
  have Htake : Hid (take ((⟨(put u).toArray⟩ : ByteArray) ++ s).data.toList = (u, (put u).length, 0)) := Lib.hid (by rw [append_toList]; exact take_put (by omega) s.data.toList)
  have Hshort := Lib.hid (short_put (u := u) (by omega))
  have Hl := Lib.hid (take_lt s.data.toList)
  have Hsz : Hid (s.size ≤ maxLen) := Lib.hid (by unfold maxLen; omega)
  have Hsz2 : Hid (((⟨(put u).toArray⟩ : ByteArray) ++ s).size ≤ maxLen) := Lib.hid (by rw [size_mk_append]; unfold maxLen; omega)
  have Hsz3 : Hid ((⟨(put u).toArray⟩ : ByteArray).size ≤ maxLen) := Lib.hid (by rw [size_mk]; unfold maxLen; omega)
  have hsz : ((⟨(put u).toArray⟩ : ByteArray).size : Int) = ((put u).length : Int) := by rw [size_mk]
  by_cases hc : (short s.data.toList == (s.toList == put u)) = true
  · go_enter Try.func7, Try.ntmps7
    go_wp2_with fail
    refine (put_any u _ hu).mono ?_
    rintro e w1 ⟨rfl, h1⟩
    go_wp2_with fail
    refine (take_any _ _ Hsz2.out).mono ?_
    rintro e w1 ⟨rfl, rfl⟩
    rw [Htake.out]
    go_wp2_with fail
    refine (len_any u _ hu).mono ?_
    rintro e w1 ⟨rfl, rfl⟩
    go_wp2_with fail
    refine (short_any _ _ Hsz3.out).mono ?_
    rintro e w1 ⟨rfl, rfl⟩
    rw [show (⟨(put u).toArray⟩ : ByteArray).data.toList = put u from rfl, Hshort.out]
    go_wp2_with fail
    refine (short_any _ _ Hsz.out).mono ?_
    rintro e w1 ⟨rfl, rfl⟩
    go_wp2
    go_ret
    exact ⟨rfl, h1⟩
  · rw [Bool.not_eq_true] at hc
    have hd := last_line u (by omega) s hc
    have hd2 : (put (take s.data.toList).1 != put u) = true := by rw [bne, hd]; rfl
    go_enter Try.func7, Try.ntmps7
    go_wp2_with fail
    refine (put_any u _ hu).mono ?_
    rintro e w1 ⟨rfl, h1⟩
    go_wp2_with fail
    refine (take_any _ _ Hsz2.out).mono ?_
    rintro e w1 ⟨rfl, rfl⟩
    rw [Htake.out]
    go_wp2_with fail
    refine (len_any u _ hu).mono ?_
    rintro e w1 ⟨rfl, rfl⟩
    go_wp2_with fail
    refine (short_any _ _ Hsz3.out).mono ?_
    rintro e w1 ⟨rfl, rfl⟩
    rw [show (⟨(put u).toArray⟩ : ByteArray).data.toList = put u from rfl, Hshort.out]
    go_wp2_with fail
    refine (short_any _ _ Hsz.out).mono ?_
    rintro e w1 ⟨rfl, rfl⟩
    go_wp2_with fail
    refine (takes_any _ _ Hsz.out).mono ?_
    rintro e w1 ⟨rfl, rfl⟩
    go_wp2_with fail
    refine (put_any _ _ (by have := Hl.out; omega)).mono ?_
    rintro e w2 ⟨rfl, h2⟩
    go_wp2
    go_ret
    exact ⟨rfl, below_trans h1 h2⟩
end Go.Proofs.Ytnhkbbbafoglfaa.VarintRoundTripsW
