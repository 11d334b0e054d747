/- The contracts of Short, of the program and of the reference, and of the laws' helper takes. -/
import Derived.Test.YtnhkbbbafoglfaaVarS
import Derived.Test.YtnhkbbbafoglfaaVarU
import Derived.Test.YtnhkbbbafoglfaaVarP
namespace Go.Proofs.Ytnhkbbbafoglfaa.VarV
open Go.RowKit VarM VarS VarT VarU VarP

theorem ret_bool {a b : Bool} (h : a = b) : Ending.returned (.bool a) = .returned (.bool b) := by rw [h]
theorem last_get (s : ByteArray) (n : Nat) (hn : n + 1 = s.size) (h : n < s.size) : last s.data.toList = s[n] := by
  unfold last
  have e : s.data.toList.length = n + 1 := by rw [hn]; rfl
  rw [e, Nat.add_sub_cancel, List.getD, List.getElem?_eq_getElem (by omega)]
  rfl

theorem bne_byte (c : UInt8) : ((c.toNat : Int) != 0) = decide (c ≠ 0) := by
  by_cases h : c = 0
  · subst h; rfl
  · have h2 : c.toNat ≠ 0 := fun e => h (UInt8.toNat_inj.1 e)
    have h3 : (c.toNat : Int) ≠ 0 := by omega
    rw [show ((c.toNat : Int) != 0) = true from by rw [bne_iff_ne]; exact h3]
    simp [h]

set_option maxRecDepth 100000 in
set_option maxHeartbeats 400000 in
theorem short_any (s : ByteArray) (w : World) (hs : s.size ≤ maxLen) :
    Calls Try.prog 16 #[.string s] w fun e w' => e = .returned (.bool (short s.data.toList)) ∧ w = w' := by
  have hs' := hs
  unfold maxLen at hs
  obtain ⟨hn1, he1, hp1⟩ := take_n s.data.toList
  have hlen : s.data.toList.length = s.size := rfl
  rw [hlen] at hn1
  obtain ⟨⟨u, n, er⟩, ht⟩ : ∃ t, take s.data.toList = t := ⟨_, rfl⟩
  rw [ht] at hn1 he1 hp1
  have Ht := Lib.hid ht
  clear ht hlen
  simp only at hn1 he1 hp1
  by_cases h0 : er = 0
  · subst h0
    have hp := hp1 rfl
    clear hp1 he1
    by_cases hn : n = s.size
    · by_cases h1 : n = 1
      · have Hv := Lib.hid (short_one Ht.out hn h1)
        subst h1
        have hsz := hn.symm
        clear hn
        go_enter Try.func16, Try.ntmps16
        go_wp2_with fail
        refine (take_any s _ hs').mono ?_
        rintro e w' ⟨rfl, rfl⟩
        rw [Ht.out]
        go_wp2
        go_ret
        exact ⟨ret_bool Hv.out.symm, rfl⟩
      · have Hv := Lib.hid (short_last Ht.out hn h1)
        obtain ⟨m, rfl⟩ : ∃ m, n = m + 1 := ⟨n - 1, by omega⟩
        have Hm := Lib.hid hn
        have hm1 : m < s.size := by omega
        have hb : (((m : Int) + 1) != (s.size : Int)) = false := by rw [bne_eq_false_iff_eq]; omega
        have hb1 : (((m : Int) + 1) == 1) = false := by rw [beq_eq_false_iff_ne]; omega
        clear hn hn1 hp h1
        go_enter Try.func16, Try.ntmps16
        go_wp2_with fail
        refine (take_any s _ hs').mono ?_
        rintro e w' ⟨rfl, rfl⟩
        rw [Ht.out]
        go_wp2
        all_goals go_ret
        exact ⟨ret_bool (by rw [Hv.out, last_get s m Hm.out hm1]; exact bne_byte _), rfl⟩
    · have Hv := Lib.hid (short_len Ht.out hn)
      have hb : ((n : Int) != (s.size : Int)) = true := by rw [bne_iff_ne]; omega
      have hb1 : ((n : Int) == (s.size : Int)) = false := by rw [beq_eq_false_iff_ne]; omega
      clear hn
      go_enter Try.func16, Try.ntmps16
      go_wp2_with fail
      refine (take_any s _ hs').mono ?_
      rintro e w' ⟨rfl, rfl⟩
      rw [Ht.out]
      go_wp2
      go_ret
      exact ⟨ret_bool Hv.out.symm, rfl⟩
  · have Hv := Lib.hid (short_err Ht.out h0)
    have hb : ((er : Int) == 0) = false := by simp; omega
    have hb2 : ((er : Int) != 0) = true := by simp; omega
    go_enter Try.func16, Try.ntmps16
    go_wp2_with fail
    refine (take_any s _ hs').mono ?_
    rintro e w' ⟨rfl, rfl⟩
    rw [Ht.out]
    go_wp2
    go_ret
    exact ⟨ret_bool Hv.out.symm, rfl⟩

set_option maxRecDepth 100000 in
set_option maxHeartbeats 400000 in
theorem rshort_any (s : ByteArray) (w : World) (hs : s.size ≤ maxLen) :
    Calls Try.prog 17 #[.string s] w fun e w' => e = .returned (.bool (short s.data.toList)) ∧ Below w.heap.size w w' := by
  have hs' := hs
  unfold maxLen at hs
  obtain ⟨hn1, he1, hp1⟩ := take_n s.data.toList
  have hu := take_lt s.data.toList
  have hlen : s.data.toList.length = s.size := rfl
  rw [hlen] at hn1
  obtain ⟨⟨u, n, er⟩, ht⟩ : ∃ t, take s.data.toList = t := ⟨_, rfl⟩
  rw [ht] at hn1 he1 hp1 hu
  have Ht := Lib.hid ht
  clear ht hlen
  simp only at hn1 he1 hp1 hu
  by_cases h0 : er = 0
  · subst h0
    clear hp1 he1
    by_cases hn : n = s.size
    · have Hv := Lib.hid (short_ok Ht.out hn)
      have hb : ((n : Int) == (s.size : Int)) = true := by rw [beq_iff_eq]; omega
      clear hn
      go_enter Try.func17, Try.ntmps17
      go_wp2_with fail
      refine (rtake_any s _ hs').mono ?_
      rintro e w' ⟨rfl, rfl⟩
      rw [Ht.out]
      go_wp2_with fail
      refine (rput_any u _ (by omega)).mono ?_
      rintro e w' ⟨rfl, hbel⟩
      go_wp2
      go_ret
      refine ⟨ret_bool ?_, hbel⟩
      rw [Hv.out]
      show (put u == s.toList) = _
      rw [ByteArray.toList_eq, Bool.eq_iff_iff]
      simp
    · have Hv := Lib.hid (short_len Ht.out hn)
      have hb1 : ((n : Int) == (s.size : Int)) = false := by rw [beq_eq_false_iff_ne]; omega
      clear hn
      go_enter Try.func17, Try.ntmps17
      go_wp2_with fail
      refine (rtake_any s _ hs').mono ?_
      rintro e w' ⟨rfl, rfl⟩
      rw [Ht.out]
      go_wp2
      go_ret
      exact ⟨ret_bool Hv.out.symm, Below.refl _ _⟩
  · have Hv := Lib.hid (short_err Ht.out h0)
    have hb : ((er : Int) == 0) = false := by rw [beq_eq_false_iff_ne]; omega
    go_enter Try.func17, Try.ntmps17
    go_wp2_with fail
    refine (rtake_any s _ hs').mono ?_
    rintro e w' ⟨rfl, rfl⟩
    rw [Ht.out]
    go_wp2
    go_ret
    exact ⟨ret_bool Hv.out.symm, Below.refl _ _⟩

set_option maxRecDepth 100000 in
set_option maxHeartbeats 400000 in
theorem takes_any (s : ByteArray) (w : World) (hs : s.size ≤ maxLen) :
    Calls Try.prog 26 #[.string s] w fun e w' => e = .returned (.int .u64 (take s.data.toList).1) ∧ w = w' := by
  go_enter Try.func26, Try.ntmps26
  go_wp2_with fail
  refine (take_any s _ hs).mono ?_
  rintro e w' ⟨rfl, rfl⟩
  go_wp2
  go_ret
  exact ⟨rfl, rfl⟩
end Go.Proofs.Ytnhkbbbafoglfaa.VarV
