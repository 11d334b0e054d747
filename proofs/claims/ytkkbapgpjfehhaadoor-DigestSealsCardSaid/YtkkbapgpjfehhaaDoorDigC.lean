/- Seal and Open, of the program and of the reference; the reference's Mix. -/
import Derived.Test.YtkkbapgpjfehhaaDoorDigB
set_option linter.unusedSimpArgs false
set_option linter.unusedVariables false
namespace Go.Proofs.YtkkbapgpjfehhaaDoor.DigC
open Go.RowKit VarM Byt BytT FixM DigM Dld Nums DigA DigB

def sealL (l : List UInt8) : List UInt8 := l ++ sumB l
/-- What Open returns: the bytes and the number of the error. -/
def openL (l : List UInt8) : List UInt8 × Int :=
  if l.length < 4 then ([], 4) else if l.drop (l.length - 4) = sumB (l.take (l.length - 4)) then (l.take (l.length - 4), 0) else ([], 25)
theorem open_seal (l : List UInt8) : openL (sealL l) = (l, 0) := by
  have h := sumB_len l
  have e : (sealL l).length - 4 = l.length := by unfold sealL; rw [List.length_append, h]; omega
  have e4 : ¬ (sealL l).length < 4 := by unfold sealL; rw [List.length_append, h]; omega
  unfold openL
  rw [e, if_neg e4]
  have e1 : (sealL l).take l.length = l := by unfold sealL; simp
  have e2 : (sealL l).drop l.length = sumB l := by unfold sealL; simp
  rw [e1, e2, if_pos rfl]
theorem seal_open {l t : List UInt8} (h : openL l = (t, 0)) : sealL t = l := by
  unfold openL at h
  split at h
  · cases h
  · split at h
    · rename_i h2
      injection h with h3 _
      subst h3
      unfold sealL
      rw [← h2, List.take_append_drop]
    · cases h
theorem open_if {l : List UInt8} (h : ¬ l.length < 4) : openL l = if sealL (l.take (l.length - 4)) = l then (l.take (l.length - 4), 0) else ([], 25) := by
  have e := List.take_append_drop (l.length - 4) l
  have k : (l.drop (l.length - 4) = sumB (l.take (l.length - 4))) ↔ (sealL (l.take (l.length - 4)) = l) := by
    unfold sealL
    exact ⟨fun h => by rw [← h]; exact e, fun h => (List.append_cancel_left (h.trans e.symm)).symm⟩
  unfold openL
  rw [if_neg h]
  by_cases hd : l.drop (l.length - 4) = sumB (l.take (l.length - 4))
  · rw [if_pos hd, if_pos (k.1 hd)]
  · rw [if_neg hd, if_neg (fun h => hd (k.2 h))]
theorem open_is {l : List UInt8} (h : ¬ l.length < 4) : openL l = if l.drop (l.length - 4) = sumB (l.take (l.length - 4)) then (l.take (l.length - 4), 0) else ([], 25) := by
  unfold openL; rw [if_neg h]
theorem same_yes {a b : ByteArray} (h : a.data.toList = b.data.toList) : (a.toList == b.toList) = true := by
  rw [ByteArray.toList_eq, ByteArray.toList_eq, h]; exact beq_self_eq_true _
theorem same_no {a b : ByteArray} (h : ¬ a.data.toList = b.data.toList) : (a.toList == b.toList) = false := by
  rw [ByteArray.toList_eq, ByteArray.toList_eq]; exact beq_eq_false_iff_ne.2 h
theorem mk_append (l m : List UInt8) : (⟨l.toArray⟩ : ByteArray) ++ ⟨m.toArray⟩ = ⟨(l ++ m).toArray⟩ := by
  apply ByteArray.ext; simp
theorem str_append (s : ByteArray) (m : List UInt8) : s ++ (⟨m.toArray⟩ : ByteArray) = ⟨(s.data.toList ++ m).toArray⟩ := by
  apply ByteArray.ext; simp
theorem ret_so {a b : ByteArray} {x y : Int} (h : a = b) (k : x = y) : Ending.returned (.tuple #[.string a, .int .i64 x]) = .returned (.tuple #[.string b, .int .i64 y]) := by rw [h, k]
theorem take_data (s : ByteArray) (i : Nat) : (s.extract 0 i).data.toList = s.data.toList.take i := by simp
theorem drop_data (s : ByteArray) (i : Nat) : (s.extract i s.size).data.toList = s.data.toList.drop i := by
  have h : s.data.toList.length = s.size := rfl
  simp only [ByteArray.data_extract, Array.toList_extract, List.extract_eq_take_drop]
  rw [List.take_of_length_le]
  rw [List.length_drop, h]; exact Nat.le_refl _
theorem cut4 (u : Nat) : (⟨(fix 8 u).toArray⟩ : ByteArray).extract 0 4 = ⟨(fix 4 u).toArray⟩ := by
  apply ByteArray.ext
  apply Array.toList_inj.1
  rw [take_data]
  simp [fix]

set_option maxRecDepth 100000 in
set_option maxHeartbeats 400000 in
theorem seal_any (s : ByteArray) (hs : s.size ≤ 1048576) (w : World) (hL : Ld w) : Calls Tryd.prog 18 #[.string s] w fun e w' => e = .returned (.string ⟨(sealL s.data.toList).toArray⟩) ∧ Below w.heap.size w w' := by
  have HC := Lib.hid fun (w : World) hL => sum_any s (by omega) w hL
  have hz : (⟨(sumB s.data.toList).toArray⟩ : ByteArray).size ≤ 4 := by rw [size_mk, sumB_len]; omega
  have hr : Hid (s ++ (⟨(sumB s.data.toList).toArray⟩ : ByteArray) = ⟨(sealL s.data.toList).toArray⟩) := Lib.hid (str_append _ _)
  generalize (⟨(sumB s.data.toList).toArray⟩ : ByteArray) = q at *
  go_enter Tryd.func18, Tryd.ntmps18
  go_wp2_with (refine (HC.out _ hL).mono ?_; rintro _ w1 ⟨rfl, hb⟩)
  go_ret
  exact ⟨ret_str hr.out, hb⟩

set_option maxRecDepth 100000 in
set_option maxHeartbeats 400000 in
theorem rseal_any (s : ByteArray) (hs : s.size ≤ 1048576) (w : World) : Calls Tryd.prog 19 #[.string s] w fun e w' => e = .returned (.string ⟨(sealL s.data.toList).toArray⟩) ∧ Below w.heap.size w w' := by
  have HC := Lib.hid fun (w : World) => rcrc_any s (by omega) w
  have hr : Hid (s ++ (⟨(fix 8 (sum s.data.toList)).toArray⟩ : ByteArray).extract 0 4 = ⟨(sealL s.data.toList).toArray⟩) := Lib.hid (by rw [cut4]; exact str_append _ _)
  have hu := sum_lt s.data.toList
  generalize sum s.data.toList = u at *
  have HE := Lib.hid fun (w : World) => eight_any u (by omega) w
  have hz : (⟨(fix 8 u).toArray⟩ : ByteArray).size = 8 := by rw [size_mk, fix_length]
  generalize (⟨(fix 8 u).toArray⟩ : ByteArray) = q at *
  have hx : (q.extract 0 4).size = 4 := by rw [ByteArray.size_extract]; omega
  go_enter Tryd.func19, Tryd.ntmps19
  go_wp2_with (first | (refine (HC.out _).mono ?_; rintro _ w1 ⟨rfl, rfl⟩) | (refine (HE.out _).mono ?_; rintro _ w2 ⟨rfl, hb⟩))
  go_ret
  exact ⟨ret_str hr.out, hb⟩

set_option maxRecDepth 100000 in
set_option maxHeartbeats 400000 in
theorem rmix_any (a b : Nat) (ha : a ≤ 18446744073709551615) (hb : b ≤ 18446744073709551615) (w : World) : Calls Tryd.prog 15 #[.int .u64 a, .int .u64 b] w fun e w' => e = .returned (.int .u64 (mixN a b)) ∧ Below w.heap.size w w' := by
  have HA := Lib.hid fun (w : World) => eight_any a ha w
  have HB := Lib.hid fun (w : World) => eight_any b hb w
  have hr := mk_append (fix 8 a) (fix 8 b)
  have HC := Lib.hid fun (w' : World) => rfnv_any ⟨(fix 8 a ++ fix 8 b).toArray⟩ (by rw [size_mk, List.length_append, fix_length, fix_length]; decide) w'
  have hx : (⟨(fix 8 a).toArray⟩ : ByteArray).size = 8 := by rw [size_mk, fix_length]
  have hy : (⟨(fix 8 b).toArray⟩ : ByteArray).size = 8 := by rw [size_mk, fix_length]
  go_enter Tryd.func15, Tryd.ntmps15
  go_wp2_with fail
  refine (HA.out _).mono ?_
  rintro _ w1 ⟨rfl, h1⟩
  go_wp2_with fail
  refine (HB.out _).mono ?_
  rintro _ w2 ⟨rfl, h2⟩
  go_wp2_with fail
  refine (HC.out _).mono ?_
  rintro _ w3 ⟨rfl, rfl⟩
  go_wp2_with fail
  go_ret
  exact ⟨rfl, below_trans h1 h2⟩

set_option maxRecDepth 100000 in
set_option maxHeartbeats 1000000 in
theorem ropen_any (s : ByteArray) (hs : s.size ≤ 1048576) (w : World) : Calls Tryd.prog 17 #[.string s] w fun e w' => e = .returned (.tuple #[.string ⟨(openL s.data.toList).1.toArray⟩, .int .i64 (openL s.data.toList).2]) ∧ Below w.heap.size w w' := by
  have hl : s.data.toList.length = s.size := rfl
  by_cases h4 : s.size < 4
  · have hr : Hid (openL s.data.toList = ([], 4)) := Lib.hid (by unfold openL; rw [if_pos (by omega)])
    go_enter Tryd.func17, Tryd.ntmps17
    go_wp2
    go_ret2
    exact ⟨ret_so (by rw [hr.out]) (by rw [hr.out]), Below.refl _ _⟩
  · obtain ⟨t, ht⟩ : ∃ t, t = s.extract 0 (s.size - 4) := ⟨_, rfl⟩
    have htl : t.data.toList = s.data.toList.take (s.size - 4) := by rw [ht, take_data]
    have hts : t.size ≤ 1048576 := by rw [ht, ByteArray.size_extract]; omega
    have HC := Lib.hid fun (w : World) => rseal_any t hts w
    have hw : wrap64 ((s.size : Int) - 4) = ((s.size - 4 : Nat) : Int) := by unfold wrap64; omega
    have hle : s.size - 4 ≤ s.size := by omega
    have hr := open_if (l := s.data.toList) (by omega)
    rw [hl, ← htl] at hr
    have hr := Lib.hid hr
    obtain ⟨q, hq⟩ : ∃ q : ByteArray, q = ⟨(sealL t.data.toList).toArray⟩ := ⟨_, rfl⟩
    have hql : q.data.toList = sealL t.data.toList := by rw [hq]
    rw [← hq] at HC
    rw [← hql] at hr
    rw [ht] at HC
    have hte : Hid (t = s.extract 0 (s.size - 4)) := Lib.hid ht
    clear hq hql htl ht hts
    by_cases he : q.data.toList = s.data.toList
    · have hc := same_yes he
      have hr := Lib.hid (hr.out.trans (if_pos he))
      clear he
      go_enter Tryd.func17, Tryd.ntmps17
      go_wp2_with (refine (HC.out _).mono ?_; rintro _ w1 ⟨rfl, hb⟩)
      go_ret2
      exact ⟨ret_so (by rw [hr.out, hte.out]) (by rw [hr.out]), hb⟩
    · have hc := same_no he
      have hr := Lib.hid (hr.out.trans (if_neg he))
      clear he
      go_enter Tryd.func17, Tryd.ntmps17
      go_wp2_with (refine (HC.out _).mono ?_; rintro _ w1 ⟨rfl, hb⟩)
      go_ret2
      exact ⟨ret_so (by rw [hr.out]) (by rw [hr.out]), hb⟩

set_option maxRecDepth 100000 in
set_option maxHeartbeats 1000000 in
theorem open_any (s : ByteArray) (hs : s.size ≤ 1048576) (w : World) (hL : Ld w) : Calls Tryd.prog 16 #[.string s] w fun e w' => e = .returned (.tuple #[.string ⟨(openL s.data.toList).1.toArray⟩, .int .i64 (openL s.data.toList).2]) ∧ Below w.heap.size w w' := by
  have hl : s.data.toList.length = s.size := rfl
  by_cases h4 : s.size < 4
  · have hr : Hid (openL s.data.toList = ([], 4)) := Lib.hid (by unfold openL; rw [if_pos (by omega)])
    go_enter Tryd.func16, Tryd.ntmps16
    go_wp2
    go_ret2
    exact ⟨ret_so (by rw [hr.out]) (by rw [hr.out]), Below.refl _ _⟩
  · obtain ⟨t, ht⟩ : ∃ t, t = s.extract 0 (s.size - 4) := ⟨_, rfl⟩
    obtain ⟨d, hd⟩ : ∃ d, d = s.extract (s.size - 4) s.size := ⟨_, rfl⟩
    have htl : t.data.toList = s.data.toList.take (s.size - 4) := by rw [ht, take_data]
    have hdl : d.data.toList = s.data.toList.drop (s.size - 4) := by rw [hd, drop_data]
    have hts : t.size ≤ 1048576 := by rw [ht, ByteArray.size_extract]; omega
    have HC := Lib.hid fun (w : World) hL => sum_any t (by omega) w hL
    have hr := open_is (l := s.data.toList) (by omega)
    rw [hl, ← htl, ← hdl] at hr
    have hr := Lib.hid hr
    obtain ⟨q, hq⟩ : ∃ q : ByteArray, q = ⟨(sumB t.data.toList).toArray⟩ := ⟨_, rfl⟩
    have hql : q.data.toList = sumB t.data.toList := by rw [hq]
    rw [← hq] at HC
    rw [← hql] at hr
    rw [ht] at HC
    have hte : Hid (t = s.extract 0 (s.size - 4)) := Lib.hid ht
    rw [hd] at hr
    have hle : s.size - 4 ≤ s.size := by omega
    have hw2 : ((s.size : Int) - 4) = ((s.size - 4 : Nat) : Int) := by omega
    clear hq hql htl ht hd hdl hts
    by_cases he : (s.extract (s.size - 4) s.size).data.toList = q.data.toList
    · have hc := same_yes he
      have hr := Lib.hid (hr.out.trans (if_pos he))
      clear he
      have hLd := hL.drew
      go_enter Tryd.func16, Tryd.ntmps16
      go_wp2_with fail
      go_region_held3 (fun _ => True) (exact trivial) (first | (go_at_call 26; refine (HC.out _ hLd).mono ?_; rintro _ w1 ⟨rfl, hb⟩))
      all_goals
        go_wp2_with fail
        go_ret2
        exact ⟨ret_so (by rw [hr.out, hte.out]) (by rw [hr.out]), below_trans ((Below.refl _ _).drew) hb⟩
    · have hc := same_no he
      have hr := Lib.hid (hr.out.trans (if_neg he))
      clear he
      have hLd := hL.drew
      go_enter Tryd.func16, Tryd.ntmps16
      go_wp2_with fail
      go_region_held3 (fun _ => True) (exact trivial) (first | (go_at_call 26; refine (HC.out _ hLd).mono ?_; rintro _ w1 ⟨rfl, hb⟩))
      all_goals
        go_wp2_with fail
        go_ret2
        exact ⟨ret_so (by rw [hr.out]) (by rw [hr.out]), below_trans ((Below.refl _ _).drew) hb⟩
end Go.Proofs.YtkkbapgpjfehhaaDoor.DigC
