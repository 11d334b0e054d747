/- The walk of the law UtfPrintable. -/
import Derived.Test.YtnplgifeheibhaaUtfX
import Derived.Test.YtnplgifeheibhaaUtfA
set_option linter.unusedSimpArgs false
set_option linter.unusedVariables false
namespace Go.Proofs.Ytnplgifeheibhaa.UtfPrintableW
open Go.RowKit Nums Byt UtfM UtfS UtfQ UtfX
theorem byte_fine {l : List UInt8} {q : ByteArray} (hq : q.data.toList = quote l) (i : Nat) (hi : i < q.size) : 32 ≤ q[i].toNat ∧ q[i].toNat ≠ 127 := by
  have hm : q[i] ∈ quote l := by
    rw [← hq]
    exact List.getElem_mem (l := q.data.toList) hi
  exact (quote_fine l).2 _ hm
set_option maxHeartbeats 2000000 in
set_option maxRecDepth 100000 in
theorem walk (s : ByteArray) (z : s.size ≤ 1048576) (w : World) :
    Calls Try.prog 8 #[.string s] w fun e w' => e = .returned (.bool true) ∧ Below w.heap.size w w' := by
  have hlen := body_le s.data.toList
  have hql := quote_len s.data.toList
  have hsl : s.data.toList.length = s.size := rfl
  rw [hsl] at hlen
  obtain ⟨q, hq⟩ : ∃ q : ByteArray, q = ⟨(quote s.data.toList).toArray⟩ := ⟨_, rfl⟩
  have hqd : q.data.toList = quote s.data.toList := by rw [hq]
  have hqs : q.size = (body s.data.toList).length + 2 := by rw [hq, size_mk, hql]
  have hq1 : s.size + 2 ≤ q.size := by omega
  have hq2 : q.size ≤ 35184372088000 := by omega
  have hq3 : (s.size : Int) ≤ (q.size : Int) - 2 := by omega
  have hbad : bad q.data.toList = -1 := by rw [hqd]; exact (quote_fine _).1.bad
  have Hq := Lib.hid hq
  have Hqd := Lib.hid hqd
  have Hbad := Lib.hid hbad
  clear hq hqd hqs hbad hlen hql hsl
  go_enter Try.func8, Try.ntmps8
  go_wp2_with fail
  refine (UtfP.quote_any s (by omega) _).mono ?_
  rintro _ w1 ⟨rfl, hb1⟩
  rw [← Hq.out]
  go_wp2_with fail
  go_loop [4] (fun i => ∃ k : Nat, k ≤ q.size ∧ i = .int .i64 k) (fun i => q.size - (intOf i).toNat)
  case atStart => exact ⟨0, by omega, rfl⟩
  case round =>
    obtain ⟨k, hk, rfl⟩ := hrel
    by_cases hlt : k < q.size
    · obtain ⟨f1, f2⟩ := byte_fine Hqd.out k hlt
      have d1 : decide ((q[k].toNat : Int) < 32) = false := by simp; omega
      have d2 : ((q[k].toNat : Int) == 127) = false := by rw [beq_eq_false_iff_ne]; omega
      clear f1 f2
      go_wp2_with fail
      exact ⟨⟨k + 1, by omega, by go_num⟩, by simp [intOf]; omega⟩
    · obtain rfl : k = q.size := by omega
      go_wp2_with fail
      refine (UtfA.valid_any q (by omega) _).mono ?_
      rintro _ w2 ⟨rfl, hb2⟩
      rw [Hbad.out]
      go_wp2_with fail
      refine (UtfA.bad_any q (by omega) _).mono ?_
      rintro _ w3 ⟨rfl, hb3⟩
      rw [Hbad.out]
      go_wp2_with fail
      refine (awake_any _).mono ?_
      rintro _ w4 ⟨rfl, hb4⟩
      go_wp2_with fail
      go_ret
      exact ⟨rfl, bt (bt (bt hb1 hb2) hb3) hb4⟩

end Go.Proofs.Ytnplgifeheibhaa.UtfPrintableW
