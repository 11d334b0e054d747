/- The walk of the law UtfDigits. -/
import Derived.Test.YtnplgifeheibhaaUtfX
import Derived.Test.YtnplgifeheibhaaUtfH
set_option linter.unusedSimpArgs false
set_option linter.unusedVariables false
namespace Go.Proofs.Ytnplgifeheibhaa.UtfDigitsW
open Go.RowKit Nums Byt UtfM UtfS UtfQ UtfX
open UtfH
set_option maxHeartbeats 2000000 in
set_option maxRecDepth 100000 in
theorem walk (s h : ByteArray) (z : s.size ≤ 140737488351232) (z1 : h.size ≤ 140737488351232) (w : World) :
    Calls Try.prog 9 #[.string s, .string h] w fun e w' => e = .returned (.bool true) ∧ Below w.heap.size w w' := by
  have hl := hexL_len s.data.toList
  have hsl : s.data.toList.length = s.size := rfl
  rw [hsl] at hl
  obtain ⟨x, hx⟩ : ∃ x : ByteArray, x = ⟨(hexL s.data.toList).toArray⟩ := ⟨_, rfl⟩
  have hxs : x.size ≤ 281474976710656 := by rw [hx, size_mk, hl]; omega
  have hxt : uhT x.data.toList = s.data.toList := by rw [hx]; show uhT (hexL s.data.toList) = _; unfold uhT; rw [unhex_hex]; rfl
  have hxe : uhE x.data.toList = 0 := by rw [hx]; show uhE (hexL s.data.toList) = _; unfold uhE; rw [unhex_hex]; rfl
  have hst : (s.data.toList == s.toList) = true := by rw [beq_iff_eq, ByteArray.toList_eq]
  have Hx := Lib.hid hx
  have Hxt := Lib.hid hxt
  have Hxe := Lib.hid hxe
  clear hx hxt hxe hl hsl
  cases hu : unhexL h.data.toList with
  | none =>
    have ht : uhT h.data.toList = [] := by unfold uhT; rw [hu]; rfl
    have he : uhE h.data.toList = 2 := by unfold uhE; rw [hu]; rfl
    have Ht := Lib.hid ht
    have He := Lib.hid he
    clear ht he hu
    go_enter Try.func9, Try.ntmps9
    go_wp2_with fail
    refine (hex_any s (by omega) _).mono ?_
    rintro _ w1 ⟨rfl, hb1⟩
    rw [← Hx.out]
    go_wp2_with fail
    refine (unhex_any x hxs _).mono ?_
    rintro _ w2 ⟨rfl, hb2⟩
    rw [Hxt.out, Hxe.out]
    go_wp2_with fail
    refine (unhex_any h (by omega) _).mono ?_
    rintro _ w3 ⟨rfl, hb3⟩
    rw [Ht.out, He.out]
    go_wp2_with fail
    refine (awake_any _).mono ?_
    rintro _ w4 ⟨rfl, hb4⟩
    go_wp2_with fail
    go_ret
    exact ⟨rfl, bt (bt (bt hb1 hb2) hb3) hb4⟩
  | some u =>
    have ht : uhT h.data.toList = u := by unfold uhT; rw [hu]; rfl
    have he : uhE h.data.toList = 0 := by unfold uhE; rw [hu]; rfl
    have hlen := unhex_len _ _ hu
    have hhl : h.data.toList.length = h.size := rfl
    rw [hhl] at hlen
    have hus : (⟨u.toArray⟩ : ByteArray).size ≤ 140737488355328 := by rw [size_mk]; omega
    have hback := hex_unhex _ _ hu
    have hbt : (hexL u == h.toList) = true := by rw [beq_iff_eq, ByteArray.toList_eq, hback]
    have Ht := Lib.hid ht
    have He := Lib.hid he
    clear ht he hu hlen hhl hback
    go_enter Try.func9, Try.ntmps9
    go_wp2_with fail
    refine (hex_any s (by omega) _).mono ?_
    rintro _ w1 ⟨rfl, hb1⟩
    rw [← Hx.out]
    go_wp2_with fail
    refine (unhex_any x hxs _).mono ?_
    rintro _ w2 ⟨rfl, hb2⟩
    rw [Hxt.out, Hxe.out]
    go_wp2_with fail
    refine (unhex_any h (by omega) _).mono ?_
    rintro _ w3 ⟨rfl, hb3⟩
    rw [Ht.out, He.out]
    go_wp2_with fail
    refine (hex_any _ hus _).mono ?_
    rintro _ w4 ⟨rfl, hb4⟩
    go_wp2_with fail
    refine (awake_any _).mono ?_
    rintro _ w5 ⟨rfl, hb5⟩
    go_wp2_with fail
    go_ret
    exact ⟨rfl, bt (bt (bt (bt hb1 hb2) hb3) hb4) hb5⟩

end Go.Proofs.Ytnplgifeheibhaa.UtfDigitsW
