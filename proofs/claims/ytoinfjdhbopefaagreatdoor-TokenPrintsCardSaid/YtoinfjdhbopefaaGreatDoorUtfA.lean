/- Contracts of wrong, Bad, Valid and Count of package utf: what they return of any string, by the parts of its bytes. -/
import Derived.Test.YtoinfjdhbopefaaGreatDoorUtfS
set_option linter.unusedSimpArgs false
set_option linter.unusedVariables false
namespace Go.Proofs.YtoinfjdhbopefaaGreatDoor.UtfA
open Go.RowKit Nums Byt UtfM UtfD UtfS

theorem take_all (s : ByteArray) (i : Nat) : List.take (s.size - i) (List.drop i s.data.toList) = List.drop i s.data.toList := by
  rw [List.take_of_length_le]
  rw [List.length_drop]
  exact Nat.le_refl _
set_option maxHeartbeats 400000 in
set_option maxRecDepth 100000 in
theorem wrong_any (s : ByteArray) (i : Nat) (r : Int) (hr : r = ((Utf8.decode s i).1 : Int)) (hi : i < s.size) (hs : s.size ≤ 4611686018427387904) (w : World) :
    Calls Tryz.prog 60 #[.string s, .int .i64 i, .int .i32 r] w fun e w' => e = .returned (.bool (decide (sz (s.data.toList.drop i) = 0))) ∧ w = w' := by
  have hw := wrong_iff hi
  rw [← hr] at hw
  have Hw := Lib.hid hw
  clear hw hr
  have hi' : (i : Int) ≤ s.size := by omega
  by_cases h : r = 65533
  · have h1 : (r == 65533) = true := by simp [h]
    go_enter Tryz.func60, Tryz.ntmps60
    go_wp2_with (go_at_call 26; refine (hasPrefix _ _ _).mono ?_; rintro e w' ⟨rfl, rfl⟩)
    go_ret
    refine ⟨?_, rfl⟩
    rw [← Hw.out, h1, take_all]
    rfl
  · have h1 : (r == 65533) = false := by simp [h]
    go_enter Tryz.func60, Tryz.ntmps60
    go_wp2_with fail
    go_ret
    exact ⟨ret_bool (by rw [← Hw.out, h1]; rfl), rfl⟩

theorem below_iter (w : World) (s : ByteArray) (p : Nat) : Below w.heap.size w (w.iter s p) := (Below.refl _ _).alloc (Nat.le_refl _) _

end Go.Proofs.YtoinfjdhbopefaaGreatDoor.UtfA
