/- Contracts of wrong, Bad, Valid and Count of package utf: what they return of any string, by the parts of its bytes. -/
import Derived.Test.YthjpchnogllliaaGreatDoorUtfS
set_option linter.unusedSimpArgs false
set_option linter.unusedVariables false
namespace Go.Proofs.YthjpchnogllliaaGreatDoor.UtfA
open Go.RowKit Nums Byt UtfM UtfD UtfS

theorem take_all (s : ByteArray) (i : Nat) : List.take (s.size - i) (List.drop i s.data.toList) = List.drop i s.data.toList := by
  rw [List.take_of_length_le]
  rw [List.length_drop]
  exact Nat.le_refl _
set_option maxHeartbeats 400000 in
set_option maxRecDepth 100000 in
theorem wrong_any (s : ByteArray) (i : Nat) (r : Int) (hr : r = ((Utf8.decode s i).1 : Int)) (hi : i < s.size) (hs : s.size ≤ 4611686018427387904) (w : World) :
    Calls Tryz.prog 75 #[.string s, .int .i64 i, .int .i32 r] w fun e w' => e = .returned (.bool (decide (sz (s.data.toList.drop i) = 0))) ∧ w = w' := by
  have hw := wrong_iff hi
  rw [← hr] at hw
  have Hw := Lib.hid hw
  clear hw hr
  have hi' : (i : Int) ≤ s.size := by omega
  by_cases h : r = 65533
  · have h1 : (r == 65533) = true := by simp [h]
    go_enter Tryz.func75, Tryz.ntmps75
    go_wp2_with (go_at_call 51; refine (hasPrefix _ _ _).mono ?_; rintro e w' ⟨rfl, rfl⟩)
    go_ret
    refine ⟨?_, rfl⟩
    rw [← Hw.out, h1, take_all]
    rfl
  · have h1 : (r == 65533) = false := by simp [h]
    go_enter Tryz.func75, Tryz.ntmps75
    go_wp2_with fail
    go_ret
    exact ⟨ret_bool (by rw [← Hw.out, h1]; rfl), rfl⟩

theorem below_iter (w : World) (s : ByteArray) (p : Nat) : Below w.heap.size w (w.iter s p) := (Below.refl _ _).alloc (Nat.le_refl _) _

set_option maxHeartbeats 1000000 in
set_option maxRecDepth 100000 in
theorem bad_any (s : ByteArray) (hs : s.size ≤ 4611686018427387904) (w : World) :
    Calls Tryz.prog 70 #[.string s] w fun e w' => e = .returned (.int .i64 (bad s.data.toList)) ∧ Below w.heap.size w w' := by
  obtain ⟨l, hl⟩ : ∃ l, l = s.data.toList := ⟨_, rfl⟩
  rw [← hl]
  have Hl := Lib.hid hl
  have hsz : l.length = s.size := by rw [hl]; rfl
  have Hsz := Lib.hid hsz
  clear hl hsz
  go_enter Tryz.func70, Tryz.ntmps70
  go_wp2_with fail
  go_loopw [3] (fun _ wr => ∃ pos : Nat, pos ≤ s.size ∧ wr = w.iter s pos ∧ Hid (badP pos (parts (l.drop pos)) = bad l)) (fun _ wr => s.size - wr.iterPos w.heap.size)
  case atStart => exact ⟨0, by omega, rfl, Lib.hid rfl⟩
  case round =>
    obtain ⟨pos, hpos, rfl, Hb⟩ := hrel
    by_cases hp : pos < s.size
    · have hnx : ∀ ty, (Instr.next (.pointer (some ⟨w.heap.size, 0, none⟩)) true ty).run Tryz.prog (w.iter s pos) = _ := fun ty => run_next_any w s pos ty hp
      have hst := decode_step hp
      rw [← Hl.out] at hst
      have hlt : pos < l.length := by rw [Hsz.out]; exact hp
      have Hst := Lib.hid hst
      have Hlt := Lib.hid hlt
      have Hle := Lib.hid (step_le (drop_ne hlt))
      have Hpo := Lib.hid (step_pos (l.drop pos))
      clear hst hlt
      by_cases hz : sz (l.drop pos) = 0
      · have Hz := Lib.hid hz
        clear hz
        go_wp2_with fail
        refine (wrong_any s pos _ rfl hp hs _).mono ?_
        rintro _ w1 ⟨rfl, rfl⟩
        rw [← Hl.out, Hz.out]
        go_wp2_with fail
        go_ret
        exact ⟨ret_int (by rw [← Hb.out, badP_wrong Hlt.out Hz.out]), below_iter _ _ _⟩
      · have Hz := Lib.hid hz
        have hd : decide (sz (l.drop pos) = 0) = false := by simp [hz]
        have Hd := Lib.hid hd
        clear hz hd
        go_wp2_with fail
        refine (wrong_any s pos _ rfl hp hs _).mono ?_
        rintro _ w1 ⟨rfl, rfl⟩
        rw [← Hl.out, Hd.out]
        go_wp2_with fail
        have e1 : stp (l.drop pos) = sz (l.drop pos) := by unfold stp; rw [if_neg Hz.out]
        have e2 : (Utf8.decode s pos).2 = sz (l.drop pos) := by rw [Hst.out, e1]
        have e3 := Hle.out
        rw [List.length_drop, Hsz.out, e1] at e3
        have e4 := Hpo.out
        rw [e1] at e4
        refine ⟨⟨pos + (Utf8.decode s pos).2, by omega, rfl, Lib.hid ?_⟩, by simp; omega⟩
        rw [e2, ← badP_next Hlt.out Hz.out, Hb.out]
    · have hnx : ∀ ty, (Instr.next (.pointer (some ⟨w.heap.size, 0, none⟩)) true ty).run Tryz.prog (w.iter s pos) = _ := fun ty => run_next_end w s pos ty hp
      go_wp2_with fail
      go_ret
      exact ⟨ret_int (by rw [← Hb.out, badP_end (by rw [Hsz.out]; omega)]), below_iter _ _ _⟩

set_option maxHeartbeats 400000 in
set_option maxRecDepth 100000 in
theorem valid_any (s : ByteArray) (hs : s.size ≤ 4611686018427387904) (w : World) :
    Calls Tryz.prog 36 #[.string s] w fun e w' => e = .returned (.bool (decide (bad s.data.toList < 0))) ∧ Below w.heap.size w w' := by
  go_enter Tryz.func36, Tryz.ntmps36
  go_wp2_with fail
  refine (bad_any s hs _).mono ?_
  rintro _ w1 ⟨rfl, hb⟩
  go_wp2_with fail
  go_ret
  exact ⟨rfl, hb⟩

end Go.Proofs.YthjpchnogllliaaGreatDoor.UtfA
