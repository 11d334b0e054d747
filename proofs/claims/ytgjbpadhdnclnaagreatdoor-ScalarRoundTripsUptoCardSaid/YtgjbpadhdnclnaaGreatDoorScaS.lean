/- The contract of Same of the reference of package scalar. -/
import Derived.Test.YtgjbpadhdnclnaaGreatDoorScaC
set_option linter.unusedSimpArgs false
set_option linter.unusedVariables false
namespace Go.Proofs.YtgjbpadhdnclnaaGreatDoor.ScaS
open Go.RowKit Nums Byt UtfM UtfS ScaM ScaV ScaA ScaB ScaC

def sameB (x y : Sc) : Bool := x.k == y.k && (x.b == y.b && (x.t == y.t && (x.n1 == y.n1 && (x.n2 == y.n2 && (x.n3 == y.n3 && x.n4 == y.n4)))))
theorem sameB_iff (x y : Sc) : sameB x y = true ↔ x = y := by
  obtain ⟨k, b, t, n1, n2, n3, n4⟩ := x
  obtain ⟨k', b', t', n1', n2', n3', n4'⟩ := y
  simp [sameB]
theorem natBeq (m n : Nat) : ((m : Int) == (n : Int)) = (m == n) := by
  cases h : (m == n) with
  | true => simp at h; simp [h]
  | false => simp at h; rw [beq_eq_false_iff_ne]; omega
theorem two_box (w : World) (o o2 : Obj) : Below w.heap.size w ((w.alloc o).alloc o2) := ((Below.refl _ _).alloc (Nat.le_refl _) _).alloc (by simp) _

set_option maxHeartbeats 2000000 in
set_option maxRecDepth 100000 in
theorem same_any (x y : SV) (w : World) : Calls Tryz.prog 12 #[vv x, vv y] w fun e w' => e = .returned (.bool (sameB (sc x) (sc y))) ∧ Below w.heap.size w w' := by
  obtain ⟨k, b, t, a1, l1, c1, a2, l2, c2, a3, l3, c3, a4, l4, c4⟩ := x
  obtain ⟨k', b', t', a1', l1', c1', a2', l2', c2', a3', l3', c3', a4', l4', c4'⟩ := y
  simp only [vv]
  cases h0 : (k == k') with
  | false =>
    have hf : sameB (sc ⟨k, b, t, a1, l1, c1, a2, l2, c2, a3, l3, c3, a4, l4, c4⟩) (sc ⟨k', b', t', a1', l1', c1', a2', l2', c2', a3', l3', c3', a4', l4', c4'⟩) = false := by simp only [sameB, sc, h0]; simp
    have Hf := Lib.hid hf
    clear hf
    go_enter Tryz.func12, Tryz.ntmps12
    go_wp2_with fail
    go_ret
    exact ⟨ret_bool Hf.out.symm, two_box _ _ _⟩
  | true =>
    cases h1 : (b == b') with
    | false =>
      have i1 : ((b : Int) == (b' : Int)) = false := by rw [natBeq, h1]
      have hf : sameB (sc ⟨k, b, t, a1, l1, c1, a2, l2, c2, a3, l3, c3, a4, l4, c4⟩) (sc ⟨k', b', t', a1', l1', c1', a2', l2', c2', a3', l3', c3', a4', l4', c4'⟩) = false := by simp only [sameB, sc, h1]; simp
      have Hf := Lib.hid hf
      clear hf
      go_enter Tryz.func12, Tryz.ntmps12
      go_wp2_with fail
      go_ret
      exact ⟨ret_bool Hf.out.symm, two_box _ _ _⟩
    | true =>
      have i1 : ((b : Int) == (b' : Int)) = true := by rw [natBeq, h1]
      cases h2 : (t.toList == t'.toList) with
      | false =>
        have ht : (t.data.toList == t'.data.toList) = false := by rw [← ByteArray.toList_eq, ← ByteArray.toList_eq, h2]
        have hf : sameB (sc ⟨k, b, t, a1, l1, c1, a2, l2, c2, a3, l3, c3, a4, l4, c4⟩) (sc ⟨k', b', t', a1', l1', c1', a2', l2', c2', a3', l3', c3', a4', l4', c4'⟩) = false := by simp only [sameB, sc, ht]; simp
        have Hf := Lib.hid hf
        clear hf ht
        go_enter Tryz.func12, Tryz.ntmps12
        go_wp2_with fail
        go_ret
        exact ⟨ret_bool Hf.out.symm, two_box _ _ _⟩
      | true =>
        cases h3 : (l1 == l1') with
        | false =>
          have i3 : ((l1 : Int) == (l1' : Int)) = false := by rw [natBeq, h3]
          have hf : sameB (sc ⟨k, b, t, a1, l1, c1, a2, l2, c2, a3, l3, c3, a4, l4, c4⟩) (sc ⟨k', b', t', a1', l1', c1', a2', l2', c2', a3', l3', c3', a4', l4', c4'⟩) = false := by simp only [sameB, sc, h3]; simp
          have Hf := Lib.hid hf
          clear hf
          go_enter Tryz.func12, Tryz.ntmps12
          go_wp2_with fail
          go_ret
          exact ⟨ret_bool Hf.out.symm, two_box _ _ _⟩
        | true =>
          have i3 : ((l1 : Int) == (l1' : Int)) = true := by rw [natBeq, h3]
          cases h4 : (l2 == l2') with
          | false =>
            have i4 : ((l2 : Int) == (l2' : Int)) = false := by rw [natBeq, h4]
            have hf : sameB (sc ⟨k, b, t, a1, l1, c1, a2, l2, c2, a3, l3, c3, a4, l4, c4⟩) (sc ⟨k', b', t', a1', l1', c1', a2', l2', c2', a3', l3', c3', a4', l4', c4'⟩) = false := by simp only [sameB, sc, h4]; simp
            have Hf := Lib.hid hf
            clear hf
            go_enter Tryz.func12, Tryz.ntmps12
            go_wp2_with fail
            go_ret
            exact ⟨ret_bool Hf.out.symm, two_box _ _ _⟩
          | true =>
            have i4 : ((l2 : Int) == (l2' : Int)) = true := by rw [natBeq, h4]
            cases h5 : (l3 == l3') with
            | false =>
              have i5 : ((l3 : Int) == (l3' : Int)) = false := by rw [natBeq, h5]
              have hf : sameB (sc ⟨k, b, t, a1, l1, c1, a2, l2, c2, a3, l3, c3, a4, l4, c4⟩) (sc ⟨k', b', t', a1', l1', c1', a2', l2', c2', a3', l3', c3', a4', l4', c4'⟩) = false := by simp only [sameB, sc, h5]; simp
              have Hf := Lib.hid hf
              clear hf
              go_enter Tryz.func12, Tryz.ntmps12
              go_wp2_with fail
              go_ret
              exact ⟨ret_bool Hf.out.symm, two_box _ _ _⟩
            | true =>
              have i5 : ((l3 : Int) == (l3' : Int)) = true := by rw [natBeq, h5]
              cases h6 : (l4 == l4') with
              | false =>
                have i6 : ((l4 : Int) == (l4' : Int)) = false := by rw [natBeq, h6]
                have hf : sameB (sc ⟨k, b, t, a1, l1, c1, a2, l2, c2, a3, l3, c3, a4, l4, c4⟩) (sc ⟨k', b', t', a1', l1', c1', a2', l2', c2', a3', l3', c3', a4', l4', c4'⟩) = false := by simp only [sameB, sc, h6]; simp
                have Hf := Lib.hid hf
                clear hf
                go_enter Tryz.func12, Tryz.ntmps12
                go_wp2_with fail
                go_ret
                exact ⟨ret_bool Hf.out.symm, two_box _ _ _⟩
              | true =>
                have i6 : ((l4 : Int) == (l4' : Int)) = true := by rw [natBeq, h6]
                have ht : (t.data.toList == t'.data.toList) = true := by rw [← ByteArray.toList_eq, ← ByteArray.toList_eq, h2]
                have hf : sameB (sc ⟨k, b, t, a1, l1, c1, a2, l2, c2, a3, l3, c3, a4, l4, c4⟩) (sc ⟨k', b', t', a1', l1', c1', a2', l2', c2', a3', l3', c3', a4', l4', c4'⟩) = true := by simp only [sameB, sc, ht, h0, h1, h3, h4, h5, h6]; rfl
                have Hf := Lib.hid hf
                clear hf ht
                go_enter Tryz.func12, Tryz.ntmps12
                go_wp2_with fail
                go_ret
                exact ⟨ret_bool Hf.out.symm, two_box _ _ _⟩
end Go.Proofs.YtgjbpadhdnclnaaGreatDoor.ScaS
