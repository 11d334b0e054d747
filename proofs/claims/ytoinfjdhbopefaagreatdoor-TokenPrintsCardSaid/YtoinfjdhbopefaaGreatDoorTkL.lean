/- short and few of the laws of stage 7. -/
import Derived.Test.YtoinfjdhbopefaaGreatDoorTkX
set_option linter.unusedSimpArgs false
set_option linter.unusedVariables false
namespace Go.Proofs.YtoinfjdhbopefaaGreatDoor.TkL
open Go.RowKit Nums IdnM TokM TokS TokT TokU TkrD TkrE TkrF OwnT TkZ TkX

def shortB (n : Nat) : Bool := decide (n ≤ 3000) || decide (16384 < n)
set_option maxHeartbeats 2000000 in
set_option maxRecDepth 100000 in
theorem short_any (s : ByteArray) (w : World) :
    Calls Tryz.prog 5 #[.string s] w fun e w' => e = .returned (.bool (shortB s.size)) ∧ w = w' := by
  by_cases h : s.size ≤ 3000
  · have d1 : decide ((s.size : Int) ≤ 3000) = true := decide_eq_true (by omega)
    have hb := Lib.hid (show shortB s.size = true by unfold shortB; rw [decide_eq_true h]; rfl)
    clear h
    go_enter Tryz.func5, Tryz.ntmps5
    go_wp2_with fail
    go_ret
    exact ⟨by rw [hb.out]; rfl, rfl⟩
  · have d1 : decide ((s.size : Int) ≤ 3000) = false := decide_eq_false (by omega)
    have d2 : decide ((16384 : Int) < s.size) = decide (16384 < s.size) := by rw [Bool.eq_iff_iff, decide_eq_true_eq, decide_eq_true_eq]; omega
    have hb := Lib.hid (show shortB s.size = decide (16384 < s.size) by unfold shortB; rw [decide_eq_false h]; rfl)
    clear h
    go_enter Tryz.func5, Tryz.ntmps5
    go_wp2_with fail
    go_ret
    exact ⟨by rw [hb.out, ← d2]; rfl, rfl⟩

/-- What few answers: true only for few tokens. -/
def FewE (l : List Mt) (e : Ending) : Prop := ∃ b, e = .returned (.bool b) ∧ (b = true → l.length ≤ 300 ∧ ∀ m ∈ l, m.t.size ≤ 20000)
set_option maxHeartbeats 2000000 in
set_option maxRecDepth 100000 in
theorem few_any (v : Value) (l : List Mt) (w : World) (hk : KnT w v l) :
    Calls Tryz.prog 11 #[v] w fun e w' => FewE l e ∧ w = w' := by
  obtain ⟨a, cap, rfl, hcap, hcells⟩ := hk
  have H1 := Lib.hid hcells
  clear hcells
  go_enter Tryz.func11, Tryz.ntmps11
  go_wp2_with fail
  go_loopw [3, 4] (fun nv iv wr => ∃ k N : Nat, k ≤ l.length ∧ k ≤ 301 ∧ nv = .int .i64 N ∧ iv = .int .i64 k ∧ N ≤ k * 9999 ∧ w = wr ∧ Hid (∀ (j : Nat) m, l[j]? = some m → j < k → min m.t.size 9999 ≤ N)) (fun _ iv _ => 301 - (intOf iv).toNat)
  case atStart => exact ⟨0, 0, by omega, by omega, rfl, rfl, by omega, rfl, Lib.hid (fun j m _ hj => by omega)⟩
  case round =>
    obtain ⟨k, N, hk1, hk2, rfl, rfl, hN, rfl, HI⟩ := hrel
    by_cases hlt : k < l.length
    · by_cases h3 : k ≤ 300
      · obtain ⟨x, hx⟩ : ∃ x, l[k]? = some x := ⟨_, List.getElem?_eq_getElem hlt⟩
        obtain ⟨kb, ko, rfl, hb, c0, c1, c2, c3⟩ := H1.out k x hx
        have Hnext := Lib.hid (show ∀ (j : Nat) m, l[j]? = some m → j < k + 1 → min m.t.size 9999 ≤ N + min x.t.size 9999 by
          intro j m hm hj
          rcases Nat.lt_or_ge j k with h5 | h5
          · exact Nat.le_trans (HI.out j m hm h5) (Nat.le_add_right _ _)
          · obtain rfl : j = k := by omega
            rw [hx] at hm
            cases hm
            exact Nat.le_add_left _ _)
        clear HI hx
        obtain ⟨kd, t, nu, ln⟩ := x
        simp only at c0 c1 c2 c3
        have hmin : min (t.size : Int) 9999 = ((min t.size 9999 : Nat) : Int) := by omega
        obtain ⟨M, hM⟩ : ∃ M, M = min t.size 9999 := ⟨_, rfl⟩
        have hM2 : M ≤ 9999 := by omega
        rw [← hM] at hmin
        have Hnext2 := Lib.hid (show ∀ (j : Nat) m, l[j]? = some m → j < k + 1 → min m.t.size 9999 ≤ N + M by rw [hM]; exact Hnext.out)
        clear Hnext
        have HM := Lib.hid hM
        clear hM
        go_wp2_with fail
        exact ⟨⟨k + 1, N + M, by omega, by omega, by first | rfl | go_num, by go_num, by omega, by trivial, Hnext2⟩, by simp [intOf]; omega⟩
      · have d1 : decide ((l.length : Int) ≤ 300) = false := decide_eq_false (by omega)
        have d2 : ((l.length : Int) == 1) = false := by rw [beq_eq_false_iff_ne]; omega
        go_wp2_with fail
        go_ret
        exact ⟨⟨_, rfl, fun h => by cases h⟩, rfl⟩
    · obtain rfl : k = l.length := by omega
      by_cases h3 : l.length ≤ 300
      · have d1 : decide ((l.length : Int) ≤ 300) = true := decide_eq_true (by omega)
        by_cases h6 : N ≤ 6000
        · have d2 : decide ((N : Int) ≤ 6000) = true := decide_eq_true (by omega)
          have Hyes := Lib.hid (show ∀ m ∈ l, m.t.size ≤ 20000 by
            intro m hm
            obtain ⟨j, hj⟩ := List.getElem?_of_mem hm
            have := HI.out j m hj (List.getElem?_eq_some_iff.1 hj).1
            omega)
          go_wp2_with fail
          go_ret
          exact ⟨⟨_, rfl, fun _ => ⟨h3, Hyes.out⟩⟩, rfl⟩
        · have d2 : decide ((N : Int) ≤ 6000) = false := decide_eq_false (by omega)
          by_cases hl1 : l.length = 1
          · have d3 : ((l.length : Int) == 1) = true := by rw [beq_iff_eq]; omega
            obtain ⟨x, hx⟩ : ∃ x, l[0]? = some x := ⟨_, List.getElem?_eq_getElem (by omega)⟩
            obtain ⟨kb, ko, rfl, hb, c0, c1, c2, c3⟩ := H1.out 0 x hx
            rw [show ko + 0 * 4 + 1 = ko + 1 by omega] at c1
            have Hyes := Lib.hid (show x.t.size ≤ 20000 → ∀ m ∈ l, m.t.size ≤ 20000 by
              intro h m hm
              obtain ⟨j, hj⟩ := List.getElem?_of_mem hm
              have := (List.getElem?_eq_some_iff.1 hj).1
              obtain rfl : j = 0 := by omega
              rw [hx] at hj
              cases hj
              exact h)
            clear hx HI
            obtain ⟨kd, t, nu, ln⟩ := x
            simp only at c1
            have Hs := Lib.hid (show ∀ (b : Bool), decide ((t.size : Int) ≤ 20000) = b → b = true → l.length ≤ 300 ∧ ∀ m ∈ l, m.t.size ≤ 20000 by
              intro b hb h
              rw [h, decide_eq_true_eq] at hb
              exact ⟨h3, Hyes.out (by simp only; omega)⟩)
            cases d4 : decide ((t.size : Int) ≤ 20000)
            · have Hs2 := Lib.hid (Hs.out _ d4)
              clear Hs
              go_wp2_with fail
              go_ret
              exact ⟨⟨_, rfl, fun h => by cases h⟩, rfl⟩
            · have Hs2 := Lib.hid (Hs.out _ d4 rfl)
              clear Hs
              go_wp2_with fail
              go_ret
              exact ⟨⟨_, rfl, fun _ => Hs2.out⟩, rfl⟩
          · have d3 : ((l.length : Int) == 1) = false := by rw [beq_eq_false_iff_ne]; omega
            go_wp2_with fail
            go_ret
            exact ⟨⟨_, rfl, fun h => by cases h⟩, rfl⟩
      · have d1 : decide ((l.length : Int) ≤ 300) = false := decide_eq_false (by omega)
        have d2 : ((l.length : Int) == 1) = false := by rw [beq_eq_false_iff_ne]; omega
        go_wp2_with fail
        go_ret
        exact ⟨⟨_, rfl, fun h => by cases h⟩, rfl⟩

end Go.Proofs.YtoinfjdhbopefaaGreatDoor.TkL
