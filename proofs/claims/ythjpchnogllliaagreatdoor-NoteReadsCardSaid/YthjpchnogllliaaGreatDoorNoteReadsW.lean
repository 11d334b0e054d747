/- The walk of the law NoteReads. -/
import Derived.Test.YthjpchnogllliaaGreatDoorNtX
import Derived.Test.YthjpchnogllliaaGreatDoorNtpG
set_option linter.unusedSimpArgs false
set_option linter.unusedVariables false
namespace Go.Proofs.YthjpchnogllliaaGreatDoor.NoteReadsW
open Go.RowKit Nums ScaM ScaV ScaB Val NotM NotR NotK NtrB NtrI TkrF NtZ NtX NtpG

theorem rd_len : ∀ (n : Nat) (p : Nat) (ts : List TokM.Tok) (Q : List Pair) (q : Nat), ts.length ≤ n → rd p ts = .ok (Q, q) → Q.length ≤ ts.length + 1 := by
  intro n
  induction n with
  | zero =>
    intro p ts Q q hn h
    have : ts = [] := List.length_eq_zero_iff.1 (by omega)
    subst this
    rw [rd_err (q := (0, 2)) rfl] at h
    cases h
  | succ n ih =>
    intro p ts Q q hn h
    cases ho : one1 ts with
    | error e => rw [rd_err ho] at h; cases h
    | ok o =>
      cases hd : ts.drop o.2 with
      | nil => rw [rd_end ho hd] at h; cases h
      | cons y r =>
        have hlen := congrArg List.length hd
        simp only [List.length_drop, List.length_cons] at hlen
        cases h93 : isSg y 93 with
        | true =>
          rw [rd_close ho hd h93] at h
          cases h
          simp
        | false =>
          cases h44 : isSg y 44 with
          | false => rw [rd_other ho hd h93 h44] at h; cases h
          | true =>
            rw [rd_more ho hd h93 h44] at h
            cases hr : rd (p + o.2 + 1) r with
            | error e => rw [hr] at h; cases h
            | ok x =>
              rw [hr] at h
              obtain ⟨Q2, q2⟩ := x
              have := ih _ r Q2 q2 (by omega) hr
              cases h
              simp only [List.length_cons]
              omega
theorem QB (l : List Mt) (z : Int) {Q : List Pair} {n e : Int} (h : readN (l.map Mt.tok) z = (Q, n, e)) (h5 : ¬ 500 < l.length) : (Q.map mkN).length ≤ 9223372036854775807 := by
  rw [List.length_map]
  unfold readN at h
  split at h
  · split at h
    · cases h; simp
    · rename_i q hq
      have := rd_len _ _ _ q.1 q.2 (Nat.le_refl _) hq
      rw [List.length_drop, List.length_map] at this
      cases h
      omega
  · cases h; simp

theorem same_refl (l : List Mn) : sameN l l = true := by simp [sameN]
set_option maxHeartbeats 4000000 in
set_option maxRecDepth 100000 in
theorem walk (v : Value) (l : List Mt) (z : Int) (yz : -9223372036854775808 ≤ z ∧ z ≤ 9223372036854775807) (w : World) (hk : KnT w v l) (hok : l.length ≤ 9223372036854775807 ∧ ∀ m ∈ l, m.ok) (hL : Ld w) :
    Calls Tryz.prog 3 #[v, .int .i64 z] w fun e w' => e = .returned (.bool true) ∧ Below w.heap.size w w' := by
  obtain ⟨hl, ho⟩ := hok
  have Hk := Lib.hid hk
  have Ho := Lib.hid ho
  obtain ⟨a, cap, rfl, _, _⟩ := hk
  clear ho
  by_cases h500 : 500 < l.length
  · have d1 : decide ((500 : Int) < l.length) = true := decide_eq_true (by omega)
    have d2 : decide (500 < l.length) = true := decide_eq_true h500
    go_enter Tryz.func3, Tryz.ntmps3
    go_wp2_with fail
    refine (awake_any _ hL).mono ?_
    rintro _ wa ⟨rfl, hba⟩
    go_wp2_with fail
    go_ret
    exact ⟨rfl, hba⟩
  · have d1 : decide ((500 : Int) < l.length) = false := decide_eq_false (by omega)
    have d2 : decide (500 < l.length) = false := decide_eq_false h500
    go_enter Tryz.func3, Tryz.ntmps3
    go_wp2_with fail
    refine (pread _ l z _ hL Hk.out (by omega) yz Ho.out).mono ?_
    rintro _ w1 ⟨v1, n1, e1, Q1, rfl, k1, r1, hb1⟩
    have H1 := Lib.hid hb1
    have K1 := Lib.hid k1
    have R1 := Lib.hid r1
    clear hb1 k1 r1
    go_wp2_with fail
    refine (read_any _ l z _ (Hk.out.below H1.out) (by omega) yz Ho.out).mono ?_
    rintro _ w2 ⟨v2, n2, e2, Q2, rfl, k2, r2, hb2⟩
    have hq : (Q1, n1, e1) = (Q2, n2, e2) := R1.out.symm.trans r2
    injection hq with q1 q2
    injection q2 with q2 q3
    subst q1 q2 q3
    have hQl : (Q1.map mkN).length ≤ 9223372036854775807 := by
      obtain ⟨_, cp, _, h1, _⟩ := k2
      exact Nat.le_trans (by omega : (Q1.map mkN).length ≤ (Q1.map mkN).length) (QB l z R1.out h500)
    have K2 := Lib.hid k2
    have H2 := Lib.hid (NtX.bt H1.out hb2)
    have K1' := Lib.hid (K1.out.below hb2)
    clear hb2 k2 r2
    go_wp2_with fail
    refine (same_any v1 v2 _ _ _ K1'.out K2.out hQl hQl).mono ?_
    rintro _ w3 ⟨rfl, hb3⟩
    rw [same_refl]
    have H3 := Lib.hid (NtX.bt H2.out hb3)
    clear hb3
    go_wp2_with fail
    refine (awake_any _ (hL.below H3.out)).mono ?_
    rintro _ wa ⟨rfl, hba⟩
    go_wp2_with fail
    go_ret
    exact ⟨rfl, NtX.bt H3.out hba⟩
end Go.Proofs.YthjpchnogllliaaGreatDoor.NoteReadsW
