/- The walk of the law TokenRoundTrips. -/
import Derived.Test.YtoinfjdhbopefaaDoorTkL
set_option linter.unusedSimpArgs false
set_option linter.unusedVariables false
namespace Go.Proofs.YtoinfjdhbopefaaDoor.TokenRoundTripsW
open Go.RowKit Nums IdnM TokM TokS TokT TokU TkrD TkrE TkrF OwnT TkZ TkX TkL

set_option maxHeartbeats 2000000 in
set_option maxRecDepth 100000 in
theorem walk (v : Value) (l : List Mt) (w : World) (hk : KnT w v l) (hok : l.length ≤ 9223372036854775807 ∧ ∀ m ∈ l, m.rng) (hL : Ld w) :
    Calls Tryd.prog 4 #[v] w fun e w' => e = .returned (.bool true) ∧ Below w.heap.size w w' := by
  have Hok := Lib.hid hok.2
  have Hk := Lib.hid hk
  obtain ⟨a, cap, rfl, hcap, hcells⟩ := hk
  clear hcells hok
  go_enter Tryd.func4, Tryd.ntmps4
  go_wp2_with fail
  refine (few_any _ l _ Hk.out).mono ?_
  rintro _ wz ⟨⟨b, rfl, hb⟩, rfl⟩
  cases b with
  | false =>
    clear hb
    go_wp2_with fail
    go_ret
    exact ⟨rfl, Below.refl _ _⟩
  | true =>
    obtain ⟨hl, hs⟩ := hb rfl
    have Hs := Lib.hid hs
    clear hb hs
    obtain ⟨S, hS⟩ : ∃ S : ByteArray, S = ⟨(TokU.print (l.map Mt.tok)).toArray⟩ := ⟨_, rfl⟩
    have HS := Lib.hid hS
    clear hS
    go_wp2_with fail
    refine (pprint _ l _ hL Hk.out (by omega) (fun m hm => ⟨by have := Hs.out m hm; omega, by have := Hs.out m hm; omega, (Hok.out m hm).2⟩)).mono ?_
    rintro _ w1 ⟨rfl, hb1⟩
    rw [← HS.out]
    have hL1 := hL.below hb1
    by_cases h0 : S.size = 0
    · have he : S.toList.isEmpty = true := Nums.empty_yes h0
      clear h0
      go_wp2_with fail
      refine (awake_any _ hL1).mono ?_
      rintro _ wa ⟨rfl, hba⟩
      go_wp2_with fail
      go_ret
      exact ⟨rfl, bt hb1 hba⟩
    · have he : S.toList.isEmpty = false := Nums.empty_no (by omega)
      have hSd : S.data.toList = TokU.print (l.map Mt.tok) := by rw [HS.out]
      have hne : TokU.print (l.map Mt.tok) ≠ [] := by
        intro h
        rw [h] at hSd
        have : S.data.toList.length = S.size := rfl
        rw [hSd] at this
        exact h0 this.symm
      obtain ⟨hpr, hpl, hpw⟩ := print_ne hne
      have hSs : S.size ≤ 16384 := by
        have : S.data.toList.length = S.size := rfl
        rw [hSd, hpr] at this
        omega
      obtain ⟨P, hx, hP⟩ := scan_pr (l.map Mt.tok) 1 (fun k hk => ⟨hpw k hk, by
        obtain ⟨m, hm, rfl⟩ := List.mem_map.1 hk
        exact (Hok.out m hm).2.2.1⟩)
      have hx2 : scanT 1 S.data.toList = .ok P := by rw [hSd, hpr]; exact hx
      have Hx2 := Lib.hid hx2
      have HP := Lib.hid hP
      clear h0 hSd hne hpr hpl hpw hx hP hx2
      go_wp2_with fail
      refine (pscan S (by omega) _ hL1).mono ?_
      rintro _ w2 ⟨v2, l2, e2, rfl, hs2, hb2⟩
      have hL2 := hL1.below hb2
      rcases sr_parts hs2 (by omega) with ⟨er, hx, _⟩ | ⟨P3, hx, rfl, rfl, hk3, hok3⟩
      · rw [Hx2.out] at hx; cases hx
      · rw [Hx2.out] at hx
        cases hx
        have Hk3 := Lib.hid hk3
        have hPl : P.length ≤ 300 := by
          have := congrArg List.length HP.out
          rw [List.length_map, List.length_map] at this
          omega
        have Hmk := Lib.hid (show ∀ m ∈ P.map mk, m.t.size ≤ 1000000 ∧ m.ok by
          intro m hm
          obtain ⟨p, hp, rfl⟩ := List.mem_map.1 hm
          refine ⟨?_, hok3 p hp⟩
          have := scan_text 1 _ P Hx2.out p.1 (List.mem_map.2 ⟨p, hp, rfl⟩)
          have h2 : (mk p).t.size = p.1.text.length := by show p.1.text.toArray.size = _; simp
          have h3 : S.data.toList.length = S.size := rfl
          omega)
        have Hkl := Lib.hid ((Hk.out.below hb1).below hb2)
        clear hs2 hk3 hok3
        go_wp2_with fail
        refine (psame _ v2 l (P.map mk) _ hL2 Hkl.out Hk3.out (by omega) (by rw [List.length_map]; omega)).mono ?_
        rintro _ w3 ⟨rfl, hb3⟩
        rw [show same l (P.map mk) = true by rw [same, decide_eq_true_eq, map_mk, HP.out]]
        have hL3 := hL2.below hb3
        go_wp2_with fail
        refine (pprint v2 (P.map mk) _ hL3 (Hk3.out.below hb3) (by rw [List.length_map]; omega) Hmk.out).mono ?_
        rintro _ w4 ⟨rfl, hb4⟩
        rw [map_mk, HP.out, ← HS.out]
        have hL4 := hL3.below hb4
        go_wp2_with fail
        refine (awake_any _ hL4).mono ?_
        rintro _ wa ⟨rfl, hba⟩
        go_wp2_with fail
        go_ret
        exact ⟨rfl, bt (bt (bt (bt hb1 hb2) hb3) hb4) hba⟩

end Go.Proofs.YtoinfjdhbopefaaDoor.TokenRoundTripsW
