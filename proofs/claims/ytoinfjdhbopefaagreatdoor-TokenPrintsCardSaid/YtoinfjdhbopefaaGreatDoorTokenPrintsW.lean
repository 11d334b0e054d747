/- The walk of the law TokenPrints. -/
import Derived.Test.YtoinfjdhbopefaaGreatDoorTkL
set_option linter.unusedSimpArgs false
set_option linter.unusedVariables false
namespace Go.Proofs.YtoinfjdhbopefaaGreatDoor.TokenPrintsW
open Go.RowKit Nums IdnM TokM TokS TokT TokU TkrD TkrE TkrF OwnT TkZ TkX TkL

set_option maxHeartbeats 2000000 in
set_option maxRecDepth 100000 in
theorem walk (v : Value) (l : List Mt) (w : World) (hk : KnT w v l) (hok : l.length ≤ 9223372036854775807 ∧ ∀ m ∈ l, m.rng) (hL : Ld w) :
    Calls Tryz.prog 4 #[v] w fun e w' => e = .returned (.bool true) ∧ Below w.heap.size w w' := by
  have Hok := Lib.hid hok.2
  have Hk := Lib.hid hk
  obtain ⟨a, cap, rfl, hcap, hcells⟩ := hk
  clear hcells hok
  go_enter Tryz.func4, Tryz.ntmps4
  go_wp2_with fail
  refine (few_any _ l _ Hk.out).mono ?_
  rintro _ wz ⟨⟨b, rfl, hb⟩, rfl⟩
  cases b with
  | false =>
    clear hb
    go_wp2_with fail
    go_ret
    exact ⟨rfl, Below.refl _ _⟩
  | true =>
    obtain ⟨hl, hs⟩ := hb rfl
    have Hs := Lib.hid hs
    clear hb hs
    obtain ⟨S, hS⟩ : ∃ S : ByteArray, S = ⟨(TokU.print (l.map Mt.tok)).toArray⟩ := ⟨_, rfl⟩
    have HS := Lib.hid hS
    clear hS
    go_wp2_with fail
    refine (pprint _ l _ hL Hk.out (by omega) (fun m hm => ⟨by have := Hs.out m hm; omega, by have := Hs.out m hm; omega, (Hok.out m hm).2⟩)).mono ?_
    rintro _ w1 ⟨rfl, hb1⟩
    rw [← HS.out]
    have hL1 := hL.below hb1
    go_wp2_with fail
    refine (TkrG.print_any _ l _ (Hk.out.below hb1) (by omega) (fun m hm => ⟨by have := Hs.out m hm; omega, (Hok.out m hm).2.2.1⟩)).mono ?_
    rintro _ w2 ⟨rfl, hb2⟩
    rw [← HS.out]
    have hL2 := hL1.below hb2
    go_wp2_with fail
    refine (awake_any _ hL2).mono ?_
    rintro _ wa ⟨rfl, hba⟩
    go_wp2_with fail
    go_ret
    exact ⟨rfl, bt (bt hb1 hb2) hba⟩

end Go.Proofs.YtoinfjdhbopefaaGreatDoor.TokenPrintsW
