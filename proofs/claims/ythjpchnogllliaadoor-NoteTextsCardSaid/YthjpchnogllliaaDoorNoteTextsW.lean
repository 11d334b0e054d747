/- The walk of the law NoteTexts. -/
import Derived.Test.YthjpchnogllliaaDoorNtX
set_option linter.unusedSimpArgs false
set_option linter.unusedVariables false
namespace Go.Proofs.YthjpchnogllliaaDoor.NoteTextsW
open Go.RowKit Nums ScaM ScaV ScaB Val NotM NotK NtrB NtZ NtX

set_option maxHeartbeats 4000000 in
set_option maxRecDepth 100000 in
theorem walk (v : Value) (l : List Mn) (w : World) (hk : KnN w v l) (hok : l.length ≤ 9223372036854775807 ∧ ∀ m ∈ l, m.ok) (hL : Ld w) :
    Calls Tryd.prog 7 #[v] w fun e w' => e = .returned (.bool true) ∧ Below w.heap.size w w' := by
  obtain ⟨hl, ho⟩ := hok
  have Hk := Lib.hid hk
  have Ho := Lib.hid ho
  obtain ⟨a, cap, rfl, _, _⟩ := hk
  clear ho
  by_cases h40 : 40 < l.length
  · have d1 : decide ((40 : Int) < l.length) = true := decide_eq_true (by omega)
    have d2 : decide (40 < l.length) = true := decide_eq_true h40
    go_enter Tryd.func7, Tryd.ntmps7
    go_wp2_with fail
    refine (awake_any _ hL).mono ?_
    rintro _ wa ⟨rfl, hba⟩
    go_wp2_with fail
    go_ret
    exact ⟨rfl, hba⟩
  · have d1 : decide ((40 : Int) < l.length) = false := decide_eq_false (by omega)
    have d2 : decide (40 < l.length) = false := decide_eq_false h40
    go_enter Tryd.func7, Tryd.ntmps7
    go_wp2_with fail
    refine (ptext _ l _ hL Hk.out (by omega) Ho.out).mono ?_
    rintro _ w1 ⟨rfl, hb1⟩
    have H1 := Lib.hid hb1
    clear hb1
    go_wp2_with fail
    refine (NtrE.text_any _ l _ (Hk.out.below H1.out) (by omega) (fun m hm => (Ho.out m hm).2.b)).mono ?_
    rintro _ w2 ⟨rfl, hb2⟩
    have H2 := Lib.hid (NtX.bt H1.out hb2)
    clear hb2
    generalize (⟨(noteText (l.map Mn.nt)).toArray⟩ : ByteArray) = S
    have hSS : (S.toList == S.toList) = true := beq_self_eq_true _
    go_wp2_with fail
    refine (awake_any _ (hL.below H2.out)).mono ?_
    rintro _ wa ⟨rfl, hba⟩
    go_wp2_with fail
    go_ret
    exact ⟨rfl, NtX.bt H2.out hba⟩
end Go.Proofs.YthjpchnogllliaaDoor.NoteTextsW
