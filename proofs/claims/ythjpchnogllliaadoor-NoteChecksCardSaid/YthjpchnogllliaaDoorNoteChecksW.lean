/- The walk of the law NoteChecks. -/
import Derived.Test.YthjpchnogllliaaDoorNtX
import Derived.Test.YthjpchnogllliaaDoorNtrC
set_option linter.unusedSimpArgs false
set_option linter.unusedVariables false
namespace Go.Proofs.YthjpchnogllliaaDoor.NoteChecksW
open Go.RowKit Nums ScaM ScaV ScaB Val NotM NotK NtrB NtZ NtX

set_option maxHeartbeats 4000000 in
set_option maxRecDepth 100000 in
theorem walk (v : Value) (l : List Mn) (tg : Int) (s : ByteArray) (ytg : -9223372036854775808 ≤ tg ∧ tg ≤ 9223372036854775807) (z : s.size ≤ 140737488351232) (w : World) (hk : KnN w v l) (hok : l.length ≤ 9223372036854775807 ∧ ∀ m ∈ l, m.ok) (hL : Ld w) :
    Calls Tryd.prog 3 #[v, .int .i64 tg, .string s] w fun e w' => e = .returned (.bool true) ∧ Below w.heap.size w w' := by
  obtain ⟨hl, ho⟩ := hok
  have Hk := Lib.hid hk
  have Ho := Lib.hid ho
  clear hk ho
  go_enter Tryd.func3, Tryd.ntmps3
  go_wp2_with fail
  refine (pkind s z _ hL).mono ?_
  rintro _ w1 ⟨rfl, hb1⟩
  have H1 := Lib.hid hb1
  clear hb1
  go_wp2_with fail
  refine (NtrA.kind_any s _).mono ?_
  rintro _ wz ⟨rfl, rfl⟩
  generalize kindN s.data.toList = K
  go_wp2_with fail
  refine (pcheck v l tg _ (hL.below H1.out) (Hk.out.below H1.out) hl Ho.out).mono ?_
  rintro _ w2 ⟨rfl, hb2⟩
  have H2 := Lib.hid (NtX.bt H1.out hb2)
  clear hb2
  go_wp2_with fail
  refine (NtrC.check_any v l tg _ (Hk.out.below H2.out) hl (fun m hm => (Ho.out m hm).2.b)).mono ?_
  rintro _ w3 ⟨rfl, hb3⟩
  have H3 := Lib.hid (NtX.bt H2.out hb3)
  clear hb3
  generalize checkN (l.map Mn.nt) tg = C
  go_wp2_with fail
  refine (awake_any _ (hL.below H3.out)).mono ?_
  rintro _ wa ⟨rfl, hba⟩
  go_wp2_with fail
  go_ret
  exact ⟨rfl, NtX.bt H3.out hba⟩
end Go.Proofs.YthjpchnogllliaaDoor.NoteChecksW
