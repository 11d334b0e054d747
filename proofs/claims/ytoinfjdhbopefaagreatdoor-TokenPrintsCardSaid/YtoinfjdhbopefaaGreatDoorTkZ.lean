/- What the laws of stage 7 ask of package token: the contracts of Scan, Print, Same and Is, as the program has them. -/
import Derived.Test.YtoinfjdhbopefaaGreatDoorTkpD
import Derived.Test.YtoinfjdhbopefaaGreatDoorTkpE
import Derived.Test.YtoinfjdhbopefaaGreatDoorTkpF
set_option linter.unusedSimpArgs false
set_option linter.unusedVariables false
namespace Go.Proofs.YtoinfjdhbopefaaGreatDoor.TkZ
open Go.RowKit Nums TokM TokS TokU TkrD TkrF OwnT

/-- What the walks ask of the world. -/
abbrev Ld := Tld.Ld
theorem Ld.below {w w' : World} (h : Ld w) (hb : Below w.heap.size w w') : Ld w' := Tld.Ld.below h hb
theorem Ld.drew {w : World} (h : Ld w) : Ld w.drew := Tld.Ld.drew h
theorem pscan (s : ByteArray) (hs : s.size ≤ 140737488351232) (w : World) (hL : Ld w) : Calls Tryz.prog 6 #[.string s] w fun e w' => SB s w e w' := TkpD.pscan s hs w hL
theorem pprint (v : Value) (l : List Mt) (w : World) (hL : Ld w) (hk : KnT w v l) (hl : l.length ≤ 100000) (hok : ∀ m ∈ l, m.t.size ≤ 1000000 ∧ m.ok) :
    Calls Tryz.prog 12 #[v] w fun e w' => e = .returned (.string ⟨(TokU.print (l.map Mt.tok)).toArray⟩) ∧ Below w.heap.size w w' := TkpE.pprint v l w hL hk hl hok
end Go.Proofs.YtoinfjdhbopefaaGreatDoor.TkZ
