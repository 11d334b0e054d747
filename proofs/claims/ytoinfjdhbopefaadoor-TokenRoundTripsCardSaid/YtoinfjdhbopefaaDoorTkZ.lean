/- What the laws of stage 7 ask of package token: the contracts of Scan, Print, Same and Is, as the program has them. -/
import Derived.Test.YtoinfjdhbopefaaDoorTkpD
import Derived.Test.YtoinfjdhbopefaaDoorTkpE
import Derived.Test.YtoinfjdhbopefaaDoorTkpF
set_option linter.unusedSimpArgs false
set_option linter.unusedVariables false
namespace Go.Proofs.YtoinfjdhbopefaaDoor.TkZ
open Go.RowKit Nums TokM TokS TokU TkrD TkrF OwnT

/-- What the walks ask of the world. -/
abbrev Ld := Tld.Ld
theorem Ld.below {w w' : World} (h : Ld w) (hb : Below w.heap.size w w') : Ld w' := Tld.Ld.below h hb
theorem Ld.drew {w : World} (h : Ld w) : Ld w.drew := Tld.Ld.drew h
theorem pscan (s : ByteArray) (hs : s.size ≤ 140737488351232) (w : World) (hL : Ld w) : Calls Tryd.prog 14 #[.string s] w fun e w' => SB s w e w' := TkpD.pscan s hs w hL
theorem pprint (v : Value) (l : List Mt) (w : World) (hL : Ld w) (hk : KnT w v l) (hl : l.length ≤ 100000) (hok : ∀ m ∈ l, m.t.size ≤ 1000000 ∧ m.ok) :
    Calls Tryd.prog 13 #[v] w fun e w' => e = .returned (.string ⟨(TokU.print (l.map Mt.tok)).toArray⟩) ∧ Below w.heap.size w w' := TkpE.pprint v l w hL hk hl hok
theorem psame (v1 v2 : Value) (la lb : List Mt) (w : World) (hL : Ld w) (ha : KnT w v1 la) (hb : KnT w v2 lb) (hl : la.length ≤ 9223372036854775807) (hl2 : lb.length ≤ 9223372036854775807) :
    Calls Tryd.prog 9 #[v1, v2] w fun e w' => e = .returned (.bool (same la lb)) ∧ Below w.heap.size w w' := TkpF.psame v1 v2 la lb w hL ha hb hl hl2
theorem pis (kd nu ln : Int) (t s : ByteArray) (w : World) :
    Calls Tryd.prog 7 #[.agg #[.int .i64 kd, .string t, .int .i64 nu, .int .i64 ln], .string s] w fun e w' => e = .returned (.bool (isB ⟨kd, t.data.toList, nu⟩ s.data.toList)) ∧ Below w.heap.size w w' := TkpF.pis kd nu ln t s w
end Go.Proofs.YtoinfjdhbopefaaDoor.TkZ
