/- What the laws of stage 8 ask of package note: the contracts of its functions, gathered. -/
import Derived.Test.YthjpchnogllliaaDoorNtpK
import Derived.Test.YthjpchnogllliaaDoorNtpE
import Derived.Test.YthjpchnogllliaaDoorNtpT
set_option linter.unusedSimpArgs false
set_option linter.unusedVariables false
namespace Go.Proofs.YthjpchnogllliaaDoor.NtZ
open Go.RowKit Nums ScaM ScaV ScaB Val NotM NotK

/-- What the walks ask of the world. -/
abbrev Ld := Tld.Ld
theorem pkind (s : ByteArray) (hs : s.size ≤ 140737488351232) (w : World) (hL : Ld w) :
    Calls Tryd.prog 8 #[.string s] w fun e w' => e = .returned (.int .i64 (kindN s.data.toList)) ∧ Below w.heap.size w w' := NtpK.pkind s hs w hL
theorem pcheck (v : Value) (l : List Mn) (tg : Int) (w : World) (hL : Ld w) (hk : KnN w v l) (hl : l.length ≤ 9223372036854775807) (hok : ∀ m ∈ l, m.ok) :
    Calls Tryd.prog 10 #[v, .int .i64 tg] w fun e w' => e = .returned (.int .i64 (checkN (l.map Mn.nt) tg)) ∧ Below w.heap.size w w' := NtpE.pcheck v l tg w hL hk hl hok
theorem ptext (v : Value) (l : List Mn) (w : World) (hL : Ld w) (hk : KnN w v l) (hl : l.length ≤ 100000) (hok : ∀ m ∈ l, m.ok) :
    Calls Tryd.prog 22 #[v] w fun e w' => e = .returned (.string ⟨(noteText (l.map Mn.nt)).toArray⟩) ∧ Below w.heap.size w w' := NtpT.ptext v l w hL hk hl hok
end Go.Proofs.YthjpchnogllliaaDoor.NtZ
