/- The program's parseNumber, and Parse at the kinds of whole numbers. -/
import Derived.Test.YthjpchnogllliaaDoorScpC
import Derived.Test.YthjpchnogllliaaDoorScaW
import Derived.Test.YthjpchnogllliaaDoorBox
set_option linter.unusedSimpArgs false
set_option linter.unusedVariables false
namespace Go.Proofs.YthjpchnogllliaaDoor.ScpD
open Go.RowKit Nums Byt UtfM UtfS ScaM ScaV ScaA ScaB ScaC ScaT ScaW ScpM ScpA ScpB ScpC Ld Box

def parseN (k : Int) (l : List UInt8) : Nat × Int :=
  if decB l then (match numR k l with | some n => if rgB k n then (n, 0) else (0, 6) | none => (0, 6)) else (0, 2)

/-- What Parse returns of the bits and the error of a kind's own parser. -/
def finB (k : Int) (r : Nat × Int) : SV × Int := if r.2 = 0 then (nv k r.1, 0) else (zv 0, r.2)

end Go.Proofs.YthjpchnogllliaaDoor.ScpD
