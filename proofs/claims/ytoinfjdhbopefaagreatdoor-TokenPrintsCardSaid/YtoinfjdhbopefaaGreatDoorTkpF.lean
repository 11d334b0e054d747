import Derived.Test.YtoinfjdhbopefaaGreatDoorTkrG
import Derived.Test.YtoinfjdhbopefaaGreatDoorTld
import Derived.BigQuiet
/- Package token of the program: whether a token is a sign or name, comparing tokens. -/
set_option linter.unusedSimpArgs false
set_option linter.unusedVariables false
namespace Go.Proofs.YtoinfjdhbopefaaGreatDoor.TkpF
open Go.RowKit Nums IdnM IdnC TokM TokD TokS TkrE TkrF Box4

end Go.Proofs.YtoinfjdhbopefaaGreatDoor.TkpF
