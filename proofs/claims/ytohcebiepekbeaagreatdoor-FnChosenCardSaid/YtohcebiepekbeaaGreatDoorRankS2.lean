/- Peers in their ranks: the whole of the reference's Ranked. -/
import Derived.Test.YtohcebiepekbeaaGreatDoorRankRef
import Derived.Test.YtohcebiepekbeaaGreatDoorRankI
namespace Go.Proofs.YtohcebiepekbeaaGreatDoor
open Go.ChangeShapes Go.WideShapes Go.ChangeAt Go.RowKit
set_option linter.unusedVariables false
set_option linter.unusedSimpArgs false

end Go.Proofs.YtohcebiepekbeaaGreatDoor
