/- Peers in their ranks: the whole of the reference's Ranked. -/
import Derived.Test.YtjmhbmpkdhfopaaGreatDoorRankRef
import Derived.Test.YtjmhbmpkdhfopaaGreatDoorRankI
namespace Go.Proofs.YtjmhbmpkdhfopaaGreatDoor
open Go.ChangeShapes Go.WideShapes Go.ChangeAt Go.RowKit
set_option linter.unusedVariables false
set_option linter.unusedSimpArgs false

end Go.Proofs.YtjmhbmpkdhfopaaGreatDoor
