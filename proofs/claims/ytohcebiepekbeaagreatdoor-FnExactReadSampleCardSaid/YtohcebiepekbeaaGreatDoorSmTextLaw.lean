/- For every sample the program's SampleText answers as the reference. -/
import Derived.Test.YtohcebiepekbeaaGreatDoorSmText
import Derived.Test.YtohcebiepekbeaaGreatDoorClkTextLaw
namespace Go.Proofs.YtohcebiepekbeaaGreatDoor
open Go.ChangeShapes Go.WideShapes Go.ChangeAt Go.RowKit
set_option linter.unusedVariables false
set_option linter.unusedSimpArgs false

end Go.Proofs.YtohcebiepekbeaaGreatDoor
