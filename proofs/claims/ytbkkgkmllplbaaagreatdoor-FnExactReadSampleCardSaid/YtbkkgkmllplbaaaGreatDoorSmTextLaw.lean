/- For every sample the program's SampleText answers as the reference. -/
import Derived.Test.YtbkkgkmllplbaaaGreatDoorSmText
import Derived.Test.YtbkkgkmllplbaaaGreatDoorClkTextLaw
namespace Go.Proofs.YtbkkgkmllplbaaaGreatDoor
open Go.ChangeShapes Go.WideShapes Go.ChangeAt Go.RowKit
set_option linter.unusedVariables false
set_option linter.unusedSimpArgs false

end Go.Proofs.YtbkkgkmllplbaaaGreatDoor
