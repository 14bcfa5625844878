/- What is drawn for the first chapter: any time, any text. -/
import Derived.Test.YtbkkgkmllplbaaaDoorDraw0
namespace Go.Proofs.YtbkkgkmllplbaaaDoor
open Go.ChangeShapes Go.WideShapes Go.ChangeAt Go.RowKit
set_option linter.unusedVariables false

end Go.Proofs.YtbkkgkmllplbaaaDoor
