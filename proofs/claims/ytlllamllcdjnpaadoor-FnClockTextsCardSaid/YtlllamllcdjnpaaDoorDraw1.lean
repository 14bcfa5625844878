/- What is drawn for the first chapter: any time, any text. -/
import Derived.Test.YtlllamllcdjnpaaDoorDraw0
namespace Go.Proofs.YtlllamllcdjnpaaDoor
open Go.ChangeShapes Go.WideShapes Go.ChangeAt Go.RowKit
set_option linter.unusedVariables false

end Go.Proofs.YtlllamllcdjnpaaDoor
