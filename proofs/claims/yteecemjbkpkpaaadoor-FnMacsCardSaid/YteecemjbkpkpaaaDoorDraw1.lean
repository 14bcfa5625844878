/- What is drawn for the first chapter: any time, any text. -/
import Derived.Test.YteecemjbkpkpaaaDoorMga
namespace Go.Proofs.YteecemjbkpkpaaaDoor
open Go.ChangeShapes Go.WideShapes Go.ChangeAt Go.RowKit
set_option linter.unusedVariables false

end Go.Proofs.YteecemjbkpkpaaaDoor
