/- Numbers as bytes, the highest first: the program's way, by a range over a function. -/
import Derived.RangeFuncBox
import Derived.RangeFuncNested
import Derived.RangeFuncLeaves
import Derived.Shelf.Abstract
import Derived.WalkKit
import Derived.OwnWalkIn
import Derived.TacticsInMore
import Derived.LoopNIn
import Derived.LoopIn
import Derived.Maps.AppendAt
import Derived.Test.YtgmjdalfbebgbaaPut
namespace Go.Proofs.Ytgmjdalfbebgbaa
open Go.ChangeShapes Go.WideShapes Go.ChangeAt Go.RowKit Go.Shelf
set_option linter.unusedVariables false

attribute [local go_sem] Oper.semAt_some

/-- What the iterator asks of a round that goes on: the box of its number holds it still. -/
def BoxKept (B : Nat) (v : Value) (W W' : World) : Prop := Boxed W B 2 v → Boxed W' B 2 v

end Go.Proofs.Ytgmjdalfbebgbaa
