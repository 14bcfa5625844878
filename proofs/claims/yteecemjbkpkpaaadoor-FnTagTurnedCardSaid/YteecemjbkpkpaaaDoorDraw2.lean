/- The reference's drawing of packets: some packet, some question; nothing that lay has turned. -/
import Derived.Test.YteecemjbkpkpaaaDoorMga
import Derived.Test.YteecemjbkpkpaaaDoorPacketOk
namespace Go.Proofs.YteecemjbkpkpaaaDoor
open Go.ChangeShapes Go.WideShapes Go.ChangeAt Go.RowKit
set_option linter.unusedVariables false

/-- Two numbers; nothing that lay has turned. -/
def AnyTwo (w : World) : Ending → World → Prop := fun e w' => ∃ s t : Int, (-9223372036854775808 ≤ s ∧ s ≤ 9223372036854775807) ∧ (-9223372036854775808 ≤ t ∧ t ≤ 9223372036854775807) ∧ e = .returned (.tuple #[.int .i64 s, .int .i64 t]) ∧ Below w.heap.size w w'

end Go.Proofs.YteecemjbkpkpaaaDoor
