/- For every time and poll the program's Asked answers as the reference. -/
import Derived.Test.YtphmlpdohkfpiaaDoorPacketOk
namespace Go.Proofs.YtphmlpdohkfpiaaDoor
open Go.ChangeShapes Go.WideShapes Go.ChangeAt Go.RowKit
set_option linter.unusedVariables false

set_option maxHeartbeats 1000000 in
theorem eqPacket_same (p : Pk) (w : World) :
    Calls Tryd.prog 19 #[.agg #[.int .i64 p.leap, .int .i64 p.version, .int .i64 p.mode, .int .i64 p.stratum, .int .i64 p.poll, .int .i64 p.delay, .int .i64 p.disp, .int .i64 p.ref, .int .i64 p.orig, .int .i64 p.recv, .int .i64 p.xmit], .agg #[.int .i64 p.leap, .int .i64 p.version, .int .i64 p.mode, .int .i64 p.stratum, .int .i64 p.poll, .int .i64 p.delay, .int .i64 p.disp, .int .i64 p.ref, .int .i64 p.orig, .int .i64 p.recv, .int .i64 p.xmit]] w fun e w' => e = .returned (.bool true) ∧ Below w.heap.size w w' := by
  go_enter Tryd.func19, Tryd.ntmps19
  go_wp2
  go_returns
  exact ⟨rfl, by go_grown⟩

/-- The question that is asked. -/
def Pk.ask (now poll : Int) : Pk := ⟨0, 4, 3, 0, poll, 0, 0, 0, 0, 0, now⟩
def Pk.zero : Pk := ⟨0, 0, 0, 0, 0, 0, 0, 0, 0, 0, 0⟩
def askOk (now poll : Int) : Bool := !(now == 0) && (Pk.ask now poll).ok
def askPk (now poll : Int) : Pk := if askOk now poll then Pk.ask now poll else Pk.zero

end Go.Proofs.YtphmlpdohkfpiaaDoor
