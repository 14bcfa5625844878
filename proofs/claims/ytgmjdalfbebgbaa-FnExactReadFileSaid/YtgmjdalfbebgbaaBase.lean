/- What every text of this seat leans on: the closed facts of the translation. -/
import Derived.Test.YtgmjdalfbebgbaaRows
import Derived.Test.YtgmjdalfbebgbaaFrame
import Derived.Handy
import Derived.Lib.Hide
namespace Go.Proofs.Ytgmjdalfbebgbaa
theorem own : ownKnob Try.prog.godebug = none := by kernel_rfl
theorem laidOut : laidOutB Try.prog = true := by kernel_rfl
theorem boolType : Try.prog.underlying 4 = some .bool := Try.underlying4
theorem mapsRow : mapsRowed Try.prog = true := by kernel_rfl
theorem noStops : Try.prog.stops = [] := by kernel_rfl
theorem noKnobs : Try.prog.stopKnobs = [] := by kernel_rfl
theorem keysPlain : true = Try.prog.plainKeys := by kernel_rfl
theorem heard : Try.prog.stopsHeard = true := by kernel_rfl
set_option maxRecDepth 100000 in
theorem isCut : (behindMainWord (wordsSigns Try.prog.initOrder.toList)).head? = some "cut".toList :=
  head_via (fun l => (behindMainWord (wordsSigns l)).head?) Try.prog.initOrder _ _ rfl (by kernel_rfl)
theorem lays : Try.prog.laysLater = false := by kernel_rfl
theorem reflects : Try.prog.bearsReflect = false := by kernel_rfl
theorem doors : Try.prog.doorFits [] = true := by kernel_rfl
theorem enters : Try.prog.mayEnter = true := mayEnter_cut isCut lays reflects doors
theorem finals : false = Try.prog.liftsFinal := (liftsFinal_cut isCut).symm
theorem isMake : Try.prog.make = some .cut := make_cut isCut
end Go.Proofs.Ytgmjdalfbebgbaa
