/- What every text of this seat leans on: the closed facts of the translation. -/
import Derived.Test.YtbkkgkmllplbaaaDoorRows
import Derived.Test.YtbkkgkmllplbaaaDoorFrame
import Derived.Handy
import Derived.Lib.Hide
namespace Go.Proofs.YtbkkgkmllplbaaaDoor
theorem own : ownKnob Tryd.prog.godebug = none := by kernel_rfl
theorem laidOut : laidOutB Tryd.prog = true := by kernel_rfl
theorem boolType : Tryd.prog.underlying 4 = some .bool := Tryd.underlying4
theorem mapsRow : mapsRowed Tryd.prog = true := by kernel_rfl
theorem noStops : Tryd.prog.stops = [] := by kernel_rfl
theorem noKnobs : Tryd.prog.stopKnobs = [] := by kernel_rfl
theorem keysPlain : true = Tryd.prog.plainKeys := by kernel_rfl
theorem heard : Tryd.prog.stopsHeard = true := by kernel_rfl
set_option maxRecDepth 100000 in
theorem isCut : (behindMainWord (wordsSigns Tryd.prog.initOrder.toList)).head? = some "cut".toList :=
  head_via (fun l => (behindMainWord (wordsSigns l)).head?) Tryd.prog.initOrder _ _ rfl (by kernel_rfl)
theorem lays : Tryd.prog.laysLater = false := by kernel_rfl
theorem reflects : Tryd.prog.bearsReflect = false := by kernel_rfl
theorem doors : Tryd.prog.doorFits [] = true := by kernel_rfl
theorem enters : Tryd.prog.mayEnter = true := mayEnter_cut isCut lays reflects doors
theorem finals : false = Tryd.prog.liftsFinal := (liftsFinal_cut isCut).symm
theorem isMake : Tryd.prog.make = some .cut := make_cut isCut
end Go.Proofs.YtbkkgkmllplbaaaDoor
