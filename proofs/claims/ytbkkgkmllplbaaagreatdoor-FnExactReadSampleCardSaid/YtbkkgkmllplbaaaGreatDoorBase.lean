/- What every text of this seat leans on: the closed facts of the translation. -/
import Derived.Test.YtbkkgkmllplbaaaGreatDoorRows
import Derived.Test.YtbkkgkmllplbaaaGreatDoorFrame
import Derived.Handy
import Derived.Lib.Hide
namespace Go.Proofs.YtbkkgkmllplbaaaGreatDoor
theorem own : ownKnob Tryz.prog.godebug = none := by kernel_rfl
theorem laidOut : laidOutB Tryz.prog = true := by kernel_rfl
theorem boolType : Tryz.prog.underlying 4 = some .bool := Tryz.underlying4
theorem mapsRow : mapsRowed Tryz.prog = true := by kernel_rfl
theorem noStops : Tryz.prog.stops = [] := by kernel_rfl
theorem noKnobs : Tryz.prog.stopKnobs = [] := by kernel_rfl
theorem keysPlain : true = Tryz.prog.plainKeys := by kernel_rfl
theorem heard : Tryz.prog.stopsHeard = true := by kernel_rfl
set_option maxRecDepth 100000 in
theorem isCut : (behindMainWord (wordsSigns Tryz.prog.initOrder.toList)).head? = some "cut".toList :=
  head_via (fun l => (behindMainWord (wordsSigns l)).head?) Tryz.prog.initOrder _ _ rfl (by kernel_rfl)
theorem lays : Tryz.prog.laysLater = false := by kernel_rfl
theorem reflects : Tryz.prog.bearsReflect = false := by kernel_rfl
theorem doors : Tryz.prog.doorFits [] = true := by kernel_rfl
theorem enters : Tryz.prog.mayEnter = true := mayEnter_cut isCut lays reflects doors
theorem finals : false = Tryz.prog.liftsFinal := (liftsFinal_cut isCut).symm
theorem isMake : Tryz.prog.make = some .cut := make_cut isCut
end Go.Proofs.YtbkkgkmllplbaaaGreatDoor
