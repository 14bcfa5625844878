/-
  DERIVED. GIVEN WITH THE SEED: THE CARDS: each row of YtecedbhjfpgkmaaDoorRows.lean that lists a variable, with what it lists TIED to the program's text (the seventh form; the later family's looks); each row that meets fmt, with fmt's text TOLD by the authors' own Lean function (tested against real Go, not proved from fmt's source: count such statements apart). THE CARD IS WHAT COUNTS. Prove the row's statement (the work); the ties are given (YtecedbhjfpgkmaaDoorTie.lean); close each card by the builder's one call (the guide's Derived/Test/ToyasCard.lean, 'card_holds'). Laid BY PROGRAM, IN A SANDBOX (cutbox-door.mjs). By AI agents, Wed Nov 11 2026. No macro, syntax, notation, axiom, sorry.
-/
import Derived.Test.YtecedbhjfpgkmaaDoorRows
import GoSem.ClaimSeven
namespace Go.Proofs.YtecedbhjfpgkmaaDoor
namespace Rows

/-- THE TIED CARD OF 'laws.FnExactIntervalOf'. -/
def fnExactIntervalOfCard : Claim7 := { stood := { row := fnExactIntervalOfRow, standIns := [], harness := (true, "bf6b5fd92c91df7465a7dec54f69d8a9dc6e6f72b5471ac467f5db4982b373ba"), looks := true }, kinds := [], alts := [], laidByText := true, laidKinds := [.handle, .sentinel, .sentinel, .sentinel], laidTests := true, laidLooks := .later }
def FnExactIntervalOfCardSaid : Prop := Claim7.holds Tryd.pinned (.plain (OpenSpec.ofChange fnExactIntervalOfSpec)) fnExactIntervalOfCard

/-- THE TIED CARD OF 'laws.FnIntervals'. -/
def fnIntervalsCard : Claim7 := { stood := { row := fnIntervalsRow, standIns := [], harness := (true, "bf6b5fd92c91df7465a7dec54f69d8a9dc6e6f72b5471ac467f5db4982b373ba"), looks := true }, kinds := [], alts := [], laidByText := true, laidKinds := [.handle, .sentinel, .sentinel, .sentinel], laidTests := true, laidLooks := .later }
def FnIntervalsCardSaid : Prop := Claim7.holds Tryd.pinned (.plain (OpenSpec.ofChange fnIntervalsSpec)) fnIntervalsCard

/-- THE SECOND FORM's CARD OF 'laws.FnExactIntervalOf'. -/
def fnExactIntervalOfUptoCard : Claim7 := { stood := { row := fnExactIntervalOfUptoRow, standIns := [], harness := (true, "bf6b5fd92c91df7465a7dec54f69d8a9dc6e6f72b5471ac467f5db4982b373ba"), looks := true }, kinds := [], alts := [], laidByText := true, laidKinds := [.handle, .sentinel, .sentinel, .sentinel], laidTests := true, laidLooks := .later }
def FnExactIntervalOfUptoCardSaid : Prop := Claim7.holds Tryd.pinned (.plain (OpenSpec.upto fnExactIntervalOfSpec)) fnExactIntervalOfUptoCard

/-- THE SECOND FORM's CARD OF 'laws.FnIntervals'. -/
def fnIntervalsUptoCard : Claim7 := { stood := { row := fnIntervalsUptoRow, standIns := [], harness := (true, "bf6b5fd92c91df7465a7dec54f69d8a9dc6e6f72b5471ac467f5db4982b373ba"), looks := true }, kinds := [], alts := [], laidByText := true, laidKinds := [.handle, .sentinel, .sentinel, .sentinel], laidTests := true, laidLooks := .later }
def FnIntervalsUptoCardSaid : Prop := Claim7.holds Tryd.pinned (.plain (OpenSpec.upto fnIntervalsSpec)) fnIntervalsUptoCard
end Rows
end Go.Proofs.YtecedbhjfpgkmaaDoor
