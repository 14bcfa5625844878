/-
  DERIVED. GIVEN WITH THE SEED: THE CARDS: each row of YtjmhbmpkdhfopaaGreatDoorRows.lean that lists a variable, with what it lists TIED to the program's text (the seventh form; the later family's looks); each row that meets fmt, with fmt's text TOLD by the authors' own Lean function (tested against real Go, not proved from fmt's source: count such statements apart). THE CARD IS WHAT COUNTS. Prove the row's statement (the work); the ties are given (YtjmhbmpkdhfopaaGreatDoorTie.lean); close each card by the builder's one call (the guide's Derived/Test/ToyasCard.lean, 'card_holds'). Laid BY PROGRAM, IN A SANDBOX (cutbox-door.mjs). By AI agents, Wed Nov 11 2026. No macro, syntax, notation, axiom, sorry.
-/
import Derived.Test.YtjmhbmpkdhfopaaGreatDoorRows
import GoSem.ClaimSeven
namespace Go.Proofs.YtjmhbmpkdhfopaaGreatDoor
namespace Rows

/-- THE TIED CARD OF 'laws.FnChosen'. -/
def fnChosenCard : Claim7 := { stood := { row := fnChosenRow, standIns := [], harness := (true, "b2dbb60c64ca3e5cf9ae775006525ef379f751c39dde1dbe44ca87ff0c3bcfcc"), looks := true }, kinds := [], alts := [], laidByText := true, laidKinds := [.handle, .sentinel, .sentinel, .sentinel], laidTests := true, laidLooks := .later }
def FnChosenCardSaid : Prop := Claim7.holds Tryz.pinned (.plain (OpenSpec.ofChange fnChosenSpec)) fnChosenCard

/-- THE TIED CARD OF 'laws.FnAlone'. -/
def fnAloneCard : Claim7 := { stood := { row := fnAloneRow, standIns := [], harness := (true, "b2dbb60c64ca3e5cf9ae775006525ef379f751c39dde1dbe44ca87ff0c3bcfcc"), looks := true }, kinds := [], alts := [], laidByText := true, laidKinds := [.handle, .sentinel, .sentinel, .sentinel], laidTests := true, laidLooks := .later }
def FnAloneCardSaid : Prop := Claim7.holds Tryz.pinned (.plain (OpenSpec.ofChange fnAloneSpec)) fnAloneCard

/-- THE SECOND FORM's CARD OF 'laws.FnChosen'. -/
def fnChosenUptoCard : Claim7 := { stood := { row := fnChosenUptoRow, standIns := [], harness := (true, "b2dbb60c64ca3e5cf9ae775006525ef379f751c39dde1dbe44ca87ff0c3bcfcc"), looks := true }, kinds := [], alts := [], laidByText := true, laidKinds := [.handle, .sentinel, .sentinel, .sentinel], laidTests := true, laidLooks := .later }
def FnChosenUptoCardSaid : Prop := Claim7.holds Tryz.pinned (.plain (OpenSpec.upto fnChosenSpec)) fnChosenUptoCard

/-- THE SECOND FORM's CARD OF 'laws.FnAlone'. -/
def fnAloneUptoCard : Claim7 := { stood := { row := fnAloneUptoRow, standIns := [], harness := (true, "b2dbb60c64ca3e5cf9ae775006525ef379f751c39dde1dbe44ca87ff0c3bcfcc"), looks := true }, kinds := [], alts := [], laidByText := true, laidKinds := [.handle, .sentinel, .sentinel, .sentinel], laidTests := true, laidLooks := .later }
def FnAloneUptoCardSaid : Prop := Claim7.holds Tryz.pinned (.plain (OpenSpec.upto fnAloneSpec)) fnAloneUptoCard
end Rows
end Go.Proofs.YtjmhbmpkdhfopaaGreatDoor
