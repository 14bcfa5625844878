/-
  DERIVED. GIVEN WITH THE SEED: THE CARDS: each row of YtjmhbmpkdhfopaaDoorRows.lean that lists a variable, with what it lists TIED to the program's text (the seventh form; the later family's looks); each row that meets fmt, with fmt's text TOLD by the authors' own Lean function (tested against real Go, not proved from fmt's source: count such statements apart). THE CARD IS WHAT COUNTS. Prove the row's statement (the work); the ties are given (YtjmhbmpkdhfopaaDoorTie.lean); close each card by the builder's one call (the guide's Derived/Test/ToyasCard.lean, 'card_holds'). Laid BY PROGRAM, IN A SANDBOX (cutbox-door.mjs). By AI agents, Wed Nov 11 2026. No macro, syntax, notation, axiom, sorry.
-/
import Derived.Test.YtjmhbmpkdhfopaaDoorRows
import GoSem.ClaimSeven
namespace Go.Proofs.YtjmhbmpkdhfopaaDoor
namespace Rows

/-- THE TIED CARD OF 'laws.FnRanked'. -/
def fnRankedCard : Claim7 := { stood := { row := fnRankedRow, standIns := [], harness := (true, "c7a784d70e468ecac38f4c9ea2adb90c5027ca16c14193f33136271611501527"), looks := true }, kinds := [], alts := [], laidByText := true, laidKinds := [.handle, .sentinel, .sentinel, .sentinel], laidTests := true, laidLooks := .later }
def FnRankedCardSaid : Prop := Claim7.holds Tryd.pinned (.plain (OpenSpec.ofChange fnRankedSpec)) fnRankedCard

/-- THE TIED CARD OF 'laws.FnSurvivors'. -/
def fnSurvivorsCard : Claim7 := { stood := { row := fnSurvivorsRow, standIns := [], harness := (true, "c7a784d70e468ecac38f4c9ea2adb90c5027ca16c14193f33136271611501527"), looks := true }, kinds := [], alts := [], laidByText := true, laidKinds := [.handle, .sentinel, .sentinel, .sentinel], laidTests := true, laidLooks := .later }
def FnSurvivorsCardSaid : Prop := Claim7.holds Tryd.pinned (.plain (OpenSpec.ofChange fnSurvivorsSpec)) fnSurvivorsCard

/-- THE TIED CARD OF 'laws.FnRankedTwice'. -/
def fnRankedTwiceCard : Claim7 := { stood := { row := fnRankedTwiceRow, standIns := [], harness := (true, "c7a784d70e468ecac38f4c9ea2adb90c5027ca16c14193f33136271611501527"), looks := true }, kinds := [], alts := [], laidByText := true, laidKinds := [.handle, .sentinel, .sentinel, .sentinel], laidTests := true, laidLooks := .later }
def FnRankedTwiceCardSaid : Prop := Claim7.holds Tryd.pinned (.plain (OpenSpec.ofChange fnRankedTwiceSpec)) fnRankedTwiceCard

/-- THE SECOND FORM's CARD OF 'laws.FnRanked'. -/
def fnRankedUptoCard : Claim7 := { stood := { row := fnRankedUptoRow, standIns := [], harness := (true, "c7a784d70e468ecac38f4c9ea2adb90c5027ca16c14193f33136271611501527"), looks := true }, kinds := [], alts := [], laidByText := true, laidKinds := [.handle, .sentinel, .sentinel, .sentinel], laidTests := true, laidLooks := .later }
def FnRankedUptoCardSaid : Prop := Claim7.holds Tryd.pinned (.plain (OpenSpec.upto fnRankedSpec)) fnRankedUptoCard

/-- THE SECOND FORM's CARD OF 'laws.FnSurvivors'. -/
def fnSurvivorsUptoCard : Claim7 := { stood := { row := fnSurvivorsUptoRow, standIns := [], harness := (true, "c7a784d70e468ecac38f4c9ea2adb90c5027ca16c14193f33136271611501527"), looks := true }, kinds := [], alts := [], laidByText := true, laidKinds := [.handle, .sentinel, .sentinel, .sentinel], laidTests := true, laidLooks := .later }
def FnSurvivorsUptoCardSaid : Prop := Claim7.holds Tryd.pinned (.plain (OpenSpec.upto fnSurvivorsSpec)) fnSurvivorsUptoCard

/-- THE SECOND FORM's CARD OF 'laws.FnRankedTwice'. -/
def fnRankedTwiceUptoCard : Claim7 := { stood := { row := fnRankedTwiceUptoRow, standIns := [], harness := (true, "c7a784d70e468ecac38f4c9ea2adb90c5027ca16c14193f33136271611501527"), looks := true }, kinds := [], alts := [], laidByText := true, laidKinds := [.handle, .sentinel, .sentinel, .sentinel], laidTests := true, laidLooks := .later }
def FnRankedTwiceUptoCardSaid : Prop := Claim7.holds Tryd.pinned (.plain (OpenSpec.upto fnRankedTwiceSpec)) fnRankedTwiceUptoCard
end Rows
end Go.Proofs.YtjmhbmpkdhfopaaDoor
