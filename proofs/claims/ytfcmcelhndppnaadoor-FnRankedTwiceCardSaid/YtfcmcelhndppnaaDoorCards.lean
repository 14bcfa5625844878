/-
  DERIVED. GIVEN WITH THE SEED: THE CARDS: each row of YtfcmcelhndppnaaDoorRows.lean that lists a variable, with what it lists TIED to the program's text (the seventh form; the later family's looks); each row that meets fmt, with fmt's text TOLD by the authors' own Lean function (tested against real Go, not proved from fmt's source: count such statements apart). THE CARD IS WHAT COUNTS. Prove the row's statement (the work); the ties are given (YtfcmcelhndppnaaDoorTie.lean); close each card by the builder's one call (the guide's Derived/Test/ToyasCard.lean, 'card_holds'). Laid BY PROGRAM, IN A SANDBOX (cutbox-door.mjs). By AI agents, Wed Nov 11 2026. No macro, syntax, notation, axiom, sorry.
-/
import Derived.Test.YtfcmcelhndppnaaDoorRows
import GoSem.ClaimSeven
namespace Go.Proofs.YtfcmcelhndppnaaDoor
namespace Rows

/-- THE TIED CARD OF 'laws.FnExactRanked'. -/
def fnExactRankedCard : Claim7 := { stood := { row := fnExactRankedRow, standIns := [], harness := (true, "a518a5de95861675cff6a6cb2221923c0dfed35f358609f5764030c05f552a57"), looks := true }, kinds := [], alts := [], laidByText := true, laidKinds := [.handle, .sentinel, .sentinel, .sentinel], laidTests := true, laidLooks := .later }
def FnExactRankedCardSaid : Prop := Claim7.holds Tryd.pinned (.plain (OpenSpec.ofChange fnExactRankedSpec)) fnExactRankedCard

/-- THE TIED CARD OF 'laws.FnExactSurvivors'. -/
def fnExactSurvivorsCard : Claim7 := { stood := { row := fnExactSurvivorsRow, standIns := [], harness := (true, "a518a5de95861675cff6a6cb2221923c0dfed35f358609f5764030c05f552a57"), looks := true }, kinds := [], alts := [], laidByText := true, laidKinds := [.handle, .sentinel, .sentinel, .sentinel], laidTests := true, laidLooks := .later }
def FnExactSurvivorsCardSaid : Prop := Claim7.holds Tryd.pinned (.plain (OpenSpec.ofChange fnExactSurvivorsSpec)) fnExactSurvivorsCard

/-- THE TIED CARD OF 'laws.FnRanked'. -/
def fnRankedCard : Claim7 := { stood := { row := fnRankedRow, standIns := [], harness := (true, "a518a5de95861675cff6a6cb2221923c0dfed35f358609f5764030c05f552a57"), looks := true }, kinds := [], alts := [], laidByText := true, laidKinds := [.handle, .sentinel, .sentinel, .sentinel], laidTests := true, laidLooks := .later }
def FnRankedCardSaid : Prop := Claim7.holds Tryd.pinned (.plain (OpenSpec.ofChange fnRankedSpec)) fnRankedCard

/-- THE TIED CARD OF 'laws.FnSurvivors'. -/
def fnSurvivorsCard : Claim7 := { stood := { row := fnSurvivorsRow, standIns := [], harness := (true, "a518a5de95861675cff6a6cb2221923c0dfed35f358609f5764030c05f552a57"), looks := true }, kinds := [], alts := [], laidByText := true, laidKinds := [.handle, .sentinel, .sentinel, .sentinel], laidTests := true, laidLooks := .later }
def FnSurvivorsCardSaid : Prop := Claim7.holds Tryd.pinned (.plain (OpenSpec.ofChange fnSurvivorsSpec)) fnSurvivorsCard

/-- THE TIED CARD OF 'laws.FnRankedTwice'. -/
def fnRankedTwiceCard : Claim7 := { stood := { row := fnRankedTwiceRow, standIns := [], harness := (true, "a518a5de95861675cff6a6cb2221923c0dfed35f358609f5764030c05f552a57"), looks := true }, kinds := [], alts := [], laidByText := true, laidKinds := [.handle, .sentinel, .sentinel, .sentinel], laidTests := true, laidLooks := .later }
def FnRankedTwiceCardSaid : Prop := Claim7.holds Tryd.pinned (.plain (OpenSpec.ofChange fnRankedTwiceSpec)) fnRankedTwiceCard

/-- THE SECOND FORM's CARD OF 'laws.FnExactRanked'. -/
def fnExactRankedUptoCard : Claim7 := { stood := { row := fnExactRankedUptoRow, standIns := [], harness := (true, "a518a5de95861675cff6a6cb2221923c0dfed35f358609f5764030c05f552a57"), looks := true }, kinds := [], alts := [], laidByText := true, laidKinds := [.handle, .sentinel, .sentinel, .sentinel], laidTests := true, laidLooks := .later }
def FnExactRankedUptoCardSaid : Prop := Claim7.holds Tryd.pinned (.plain (OpenSpec.upto fnExactRankedSpec)) fnExactRankedUptoCard

/-- THE SECOND FORM's CARD OF 'laws.FnExactSurvivors'. -/
def fnExactSurvivorsUptoCard : Claim7 := { stood := { row := fnExactSurvivorsUptoRow, standIns := [], harness := (true, "a518a5de95861675cff6a6cb2221923c0dfed35f358609f5764030c05f552a57"), looks := true }, kinds := [], alts := [], laidByText := true, laidKinds := [.handle, .sentinel, .sentinel, .sentinel], laidTests := true, laidLooks := .later }
def FnExactSurvivorsUptoCardSaid : Prop := Claim7.holds Tryd.pinned (.plain (OpenSpec.upto fnExactSurvivorsSpec)) fnExactSurvivorsUptoCard

/-- THE SECOND FORM's CARD OF 'laws.FnRanked'. -/
def fnRankedUptoCard : Claim7 := { stood := { row := fnRankedUptoRow, standIns := [], harness := (true, "a518a5de95861675cff6a6cb2221923c0dfed35f358609f5764030c05f552a57"), looks := true }, kinds := [], alts := [], laidByText := true, laidKinds := [.handle, .sentinel, .sentinel, .sentinel], laidTests := true, laidLooks := .later }
def FnRankedUptoCardSaid : Prop := Claim7.holds Tryd.pinned (.plain (OpenSpec.upto fnRankedSpec)) fnRankedUptoCard

/-- THE SECOND FORM's CARD OF 'laws.FnSurvivors'. -/
def fnSurvivorsUptoCard : Claim7 := { stood := { row := fnSurvivorsUptoRow, standIns := [], harness := (true, "a518a5de95861675cff6a6cb2221923c0dfed35f358609f5764030c05f552a57"), looks := true }, kinds := [], alts := [], laidByText := true, laidKinds := [.handle, .sentinel, .sentinel, .sentinel], laidTests := true, laidLooks := .later }
def FnSurvivorsUptoCardSaid : Prop := Claim7.holds Tryd.pinned (.plain (OpenSpec.upto fnSurvivorsSpec)) fnSurvivorsUptoCard

/-- THE SECOND FORM's CARD OF 'laws.FnRankedTwice'. -/
def fnRankedTwiceUptoCard : Claim7 := { stood := { row := fnRankedTwiceUptoRow, standIns := [], harness := (true, "a518a5de95861675cff6a6cb2221923c0dfed35f358609f5764030c05f552a57"), looks := true }, kinds := [], alts := [], laidByText := true, laidKinds := [.handle, .sentinel, .sentinel, .sentinel], laidTests := true, laidLooks := .later }
def FnRankedTwiceUptoCardSaid : Prop := Claim7.holds Tryd.pinned (.plain (OpenSpec.upto fnRankedTwiceSpec)) fnRankedTwiceUptoCard
end Rows
end Go.Proofs.YtfcmcelhndppnaaDoor
