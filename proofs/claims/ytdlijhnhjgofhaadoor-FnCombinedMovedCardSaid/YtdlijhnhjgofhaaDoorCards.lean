/-
  DERIVED. GIVEN WITH THE SEED: THE CARDS: each row of YtdlijhnhjgofhaaDoorRows.lean that lists a variable, with what it lists TIED to the program's text (the seventh form; the later family's looks); each row that meets fmt, with fmt's text TOLD by the authors' own Lean function (tested against real Go, not proved from fmt's source: count such statements apart). THE CARD IS WHAT COUNTS. Prove the row's statement (the work); the ties are given (YtdlijhnhjgofhaaDoorTie.lean); close each card by the builder's one call (the guide's Derived/Test/ToyasCard.lean, 'card_holds'). Laid BY PROGRAM, IN A SANDBOX (cutbox-door.mjs). By AI agents, Wed Nov 11 2026. No macro, syntax, notation, axiom, sorry.
-/
import Derived.Test.YtdlijhnhjgofhaaDoorRows
import GoSem.ClaimSeven
namespace Go.Proofs.YtdlijhnhjgofhaaDoor
namespace Rows

/-- THE TIED CARD OF 'laws.FnCombined'. -/
def fnCombinedCard : Claim7 := { stood := { row := fnCombinedRow, standIns := [], harness := (true, "1e22478ffda5c419149e8f015a446ac8e97089e88918df1b6588cc55c1c2c2db"), looks := true }, kinds := [], alts := [], laidByText := true, laidKinds := [.handle, .sentinel, .sentinel, .sentinel], laidTests := true, laidLooks := .later }
def FnCombinedCardSaid : Prop := Claim7.holds Tryd.pinned (.plain (OpenSpec.ofChange fnCombinedSpec)) fnCombinedCard

/-- THE TIED CARD OF 'laws.FnCombinedMoved'. -/
def fnCombinedMovedCard : Claim7 := { stood := { row := fnCombinedMovedRow, standIns := [], harness := (true, "1e22478ffda5c419149e8f015a446ac8e97089e88918df1b6588cc55c1c2c2db"), looks := true }, kinds := [], alts := [], laidByText := true, laidKinds := [.handle, .sentinel, .sentinel, .sentinel], laidTests := true, laidLooks := .later }
def FnCombinedMovedCardSaid : Prop := Claim7.holds Tryd.pinned (.plain (OpenSpec.ofChange fnCombinedMovedSpec)) fnCombinedMovedCard

/-- THE TIED CARD OF 'laws.FnExactRanked'. -/
def fnExactRankedCard : Claim7 := { stood := { row := fnExactRankedRow, standIns := [], harness := (true, "1e22478ffda5c419149e8f015a446ac8e97089e88918df1b6588cc55c1c2c2db"), looks := true }, kinds := [], alts := [], laidByText := true, laidKinds := [.handle, .sentinel, .sentinel, .sentinel], laidTests := true, laidLooks := .later }
def FnExactRankedCardSaid : Prop := Claim7.holds Tryd.pinned (.plain (OpenSpec.ofChange fnExactRankedSpec)) fnExactRankedCard

/-- THE TIED CARD OF 'laws.FnExactSurvivors'. -/
def fnExactSurvivorsCard : Claim7 := { stood := { row := fnExactSurvivorsRow, standIns := [], harness := (true, "1e22478ffda5c419149e8f015a446ac8e97089e88918df1b6588cc55c1c2c2db"), looks := true }, kinds := [], alts := [], laidByText := true, laidKinds := [.handle, .sentinel, .sentinel, .sentinel], laidTests := true, laidLooks := .later }
def FnExactSurvivorsCardSaid : Prop := Claim7.holds Tryd.pinned (.plain (OpenSpec.ofChange fnExactSurvivorsSpec)) fnExactSurvivorsCard

/-- THE TIED CARD OF 'laws.FnExactChosen'. -/
def fnExactChosenCard : Claim7 := { stood := { row := fnExactChosenRow, standIns := [], harness := (true, "1e22478ffda5c419149e8f015a446ac8e97089e88918df1b6588cc55c1c2c2db"), looks := true }, kinds := [], alts := [], laidByText := true, laidKinds := [.handle, .sentinel, .sentinel, .sentinel], laidTests := true, laidLooks := .later }
def FnExactChosenCardSaid : Prop := Claim7.holds Tryd.pinned (.plain (OpenSpec.ofChange fnExactChosenSpec)) fnExactChosenCard

/-- THE TIED CARD OF 'laws.FnRanked'. -/
def fnRankedCard : Claim7 := { stood := { row := fnRankedRow, standIns := [], harness := (true, "1e22478ffda5c419149e8f015a446ac8e97089e88918df1b6588cc55c1c2c2db"), looks := true }, kinds := [], alts := [], laidByText := true, laidKinds := [.handle, .sentinel, .sentinel, .sentinel], laidTests := true, laidLooks := .later }
def FnRankedCardSaid : Prop := Claim7.holds Tryd.pinned (.plain (OpenSpec.ofChange fnRankedSpec)) fnRankedCard

/-- THE TIED CARD OF 'laws.FnSurvivors'. -/
def fnSurvivorsCard : Claim7 := { stood := { row := fnSurvivorsRow, standIns := [], harness := (true, "1e22478ffda5c419149e8f015a446ac8e97089e88918df1b6588cc55c1c2c2db"), looks := true }, kinds := [], alts := [], laidByText := true, laidKinds := [.handle, .sentinel, .sentinel, .sentinel], laidTests := true, laidLooks := .later }
def FnSurvivorsCardSaid : Prop := Claim7.holds Tryd.pinned (.plain (OpenSpec.ofChange fnSurvivorsSpec)) fnSurvivorsCard

/-- THE TIED CARD OF 'laws.FnRankedTwice'. -/
def fnRankedTwiceCard : Claim7 := { stood := { row := fnRankedTwiceRow, standIns := [], harness := (true, "1e22478ffda5c419149e8f015a446ac8e97089e88918df1b6588cc55c1c2c2db"), looks := true }, kinds := [], alts := [], laidByText := true, laidKinds := [.handle, .sentinel, .sentinel, .sentinel], laidTests := true, laidLooks := .later }
def FnRankedTwiceCardSaid : Prop := Claim7.holds Tryd.pinned (.plain (OpenSpec.ofChange fnRankedTwiceSpec)) fnRankedTwiceCard

/-- THE SECOND FORM's CARD OF 'laws.FnCombined'. -/
def fnCombinedUptoCard : Claim7 := { stood := { row := fnCombinedUptoRow, standIns := [], harness := (true, "1e22478ffda5c419149e8f015a446ac8e97089e88918df1b6588cc55c1c2c2db"), looks := true }, kinds := [], alts := [], laidByText := true, laidKinds := [.handle, .sentinel, .sentinel, .sentinel], laidTests := true, laidLooks := .later }
def FnCombinedUptoCardSaid : Prop := Claim7.holds Tryd.pinned (.plain (OpenSpec.upto fnCombinedSpec)) fnCombinedUptoCard

/-- THE SECOND FORM's CARD OF 'laws.FnCombinedMoved'. -/
def fnCombinedMovedUptoCard : Claim7 := { stood := { row := fnCombinedMovedUptoRow, standIns := [], harness := (true, "1e22478ffda5c419149e8f015a446ac8e97089e88918df1b6588cc55c1c2c2db"), looks := true }, kinds := [], alts := [], laidByText := true, laidKinds := [.handle, .sentinel, .sentinel, .sentinel], laidTests := true, laidLooks := .later }
def FnCombinedMovedUptoCardSaid : Prop := Claim7.holds Tryd.pinned (.plain (OpenSpec.upto fnCombinedMovedSpec)) fnCombinedMovedUptoCard

/-- THE SECOND FORM's CARD OF 'laws.FnExactRanked'. -/
def fnExactRankedUptoCard : Claim7 := { stood := { row := fnExactRankedUptoRow, standIns := [], harness := (true, "1e22478ffda5c419149e8f015a446ac8e97089e88918df1b6588cc55c1c2c2db"), looks := true }, kinds := [], alts := [], laidByText := true, laidKinds := [.handle, .sentinel, .sentinel, .sentinel], laidTests := true, laidLooks := .later }
def FnExactRankedUptoCardSaid : Prop := Claim7.holds Tryd.pinned (.plain (OpenSpec.upto fnExactRankedSpec)) fnExactRankedUptoCard

/-- THE SECOND FORM's CARD OF 'laws.FnExactSurvivors'. -/
def fnExactSurvivorsUptoCard : Claim7 := { stood := { row := fnExactSurvivorsUptoRow, standIns := [], harness := (true, "1e22478ffda5c419149e8f015a446ac8e97089e88918df1b6588cc55c1c2c2db"), looks := true }, kinds := [], alts := [], laidByText := true, laidKinds := [.handle, .sentinel, .sentinel, .sentinel], laidTests := true, laidLooks := .later }
def FnExactSurvivorsUptoCardSaid : Prop := Claim7.holds Tryd.pinned (.plain (OpenSpec.upto fnExactSurvivorsSpec)) fnExactSurvivorsUptoCard

/-- THE SECOND FORM's CARD OF 'laws.FnExactChosen'. -/
def fnExactChosenUptoCard : Claim7 := { stood := { row := fnExactChosenUptoRow, standIns := [], harness := (true, "1e22478ffda5c419149e8f015a446ac8e97089e88918df1b6588cc55c1c2c2db"), looks := true }, kinds := [], alts := [], laidByText := true, laidKinds := [.handle, .sentinel, .sentinel, .sentinel], laidTests := true, laidLooks := .later }
def FnExactChosenUptoCardSaid : Prop := Claim7.holds Tryd.pinned (.plain (OpenSpec.upto fnExactChosenSpec)) fnExactChosenUptoCard

/-- THE SECOND FORM's CARD OF 'laws.FnRanked'. -/
def fnRankedUptoCard : Claim7 := { stood := { row := fnRankedUptoRow, standIns := [], harness := (true, "1e22478ffda5c419149e8f015a446ac8e97089e88918df1b6588cc55c1c2c2db"), looks := true }, kinds := [], alts := [], laidByText := true, laidKinds := [.handle, .sentinel, .sentinel, .sentinel], laidTests := true, laidLooks := .later }
def FnRankedUptoCardSaid : Prop := Claim7.holds Tryd.pinned (.plain (OpenSpec.upto fnRankedSpec)) fnRankedUptoCard

/-- THE SECOND FORM's CARD OF 'laws.FnSurvivors'. -/
def fnSurvivorsUptoCard : Claim7 := { stood := { row := fnSurvivorsUptoRow, standIns := [], harness := (true, "1e22478ffda5c419149e8f015a446ac8e97089e88918df1b6588cc55c1c2c2db"), looks := true }, kinds := [], alts := [], laidByText := true, laidKinds := [.handle, .sentinel, .sentinel, .sentinel], laidTests := true, laidLooks := .later }
def FnSurvivorsUptoCardSaid : Prop := Claim7.holds Tryd.pinned (.plain (OpenSpec.upto fnSurvivorsSpec)) fnSurvivorsUptoCard

/-- THE SECOND FORM's CARD OF 'laws.FnRankedTwice'. -/
def fnRankedTwiceUptoCard : Claim7 := { stood := { row := fnRankedTwiceUptoRow, standIns := [], harness := (true, "1e22478ffda5c419149e8f015a446ac8e97089e88918df1b6588cc55c1c2c2db"), looks := true }, kinds := [], alts := [], laidByText := true, laidKinds := [.handle, .sentinel, .sentinel, .sentinel], laidTests := true, laidLooks := .later }
def FnRankedTwiceUptoCardSaid : Prop := Claim7.holds Tryd.pinned (.plain (OpenSpec.upto fnRankedTwiceSpec)) fnRankedTwiceUptoCard
end Rows
end Go.Proofs.YtdlijhnhjgofhaaDoor
