/-
  DERIVED. GIVEN WITH THE SEED: THE CARDS: each row of YtphmlpdohkfpiaaDoorRows.lean that lists a variable, with what it lists TIED to the program's text (the seventh form; the later family's looks); each row that meets fmt, with fmt's text TOLD by the authors' own Lean function (tested against real Go, not proved from fmt's source: count such statements apart). THE CARD IS WHAT COUNTS. Prove the row's statement (the work); the ties are given (YtphmlpdohkfpiaaDoorTie.lean); close each card by the builder's one call (the guide's Derived/Test/ToyasCard.lean, 'card_holds'). Laid BY PROGRAM, IN A SANDBOX (cutbox-door.mjs). By AI agents, Wed Nov 11 2026. No macro, syntax, notation, axiom, sorry.
-/
import Derived.Test.YtphmlpdohkfpiaaDoorRows
import GoSem.ClaimSeven
namespace Go.Proofs.YtphmlpdohkfpiaaDoor
namespace Rows

/-- THE TIED CARD OF 'laws.FnExactSha256'. -/
def fnExactSha256Card : Claim7 := { stood := { row := fnExactSha256Row, standIns := [], harness := (true, "8f95415dd1a8bdbc1a02642dd09c38478b6b29a8bf9af656a21727ccbf937c7b"), looks := false }, kinds := [], alts := [], laidByText := true, laidKinds := [.data, .data], laidTests := true, laidLooks := .later }
def FnExactSha256CardSaid : Prop := Claim7.holds Tryd.pinned (.plain (OpenSpec.ofChange fnExactSha256Spec)) fnExactSha256Card

/-- THE TIED CARD OF 'laws.FnExactHmac'. -/
def fnExactHmacCard : Claim7 := { stood := { row := fnExactHmacRow, standIns := [], harness := (true, "8f95415dd1a8bdbc1a02642dd09c38478b6b29a8bf9af656a21727ccbf937c7b"), looks := false }, kinds := [], alts := [], laidByText := true, laidKinds := [.data, .data], laidTests := true, laidLooks := .later }
def FnExactHmacCardSaid : Prop := Claim7.holds Tryd.pinned (.plain (OpenSpec.ofChange fnExactHmacSpec)) fnExactHmacCard

/-- THE TIED CARD OF 'laws.FnExactMacText'. -/
def fnExactMacTextCard : Claim7 := { stood := { row := fnExactMacTextRow, standIns := [], harness := (true, "8f95415dd1a8bdbc1a02642dd09c38478b6b29a8bf9af656a21727ccbf937c7b"), looks := false }, kinds := [], alts := [], laidByText := true, laidKinds := [.data, .data], laidTests := true, laidLooks := .later }
def FnExactMacTextCardSaid : Prop := Claim7.holds Tryd.pinned (.plain (OpenSpec.ofChange fnExactMacTextSpec)) fnExactMacTextCard

/-- THE TIED CARD OF 'laws.FnExactReadMac'. -/
def fnExactReadMacCard : Claim7 := { stood := { row := fnExactReadMacRow, standIns := [], harness := (true, "8f95415dd1a8bdbc1a02642dd09c38478b6b29a8bf9af656a21727ccbf937c7b"), looks := false }, kinds := [], alts := [], laidByText := true, laidKinds := [.data, .data], laidTests := true, laidLooks := .later }
def FnExactReadMacCardSaid : Prop := Claim7.holds Tryd.pinned (.plain (OpenSpec.ofChange fnExactReadMacSpec)) fnExactReadMacCard

/-- THE TIED CARD OF 'laws.FnSha'. -/
def fnShaCard : Claim7 := { stood := { row := fnShaRow, standIns := [], harness := (true, "8f95415dd1a8bdbc1a02642dd09c38478b6b29a8bf9af656a21727ccbf937c7b"), looks := false }, kinds := [], alts := [], laidByText := true, laidKinds := [.data, .data], laidTests := true, laidLooks := .later }
def FnShaCardSaid : Prop := Claim7.holds Tryd.pinned (.plain (OpenSpec.ofChange fnShaSpec)) fnShaCard

/-- THE TIED CARD OF 'laws.FnMacs'. -/
def fnMacsCard : Claim7 := { stood := { row := fnMacsRow, standIns := [], harness := (true, "8f95415dd1a8bdbc1a02642dd09c38478b6b29a8bf9af656a21727ccbf937c7b"), looks := false }, kinds := [], alts := [], laidByText := true, laidKinds := [.data, .data], laidTests := true, laidLooks := .later }
def FnMacsCardSaid : Prop := Claim7.holds Tryd.pinned (.plain (OpenSpec.ofChange fnMacsSpec)) fnMacsCard

/-- THE TIED CARD OF 'laws.FnTagTurned'. -/
def fnTagTurnedCard : Claim7 := { stood := { row := fnTagTurnedRow, standIns := [], harness := (true, "8f95415dd1a8bdbc1a02642dd09c38478b6b29a8bf9af656a21727ccbf937c7b"), looks := false }, kinds := [], alts := [], laidByText := true, laidKinds := [.data, .data], laidTests := true, laidLooks := .later }
def FnTagTurnedCardSaid : Prop := Claim7.holds Tryd.pinned (.plain (OpenSpec.ofChange fnTagTurnedSpec)) fnTagTurnedCard

/-- THE SECOND FORM's CARD OF 'laws.FnExactSha256'. -/
def fnExactSha256UptoCard : Claim7 := { stood := { row := fnExactSha256UptoRow, standIns := [], harness := (true, "8f95415dd1a8bdbc1a02642dd09c38478b6b29a8bf9af656a21727ccbf937c7b"), looks := false }, kinds := [], alts := [], laidByText := true, laidKinds := [.data, .data], laidTests := true, laidLooks := .later }
def FnExactSha256UptoCardSaid : Prop := Claim7.holds Tryd.pinned (.plain (OpenSpec.upto fnExactSha256Spec)) fnExactSha256UptoCard

/-- THE SECOND FORM's CARD OF 'laws.FnExactHmac'. -/
def fnExactHmacUptoCard : Claim7 := { stood := { row := fnExactHmacUptoRow, standIns := [], harness := (true, "8f95415dd1a8bdbc1a02642dd09c38478b6b29a8bf9af656a21727ccbf937c7b"), looks := false }, kinds := [], alts := [], laidByText := true, laidKinds := [.data, .data], laidTests := true, laidLooks := .later }
def FnExactHmacUptoCardSaid : Prop := Claim7.holds Tryd.pinned (.plain (OpenSpec.upto fnExactHmacSpec)) fnExactHmacUptoCard

/-- THE SECOND FORM's CARD OF 'laws.FnExactMacText'. -/
def fnExactMacTextUptoCard : Claim7 := { stood := { row := fnExactMacTextUptoRow, standIns := [], harness := (true, "8f95415dd1a8bdbc1a02642dd09c38478b6b29a8bf9af656a21727ccbf937c7b"), looks := false }, kinds := [], alts := [], laidByText := true, laidKinds := [.data, .data], laidTests := true, laidLooks := .later }
def FnExactMacTextUptoCardSaid : Prop := Claim7.holds Tryd.pinned (.plain (OpenSpec.upto fnExactMacTextSpec)) fnExactMacTextUptoCard

/-- THE SECOND FORM's CARD OF 'laws.FnExactReadMac'. -/
def fnExactReadMacUptoCard : Claim7 := { stood := { row := fnExactReadMacUptoRow, standIns := [], harness := (true, "8f95415dd1a8bdbc1a02642dd09c38478b6b29a8bf9af656a21727ccbf937c7b"), looks := false }, kinds := [], alts := [], laidByText := true, laidKinds := [.data, .data], laidTests := true, laidLooks := .later }
def FnExactReadMacUptoCardSaid : Prop := Claim7.holds Tryd.pinned (.plain (OpenSpec.upto fnExactReadMacSpec)) fnExactReadMacUptoCard

/-- THE SECOND FORM's CARD OF 'laws.FnSha'. -/
def fnShaUptoCard : Claim7 := { stood := { row := fnShaUptoRow, standIns := [], harness := (true, "8f95415dd1a8bdbc1a02642dd09c38478b6b29a8bf9af656a21727ccbf937c7b"), looks := false }, kinds := [], alts := [], laidByText := true, laidKinds := [.data, .data], laidTests := true, laidLooks := .later }
def FnShaUptoCardSaid : Prop := Claim7.holds Tryd.pinned (.plain (OpenSpec.upto fnShaSpec)) fnShaUptoCard

/-- THE SECOND FORM's CARD OF 'laws.FnMacs'. -/
def fnMacsUptoCard : Claim7 := { stood := { row := fnMacsUptoRow, standIns := [], harness := (true, "8f95415dd1a8bdbc1a02642dd09c38478b6b29a8bf9af656a21727ccbf937c7b"), looks := false }, kinds := [], alts := [], laidByText := true, laidKinds := [.data, .data], laidTests := true, laidLooks := .later }
def FnMacsUptoCardSaid : Prop := Claim7.holds Tryd.pinned (.plain (OpenSpec.upto fnMacsSpec)) fnMacsUptoCard

/-- THE SECOND FORM's CARD OF 'laws.FnTagTurned'. -/
def fnTagTurnedUptoCard : Claim7 := { stood := { row := fnTagTurnedUptoRow, standIns := [], harness := (true, "8f95415dd1a8bdbc1a02642dd09c38478b6b29a8bf9af656a21727ccbf937c7b"), looks := false }, kinds := [], alts := [], laidByText := true, laidKinds := [.data, .data], laidTests := true, laidLooks := .later }
def FnTagTurnedUptoCardSaid : Prop := Claim7.holds Tryd.pinned (.plain (OpenSpec.upto fnTagTurnedSpec)) fnTagTurnedUptoCard
end Rows
end Go.Proofs.YtphmlpdohkfpiaaDoor
