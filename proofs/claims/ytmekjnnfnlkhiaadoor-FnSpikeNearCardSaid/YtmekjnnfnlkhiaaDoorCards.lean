/-
  DERIVED. GIVEN WITH THE SEED: THE CARDS: each row of YtmekjnnfnlkhiaaDoorRows.lean that lists a variable, with what it lists TIED to the program's text (the seventh form; the later family's looks); each row that meets fmt, with fmt's text TOLD by the authors' own Lean function (tested against real Go, not proved from fmt's source: count such statements apart). THE CARD IS WHAT COUNTS. Prove the row's statement (the work); the ties are given (YtmekjnnfnlkhiaaDoorTie.lean); close each card by the builder's one call (the guide's Derived/Test/ToyasCard.lean, 'card_holds'). Laid BY PROGRAM, IN A SANDBOX (cutbox-door.mjs). By AI agents, Wed Nov 11 2026. No macro, syntax, notation, axiom, sorry.
-/
import Derived.Test.YtmekjnnfnlkhiaaDoorRows
import GoSem.ClaimSeven
namespace Go.Proofs.YtmekjnnfnlkhiaaDoor
namespace Rows

/-- THE TIED CARD OF 'laws.FnFilter'. -/
def fnFilterCard : Claim7 := { stood := { row := fnFilterRow, standIns := [], harness := (true, "f17083603148f3234f97d8eebc587e238c4b8c2510715c59eed690493f77d2fa"), looks := true }, kinds := [], alts := [], laidByText := true, laidKinds := [.handle, .sentinel, .sentinel, .sentinel], laidTests := true, laidLooks := .later }
def FnFilterCardSaid : Prop := Claim7.holds Tryd.pinned (.plain (OpenSpec.ofChange fnFilterSpec)) fnFilterCard

/-- THE TIED CARD OF 'laws.FnBest'. -/
def fnBestCard : Claim7 := { stood := { row := fnBestRow, standIns := [], harness := (true, "f17083603148f3234f97d8eebc587e238c4b8c2510715c59eed690493f77d2fa"), looks := true }, kinds := [], alts := [], laidByText := true, laidKinds := [.handle, .sentinel, .sentinel, .sentinel], laidTests := true, laidLooks := .later }
def FnBestCardSaid : Prop := Claim7.holds Tryd.pinned (.plain (OpenSpec.ofChange fnBestSpec)) fnBestCard

/-- THE TIED CARD OF 'laws.FnJitter'. -/
def fnJitterCard : Claim7 := { stood := { row := fnJitterRow, standIns := [], harness := (true, "f17083603148f3234f97d8eebc587e238c4b8c2510715c59eed690493f77d2fa"), looks := true }, kinds := [], alts := [], laidByText := true, laidKinds := [.handle, .sentinel, .sentinel, .sentinel], laidTests := true, laidLooks := .later }
def FnJitterCardSaid : Prop := Claim7.holds Tryd.pinned (.plain (OpenSpec.ofChange fnJitterSpec)) fnJitterCard

/-- THE TIED CARD OF 'laws.FnFilterLast'. -/
def fnFilterLastCard : Claim7 := { stood := { row := fnFilterLastRow, standIns := [], harness := (true, "f17083603148f3234f97d8eebc587e238c4b8c2510715c59eed690493f77d2fa"), looks := true }, kinds := [], alts := [], laidByText := true, laidKinds := [.handle, .sentinel, .sentinel, .sentinel], laidTests := true, laidLooks := .later }
def FnFilterLastCardSaid : Prop := Claim7.holds Tryd.pinned (.plain (OpenSpec.ofChange fnFilterLastSpec)) fnFilterLastCard

/-- THE TIED CARD OF 'laws.FnSpikeNear'. -/
def fnSpikeNearCard : Claim7 := { stood := { row := fnSpikeNearRow, standIns := [], harness := (true, "f17083603148f3234f97d8eebc587e238c4b8c2510715c59eed690493f77d2fa"), looks := true }, kinds := [], alts := [], laidByText := true, laidKinds := [.handle, .sentinel, .sentinel, .sentinel], laidTests := true, laidLooks := .later }
def FnSpikeNearCardSaid : Prop := Claim7.holds Tryd.pinned (.plain (OpenSpec.ofChange fnSpikeNearSpec)) fnSpikeNearCard

/-- THE TIED CARD OF 'laws.FnExactFilterOk'. -/
def fnExactFilterOkCard : Claim7 := { stood := { row := fnExactFilterOkRow, standIns := [], harness := (true, "f17083603148f3234f97d8eebc587e238c4b8c2510715c59eed690493f77d2fa"), looks := true }, kinds := [], alts := [], laidByText := true, laidKinds := [.handle, .sentinel, .sentinel, .sentinel], laidTests := true, laidLooks := .later }
def FnExactFilterOkCardSaid : Prop := Claim7.holds Tryd.pinned (.plain (OpenSpec.ofChange fnExactFilterOkSpec)) fnExactFilterOkCard

/-- THE TIED CARD OF 'laws.FnExactFilterAdd'. -/
def fnExactFilterAddCard : Claim7 := { stood := { row := fnExactFilterAddRow, standIns := [], harness := (true, "f17083603148f3234f97d8eebc587e238c4b8c2510715c59eed690493f77d2fa"), looks := true }, kinds := [], alts := [], laidByText := true, laidKinds := [.handle, .sentinel, .sentinel, .sentinel], laidTests := true, laidLooks := .later }
def FnExactFilterAddCardSaid : Prop := Claim7.holds Tryd.pinned (.plain (OpenSpec.ofChange fnExactFilterAddSpec)) fnExactFilterAddCard

/-- THE TIED CARD OF 'laws.FnExactBestOf'. -/
def fnExactBestOfCard : Claim7 := { stood := { row := fnExactBestOfRow, standIns := [], harness := (true, "f17083603148f3234f97d8eebc587e238c4b8c2510715c59eed690493f77d2fa"), looks := true }, kinds := [], alts := [], laidByText := true, laidKinds := [.handle, .sentinel, .sentinel, .sentinel], laidTests := true, laidLooks := .later }
def FnExactBestOfCardSaid : Prop := Claim7.holds Tryd.pinned (.plain (OpenSpec.ofChange fnExactBestOfSpec)) fnExactBestOfCard

/-- THE TIED CARD OF 'laws.FnExactJitterOf'. -/
def fnExactJitterOfCard : Claim7 := { stood := { row := fnExactJitterOfRow, standIns := [], harness := (true, "f17083603148f3234f97d8eebc587e238c4b8c2510715c59eed690493f77d2fa"), looks := true }, kinds := [], alts := [], laidByText := true, laidKinds := [.handle, .sentinel, .sentinel, .sentinel], laidTests := true, laidLooks := .later }
def FnExactJitterOfCardSaid : Prop := Claim7.holds Tryd.pinned (.plain (OpenSpec.ofChange fnExactJitterOfSpec)) fnExactJitterOfCard

/-- THE TIED CARD OF 'laws.FnExactPopcorn'. -/
def fnExactPopcornCard : Claim7 := { stood := { row := fnExactPopcornRow, standIns := [], harness := (true, "f17083603148f3234f97d8eebc587e238c4b8c2510715c59eed690493f77d2fa"), looks := true }, kinds := [], alts := [], laidByText := true, laidKinds := [.handle, .sentinel, .sentinel, .sentinel], laidTests := true, laidLooks := .later }
def FnExactPopcornCardSaid : Prop := Claim7.holds Tryd.pinned (.plain (OpenSpec.ofChange fnExactPopcornSpec)) fnExactPopcornCard

/-- THE SECOND FORM's CARD OF 'laws.FnFilter'. -/
def fnFilterUptoCard : Claim7 := { stood := { row := fnFilterUptoRow, standIns := [], harness := (true, "f17083603148f3234f97d8eebc587e238c4b8c2510715c59eed690493f77d2fa"), looks := true }, kinds := [], alts := [], laidByText := true, laidKinds := [.handle, .sentinel, .sentinel, .sentinel], laidTests := true, laidLooks := .later }
def FnFilterUptoCardSaid : Prop := Claim7.holds Tryd.pinned (.plain (OpenSpec.upto fnFilterSpec)) fnFilterUptoCard

/-- THE SECOND FORM's CARD OF 'laws.FnBest'. -/
def fnBestUptoCard : Claim7 := { stood := { row := fnBestUptoRow, standIns := [], harness := (true, "f17083603148f3234f97d8eebc587e238c4b8c2510715c59eed690493f77d2fa"), looks := true }, kinds := [], alts := [], laidByText := true, laidKinds := [.handle, .sentinel, .sentinel, .sentinel], laidTests := true, laidLooks := .later }
def FnBestUptoCardSaid : Prop := Claim7.holds Tryd.pinned (.plain (OpenSpec.upto fnBestSpec)) fnBestUptoCard

/-- THE SECOND FORM's CARD OF 'laws.FnJitter'. -/
def fnJitterUptoCard : Claim7 := { stood := { row := fnJitterUptoRow, standIns := [], harness := (true, "f17083603148f3234f97d8eebc587e238c4b8c2510715c59eed690493f77d2fa"), looks := true }, kinds := [], alts := [], laidByText := true, laidKinds := [.handle, .sentinel, .sentinel, .sentinel], laidTests := true, laidLooks := .later }
def FnJitterUptoCardSaid : Prop := Claim7.holds Tryd.pinned (.plain (OpenSpec.upto fnJitterSpec)) fnJitterUptoCard

/-- THE SECOND FORM's CARD OF 'laws.FnFilterLast'. -/
def fnFilterLastUptoCard : Claim7 := { stood := { row := fnFilterLastUptoRow, standIns := [], harness := (true, "f17083603148f3234f97d8eebc587e238c4b8c2510715c59eed690493f77d2fa"), looks := true }, kinds := [], alts := [], laidByText := true, laidKinds := [.handle, .sentinel, .sentinel, .sentinel], laidTests := true, laidLooks := .later }
def FnFilterLastUptoCardSaid : Prop := Claim7.holds Tryd.pinned (.plain (OpenSpec.upto fnFilterLastSpec)) fnFilterLastUptoCard

/-- THE SECOND FORM's CARD OF 'laws.FnSpikeNear'. -/
def fnSpikeNearUptoCard : Claim7 := { stood := { row := fnSpikeNearUptoRow, standIns := [], harness := (true, "f17083603148f3234f97d8eebc587e238c4b8c2510715c59eed690493f77d2fa"), looks := true }, kinds := [], alts := [], laidByText := true, laidKinds := [.handle, .sentinel, .sentinel, .sentinel], laidTests := true, laidLooks := .later }
def FnSpikeNearUptoCardSaid : Prop := Claim7.holds Tryd.pinned (.plain (OpenSpec.upto fnSpikeNearSpec)) fnSpikeNearUptoCard

/-- THE SECOND FORM's CARD OF 'laws.FnExactFilterOk'. -/
def fnExactFilterOkUptoCard : Claim7 := { stood := { row := fnExactFilterOkUptoRow, standIns := [], harness := (true, "f17083603148f3234f97d8eebc587e238c4b8c2510715c59eed690493f77d2fa"), looks := true }, kinds := [], alts := [], laidByText := true, laidKinds := [.handle, .sentinel, .sentinel, .sentinel], laidTests := true, laidLooks := .later }
def FnExactFilterOkUptoCardSaid : Prop := Claim7.holds Tryd.pinned (.plain (OpenSpec.upto fnExactFilterOkSpec)) fnExactFilterOkUptoCard

/-- THE SECOND FORM's CARD OF 'laws.FnExactFilterAdd'. -/
def fnExactFilterAddUptoCard : Claim7 := { stood := { row := fnExactFilterAddUptoRow, standIns := [], harness := (true, "f17083603148f3234f97d8eebc587e238c4b8c2510715c59eed690493f77d2fa"), looks := true }, kinds := [], alts := [], laidByText := true, laidKinds := [.handle, .sentinel, .sentinel, .sentinel], laidTests := true, laidLooks := .later }
def FnExactFilterAddUptoCardSaid : Prop := Claim7.holds Tryd.pinned (.plain (OpenSpec.upto fnExactFilterAddSpec)) fnExactFilterAddUptoCard

/-- THE SECOND FORM's CARD OF 'laws.FnExactBestOf'. -/
def fnExactBestOfUptoCard : Claim7 := { stood := { row := fnExactBestOfUptoRow, standIns := [], harness := (true, "f17083603148f3234f97d8eebc587e238c4b8c2510715c59eed690493f77d2fa"), looks := true }, kinds := [], alts := [], laidByText := true, laidKinds := [.handle, .sentinel, .sentinel, .sentinel], laidTests := true, laidLooks := .later }
def FnExactBestOfUptoCardSaid : Prop := Claim7.holds Tryd.pinned (.plain (OpenSpec.upto fnExactBestOfSpec)) fnExactBestOfUptoCard

/-- THE SECOND FORM's CARD OF 'laws.FnExactJitterOf'. -/
def fnExactJitterOfUptoCard : Claim7 := { stood := { row := fnExactJitterOfUptoRow, standIns := [], harness := (true, "f17083603148f3234f97d8eebc587e238c4b8c2510715c59eed690493f77d2fa"), looks := true }, kinds := [], alts := [], laidByText := true, laidKinds := [.handle, .sentinel, .sentinel, .sentinel], laidTests := true, laidLooks := .later }
def FnExactJitterOfUptoCardSaid : Prop := Claim7.holds Tryd.pinned (.plain (OpenSpec.upto fnExactJitterOfSpec)) fnExactJitterOfUptoCard

/-- THE SECOND FORM's CARD OF 'laws.FnExactPopcorn'. -/
def fnExactPopcornUptoCard : Claim7 := { stood := { row := fnExactPopcornUptoRow, standIns := [], harness := (true, "f17083603148f3234f97d8eebc587e238c4b8c2510715c59eed690493f77d2fa"), looks := true }, kinds := [], alts := [], laidByText := true, laidKinds := [.handle, .sentinel, .sentinel, .sentinel], laidTests := true, laidLooks := .later }
def FnExactPopcornUptoCardSaid : Prop := Claim7.holds Tryd.pinned (.plain (OpenSpec.upto fnExactPopcornSpec)) fnExactPopcornUptoCard
end Rows
end Go.Proofs.YtmekjnnfnlkhiaaDoor
