/-
  DERIVED. GIVEN WITH THE SEED: THE CARDS: each row of YtbabkpcefpacpaaDoorRows.lean that lists a variable, with what it lists TIED to the program's text (the seventh form; the later family's looks); each row that meets fmt, with fmt's text TOLD by the authors' own Lean function (tested against real Go, not proved from fmt's source: count such statements apart). THE CARD IS WHAT COUNTS. Prove the row's statement (the work); the ties are given (YtbabkpcefpacpaaDoorTie.lean); close each card by the builder's one call (the guide's Derived/Test/ToyasCard.lean, 'card_holds'). Laid BY PROGRAM, IN A SANDBOX (cutbox-door.mjs). By AI agents, Wed Nov 11 2026. No macro, syntax, notation, axiom, sorry.
-/
import Derived.Test.YtbabkpcefpacpaaDoorRows
import GoSem.ClaimSeven
namespace Go.Proofs.YtbabkpcefpacpaaDoor
namespace Rows

/-- THE TIED CARD OF 'laws.FnExactSampleOk'. -/
def fnExactSampleOkCard : Claim7 := { stood := { row := fnExactSampleOkRow, standIns := [], harness := (true, "55904f82c41b5689c97d10c5fbdf7784d88543812d38d3926a11170c34e05558"), looks := true }, kinds := [], alts := [], laidByText := true, laidKinds := [.handle, .sentinel, .sentinel, .sentinel], laidTests := true, laidLooks := .later }
def FnExactSampleOkCardSaid : Prop := Claim7.holds Tryd.pinned (.plain (OpenSpec.ofChange fnExactSampleOkSpec)) fnExactSampleOkCard

/-- THE TIED CARD OF 'laws.FnExactSampleOf'. -/
def fnExactSampleOfCard : Claim7 := { stood := { row := fnExactSampleOfRow, standIns := [], harness := (true, "55904f82c41b5689c97d10c5fbdf7784d88543812d38d3926a11170c34e05558"), looks := true }, kinds := [], alts := [], laidByText := true, laidKinds := [.handle, .sentinel, .sentinel, .sentinel, .sentinel], laidTests := true, laidLooks := .later }
def FnExactSampleOfCardSaid : Prop := Claim7.holds Tryd.pinned (.plain (OpenSpec.ofChange fnExactSampleOfSpec)) fnExactSampleOfCard

/-- THE TIED CARD OF 'laws.FnExactAged'. -/
def fnExactAgedCard : Claim7 := { stood := { row := fnExactAgedRow, standIns := [], harness := (true, "55904f82c41b5689c97d10c5fbdf7784d88543812d38d3926a11170c34e05558"), looks := true }, kinds := [], alts := [], laidByText := true, laidKinds := [.handle, .sentinel, .sentinel, .sentinel, .sentinel], laidTests := true, laidLooks := .later }
def FnExactAgedCardSaid : Prop := Claim7.holds Tryd.pinned (.plain (OpenSpec.ofChange fnExactAgedSpec)) fnExactAgedCard

/-- THE TIED CARD OF 'laws.FnExactReach'. -/
def fnExactReachCard : Claim7 := { stood := { row := fnExactReachRow, standIns := [], harness := (true, "55904f82c41b5689c97d10c5fbdf7784d88543812d38d3926a11170c34e05558"), looks := true }, kinds := [], alts := [], laidByText := true, laidKinds := [.handle, .sentinel, .sentinel, .sentinel], laidTests := true, laidLooks := .later }
def FnExactReachCardSaid : Prop := Claim7.holds Tryd.pinned (.plain (OpenSpec.ofChange fnExactReachSpec)) fnExactReachCard

/-- THE TIED CARD OF 'laws.FnSamples'. -/
def fnSamplesCard : Claim7 := { stood := { row := fnSamplesRow, standIns := [], harness := (true, "55904f82c41b5689c97d10c5fbdf7784d88543812d38d3926a11170c34e05558"), looks := true }, kinds := [], alts := [], laidByText := true, laidKinds := [.handle, .sentinel, .sentinel, .sentinel, .sentinel], laidTests := true, laidLooks := .later }
def FnSamplesCardSaid : Prop := Claim7.holds Tryd.pinned (.plain (OpenSpec.ofChange fnSamplesSpec)) fnSamplesCard

/-- THE TIED CARD OF 'laws.FnBound'. -/
def fnBoundCard : Claim7 := { stood := { row := fnBoundRow, standIns := [], harness := (true, "55904f82c41b5689c97d10c5fbdf7784d88543812d38d3926a11170c34e05558"), looks := true }, kinds := [], alts := [], laidByText := true, laidKinds := [.handle, .sentinel, .sentinel, .sentinel, .sentinel], laidTests := true, laidLooks := .later }
def FnBoundCardSaid : Prop := Claim7.holds Tryd.pinned (.plain (OpenSpec.ofChange fnBoundSpec)) fnBoundCard

/-- THE TIED CARD OF 'laws.FnAged'. -/
def fnAgedCard : Claim7 := { stood := { row := fnAgedRow, standIns := [], harness := (true, "55904f82c41b5689c97d10c5fbdf7784d88543812d38d3926a11170c34e05558"), looks := true }, kinds := [], alts := [], laidByText := true, laidKinds := [.handle, .sentinel, .sentinel, .sentinel, .sentinel], laidTests := true, laidLooks := .later }
def FnAgedCardSaid : Prop := Claim7.holds Tryd.pinned (.plain (OpenSpec.ofChange fnAgedSpec)) fnAgedCard

/-- THE TIED CARD OF 'laws.FnMovedSample'. -/
def fnMovedSampleCard : Claim7 := { stood := { row := fnMovedSampleRow, standIns := [], harness := (true, "55904f82c41b5689c97d10c5fbdf7784d88543812d38d3926a11170c34e05558"), looks := true }, kinds := [], alts := [], laidByText := true, laidKinds := [.handle, .sentinel, .sentinel, .sentinel, .sentinel], laidTests := true, laidLooks := .later }
def FnMovedSampleCardSaid : Prop := Claim7.holds Tryd.pinned (.plain (OpenSpec.ofChange fnMovedSampleSpec)) fnMovedSampleCard

/-- THE TIED CARD OF 'laws.FnStay'. -/
def fnStayCard : Claim7 := { stood := { row := fnStayRow, standIns := [], harness := (true, "55904f82c41b5689c97d10c5fbdf7784d88543812d38d3926a11170c34e05558"), looks := true }, kinds := [], alts := [], laidByText := true, laidKinds := [.handle, .sentinel, .sentinel, .sentinel, .sentinel], laidTests := true, laidLooks := .later }
def FnStayCardSaid : Prop := Claim7.holds Tryd.pinned (.plain (OpenSpec.ofChange fnStaySpec)) fnStayCard

/-- THE TIED CARD OF 'laws.FnAskedBack'. -/
def fnAskedBackCard : Claim7 := { stood := { row := fnAskedBackRow, standIns := [], harness := (true, "55904f82c41b5689c97d10c5fbdf7784d88543812d38d3926a11170c34e05558"), looks := true }, kinds := [], alts := [], laidByText := true, laidKinds := [.handle, .sentinel, .sentinel, .sentinel, .sentinel], laidTests := true, laidLooks := .later }
def FnAskedBackCardSaid : Prop := Claim7.holds Tryd.pinned (.plain (OpenSpec.ofChange fnAskedBackSpec)) fnAskedBackCard

/-- THE TIED CARD OF 'laws.FnReachMore'. -/
def fnReachMoreCard : Claim7 := { stood := { row := fnReachMoreRow, standIns := [], harness := (true, "55904f82c41b5689c97d10c5fbdf7784d88543812d38d3926a11170c34e05558"), looks := true }, kinds := [], alts := [], laidByText := true, laidKinds := [.handle, .sentinel, .sentinel, .sentinel], laidTests := true, laidLooks := .later }
def FnReachMoreCardSaid : Prop := Claim7.holds Tryd.pinned (.plain (OpenSpec.ofChange fnReachMoreSpec)) fnReachMoreCard

/-- THE SECOND FORM's CARD OF 'laws.FnExactSampleOk'. -/
def fnExactSampleOkUptoCard : Claim7 := { stood := { row := fnExactSampleOkUptoRow, standIns := [], harness := (true, "55904f82c41b5689c97d10c5fbdf7784d88543812d38d3926a11170c34e05558"), looks := true }, kinds := [], alts := [], laidByText := true, laidKinds := [.handle, .sentinel, .sentinel, .sentinel], laidTests := true, laidLooks := .later }
def FnExactSampleOkUptoCardSaid : Prop := Claim7.holds Tryd.pinned (.plain (OpenSpec.upto fnExactSampleOkSpec)) fnExactSampleOkUptoCard

/-- THE SECOND FORM's CARD OF 'laws.FnExactSampleOf'. -/
def fnExactSampleOfUptoCard : Claim7 := { stood := { row := fnExactSampleOfUptoRow, standIns := [], harness := (true, "55904f82c41b5689c97d10c5fbdf7784d88543812d38d3926a11170c34e05558"), looks := true }, kinds := [], alts := [], laidByText := true, laidKinds := [.handle, .sentinel, .sentinel, .sentinel, .sentinel], laidTests := true, laidLooks := .later }
def FnExactSampleOfUptoCardSaid : Prop := Claim7.holds Tryd.pinned (.plain (OpenSpec.upto fnExactSampleOfSpec)) fnExactSampleOfUptoCard

/-- THE SECOND FORM's CARD OF 'laws.FnExactAged'. -/
def fnExactAgedUptoCard : Claim7 := { stood := { row := fnExactAgedUptoRow, standIns := [], harness := (true, "55904f82c41b5689c97d10c5fbdf7784d88543812d38d3926a11170c34e05558"), looks := true }, kinds := [], alts := [], laidByText := true, laidKinds := [.handle, .sentinel, .sentinel, .sentinel, .sentinel], laidTests := true, laidLooks := .later }
def FnExactAgedUptoCardSaid : Prop := Claim7.holds Tryd.pinned (.plain (OpenSpec.upto fnExactAgedSpec)) fnExactAgedUptoCard

/-- THE SECOND FORM's CARD OF 'laws.FnExactReach'. -/
def fnExactReachUptoCard : Claim7 := { stood := { row := fnExactReachUptoRow, standIns := [], harness := (true, "55904f82c41b5689c97d10c5fbdf7784d88543812d38d3926a11170c34e05558"), looks := true }, kinds := [], alts := [], laidByText := true, laidKinds := [.handle, .sentinel, .sentinel, .sentinel], laidTests := true, laidLooks := .later }
def FnExactReachUptoCardSaid : Prop := Claim7.holds Tryd.pinned (.plain (OpenSpec.upto fnExactReachSpec)) fnExactReachUptoCard

/-- THE SECOND FORM's CARD OF 'laws.FnSamples'. -/
def fnSamplesUptoCard : Claim7 := { stood := { row := fnSamplesUptoRow, standIns := [], harness := (true, "55904f82c41b5689c97d10c5fbdf7784d88543812d38d3926a11170c34e05558"), looks := true }, kinds := [], alts := [], laidByText := true, laidKinds := [.handle, .sentinel, .sentinel, .sentinel, .sentinel], laidTests := true, laidLooks := .later }
def FnSamplesUptoCardSaid : Prop := Claim7.holds Tryd.pinned (.plain (OpenSpec.upto fnSamplesSpec)) fnSamplesUptoCard

/-- THE SECOND FORM's CARD OF 'laws.FnBound'. -/
def fnBoundUptoCard : Claim7 := { stood := { row := fnBoundUptoRow, standIns := [], harness := (true, "55904f82c41b5689c97d10c5fbdf7784d88543812d38d3926a11170c34e05558"), looks := true }, kinds := [], alts := [], laidByText := true, laidKinds := [.handle, .sentinel, .sentinel, .sentinel, .sentinel], laidTests := true, laidLooks := .later }
def FnBoundUptoCardSaid : Prop := Claim7.holds Tryd.pinned (.plain (OpenSpec.upto fnBoundSpec)) fnBoundUptoCard

/-- THE SECOND FORM's CARD OF 'laws.FnAged'. -/
def fnAgedUptoCard : Claim7 := { stood := { row := fnAgedUptoRow, standIns := [], harness := (true, "55904f82c41b5689c97d10c5fbdf7784d88543812d38d3926a11170c34e05558"), looks := true }, kinds := [], alts := [], laidByText := true, laidKinds := [.handle, .sentinel, .sentinel, .sentinel, .sentinel], laidTests := true, laidLooks := .later }
def FnAgedUptoCardSaid : Prop := Claim7.holds Tryd.pinned (.plain (OpenSpec.upto fnAgedSpec)) fnAgedUptoCard

/-- THE SECOND FORM's CARD OF 'laws.FnMovedSample'. -/
def fnMovedSampleUptoCard : Claim7 := { stood := { row := fnMovedSampleUptoRow, standIns := [], harness := (true, "55904f82c41b5689c97d10c5fbdf7784d88543812d38d3926a11170c34e05558"), looks := true }, kinds := [], alts := [], laidByText := true, laidKinds := [.handle, .sentinel, .sentinel, .sentinel, .sentinel], laidTests := true, laidLooks := .later }
def FnMovedSampleUptoCardSaid : Prop := Claim7.holds Tryd.pinned (.plain (OpenSpec.upto fnMovedSampleSpec)) fnMovedSampleUptoCard

/-- THE SECOND FORM's CARD OF 'laws.FnStay'. -/
def fnStayUptoCard : Claim7 := { stood := { row := fnStayUptoRow, standIns := [], harness := (true, "55904f82c41b5689c97d10c5fbdf7784d88543812d38d3926a11170c34e05558"), looks := true }, kinds := [], alts := [], laidByText := true, laidKinds := [.handle, .sentinel, .sentinel, .sentinel, .sentinel], laidTests := true, laidLooks := .later }
def FnStayUptoCardSaid : Prop := Claim7.holds Tryd.pinned (.plain (OpenSpec.upto fnStaySpec)) fnStayUptoCard

/-- THE SECOND FORM's CARD OF 'laws.FnAskedBack'. -/
def fnAskedBackUptoCard : Claim7 := { stood := { row := fnAskedBackUptoRow, standIns := [], harness := (true, "55904f82c41b5689c97d10c5fbdf7784d88543812d38d3926a11170c34e05558"), looks := true }, kinds := [], alts := [], laidByText := true, laidKinds := [.handle, .sentinel, .sentinel, .sentinel, .sentinel], laidTests := true, laidLooks := .later }
def FnAskedBackUptoCardSaid : Prop := Claim7.holds Tryd.pinned (.plain (OpenSpec.upto fnAskedBackSpec)) fnAskedBackUptoCard

/-- THE SECOND FORM's CARD OF 'laws.FnReachMore'. -/
def fnReachMoreUptoCard : Claim7 := { stood := { row := fnReachMoreUptoRow, standIns := [], harness := (true, "55904f82c41b5689c97d10c5fbdf7784d88543812d38d3926a11170c34e05558"), looks := true }, kinds := [], alts := [], laidByText := true, laidKinds := [.handle, .sentinel, .sentinel, .sentinel], laidTests := true, laidLooks := .later }
def FnReachMoreUptoCardSaid : Prop := Claim7.holds Tryd.pinned (.plain (OpenSpec.upto fnReachMoreSpec)) fnReachMoreUptoCard
end Rows
end Go.Proofs.YtbabkpcefpacpaaDoor
