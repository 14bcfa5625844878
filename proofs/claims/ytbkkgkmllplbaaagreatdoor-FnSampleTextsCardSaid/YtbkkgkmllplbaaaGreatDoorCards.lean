/-
  DERIVED. GIVEN WITH THE SEED: THE CARDS: each row of YtbkkgkmllplbaaaGreatDoorRows.lean that lists a variable, with what it lists TIED to the program's text (the seventh form; the later family's looks); each row that meets fmt, with fmt's text TOLD by the authors' own Lean function (tested against real Go, not proved from fmt's source: count such statements apart). THE CARD IS WHAT COUNTS. Prove the row's statement (the work); the ties are given (YtbkkgkmllplbaaaGreatDoorTie.lean); close each card by the builder's one call (the guide's Derived/Test/ToyasCard.lean, 'card_holds'). Laid BY PROGRAM, IN A SANDBOX (cutbox-door.mjs). By AI agents, Wed Nov 11 2026. No macro, syntax, notation, axiom, sorry.
-/
import Derived.Test.YtbkkgkmllplbaaaGreatDoorRows
import GoSem.ClaimSeven
namespace Go.Proofs.YtbkkgkmllplbaaaGreatDoor
namespace Rows

/-- THE TIED CARD OF 'laws.FnExactReadSample'. -/
def fnExactReadSampleCard : Claim7 := { stood := { row := fnExactReadSampleRow, standIns := [], harness := (true, "d4994eb067664d7cae4b03442a7cda2f6581e46681b6698f6f84d3255252db44"), looks := true }, kinds := [], alts := [], laidByText := true, laidKinds := [.data, .data, .data, .data, .handle, .sentinel, .sentinel, .sentinel, .sentinel, .sentinel, .pinned], laidTests := true, laidLooks := .later }
def FnExactReadSampleCardSaid : Prop := Claim7.holds Tryz.pinned (.plain (OpenSpec.ofChange fnExactReadSampleSpec)) fnExactReadSampleCard

/-- THE TIED CARD OF 'laws.FnSampleTexts'. -/
def fnSampleTextsCard : Claim7 := { stood := { row := fnSampleTextsRow, standIns := [], harness := (true, "d4994eb067664d7cae4b03442a7cda2f6581e46681b6698f6f84d3255252db44"), looks := true }, kinds := [], alts := [], laidByText := true, laidKinds := [.data, .data, .data, .data, .handle, .sentinel, .sentinel, .sentinel, .sentinel, .sentinel, .pinned], laidTests := true, laidLooks := .later }
def FnSampleTextsCardSaid : Prop := Claim7.holds Tryz.pinned (.plain (OpenSpec.ofChange fnSampleTextsSpec)) fnSampleTextsCard

/-- THE SECOND FORM's CARD OF 'laws.FnExactReadSample'. -/
def fnExactReadSampleUptoCard : Claim7 := { stood := { row := fnExactReadSampleUptoRow, standIns := [], harness := (true, "d4994eb067664d7cae4b03442a7cda2f6581e46681b6698f6f84d3255252db44"), looks := true }, kinds := [], alts := [], laidByText := true, laidKinds := [.data, .data, .data, .data, .handle, .sentinel, .sentinel, .sentinel, .sentinel, .sentinel, .pinned], laidTests := true, laidLooks := .later }
def FnExactReadSampleUptoCardSaid : Prop := Claim7.holds Tryz.pinned (.plain (OpenSpec.upto fnExactReadSampleSpec)) fnExactReadSampleUptoCard

/-- THE SECOND FORM's CARD OF 'laws.FnSampleTexts'. -/
def fnSampleTextsUptoCard : Claim7 := { stood := { row := fnSampleTextsUptoRow, standIns := [], harness := (true, "d4994eb067664d7cae4b03442a7cda2f6581e46681b6698f6f84d3255252db44"), looks := true }, kinds := [], alts := [], laidByText := true, laidKinds := [.data, .data, .data, .data, .handle, .sentinel, .sentinel, .sentinel, .sentinel, .sentinel, .pinned], laidTests := true, laidLooks := .later }
def FnSampleTextsUptoCardSaid : Prop := Claim7.holds Tryz.pinned (.plain (OpenSpec.upto fnSampleTextsSpec)) fnSampleTextsUptoCard
end Rows
end Go.Proofs.YtbkkgkmllplbaaaGreatDoor
