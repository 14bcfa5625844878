/-
  DERIVED. GIVEN WITH THE SEED: THE CARDS: each row of YtohcebiepekbeaaGreatDoorRows.lean that lists a variable, with what it lists TIED to the program's text (the seventh form; the later family's looks); each row that meets fmt, with fmt's text TOLD by the authors' own Lean function (tested against real Go, not proved from fmt's source: count such statements apart). THE CARD IS WHAT COUNTS. Prove the row's statement (the work); the ties are given (YtohcebiepekbeaaGreatDoorTie.lean); close each card by the builder's one call (the guide's Derived/Test/ToyasCard.lean, 'card_holds'). Laid BY PROGRAM, IN A SANDBOX (cutbox-door.mjs). By AI agents, Wed Nov 11 2026. No macro, syntax, notation, axiom, sorry.
-/
import Derived.Test.YtohcebiepekbeaaGreatDoorRows
import GoSem.ClaimSeven
namespace Go.Proofs.YtohcebiepekbeaaGreatDoor
namespace Rows

/-- THE TIED CARD OF 'laws.FnExactReadSample'. -/
def fnExactReadSampleCard : Claim7 := { stood := { row := fnExactReadSampleRow, standIns := [], harness := (true, "544d1f26ab9fd231cfbc6816fa3a6acad70db9fdfe868e4daf68186d4317c363"), looks := true }, kinds := [], alts := [], laidByText := true, laidKinds := [.data, .data, .data, .data, .handle, .sentinel, .sentinel, .sentinel, .sentinel, .sentinel, .pinned], laidTests := true, laidLooks := .later }
def FnExactReadSampleCardSaid : Prop := Claim7.holds Tryz.pinned (.plain (OpenSpec.ofChange fnExactReadSampleSpec)) fnExactReadSampleCard

/-- THE TIED CARD OF 'laws.FnSampleTexts'. -/
def fnSampleTextsCard : Claim7 := { stood := { row := fnSampleTextsRow, standIns := [], harness := (true, "544d1f26ab9fd231cfbc6816fa3a6acad70db9fdfe868e4daf68186d4317c363"), looks := true }, kinds := [], alts := [], laidByText := true, laidKinds := [.data, .data, .data, .data, .handle, .sentinel, .sentinel, .sentinel, .sentinel, .sentinel, .pinned], laidTests := true, laidLooks := .later }
def FnSampleTextsCardSaid : Prop := Claim7.holds Tryz.pinned (.plain (OpenSpec.ofChange fnSampleTextsSpec)) fnSampleTextsCard

/-- THE TIED CARD OF 'laws.FnExactChosen'. -/
def fnExactChosenCard : Claim7 := { stood := { row := fnExactChosenRow, standIns := [], harness := (true, "544d1f26ab9fd231cfbc6816fa3a6acad70db9fdfe868e4daf68186d4317c363"), looks := true }, kinds := [], alts := [], laidByText := true, laidKinds := [.handle, .sentinel, .sentinel, .sentinel], laidTests := true, laidLooks := .later }
def FnExactChosenCardSaid : Prop := Claim7.holds Tryz.pinned (.plain (OpenSpec.ofChange fnExactChosenSpec)) fnExactChosenCard

/-- THE TIED CARD OF 'laws.FnChosen'. -/
def fnChosenCard : Claim7 := { stood := { row := fnChosenRow, standIns := [], harness := (true, "544d1f26ab9fd231cfbc6816fa3a6acad70db9fdfe868e4daf68186d4317c363"), looks := true }, kinds := [], alts := [], laidByText := true, laidKinds := [.handle, .sentinel, .sentinel, .sentinel], laidTests := true, laidLooks := .later }
def FnChosenCardSaid : Prop := Claim7.holds Tryz.pinned (.plain (OpenSpec.ofChange fnChosenSpec)) fnChosenCard

/-- THE TIED CARD OF 'laws.FnAlone'. -/
def fnAloneCard : Claim7 := { stood := { row := fnAloneRow, standIns := [], harness := (true, "544d1f26ab9fd231cfbc6816fa3a6acad70db9fdfe868e4daf68186d4317c363"), looks := true }, kinds := [], alts := [], laidByText := true, laidKinds := [.handle, .sentinel, .sentinel, .sentinel], laidTests := true, laidLooks := .later }
def FnAloneCardSaid : Prop := Claim7.holds Tryz.pinned (.plain (OpenSpec.ofChange fnAloneSpec)) fnAloneCard

/-- THE SECOND FORM's CARD OF 'laws.FnExactReadSample'. -/
def fnExactReadSampleUptoCard : Claim7 := { stood := { row := fnExactReadSampleUptoRow, standIns := [], harness := (true, "544d1f26ab9fd231cfbc6816fa3a6acad70db9fdfe868e4daf68186d4317c363"), looks := true }, kinds := [], alts := [], laidByText := true, laidKinds := [.data, .data, .data, .data, .handle, .sentinel, .sentinel, .sentinel, .sentinel, .sentinel, .pinned], laidTests := true, laidLooks := .later }
def FnExactReadSampleUptoCardSaid : Prop := Claim7.holds Tryz.pinned (.plain (OpenSpec.upto fnExactReadSampleSpec)) fnExactReadSampleUptoCard

/-- THE SECOND FORM's CARD OF 'laws.FnSampleTexts'. -/
def fnSampleTextsUptoCard : Claim7 := { stood := { row := fnSampleTextsUptoRow, standIns := [], harness := (true, "544d1f26ab9fd231cfbc6816fa3a6acad70db9fdfe868e4daf68186d4317c363"), looks := true }, kinds := [], alts := [], laidByText := true, laidKinds := [.data, .data, .data, .data, .handle, .sentinel, .sentinel, .sentinel, .sentinel, .sentinel, .pinned], laidTests := true, laidLooks := .later }
def FnSampleTextsUptoCardSaid : Prop := Claim7.holds Tryz.pinned (.plain (OpenSpec.upto fnSampleTextsSpec)) fnSampleTextsUptoCard

/-- THE SECOND FORM's CARD OF 'laws.FnExactChosen'. -/
def fnExactChosenUptoCard : Claim7 := { stood := { row := fnExactChosenUptoRow, standIns := [], harness := (true, "544d1f26ab9fd231cfbc6816fa3a6acad70db9fdfe868e4daf68186d4317c363"), looks := true }, kinds := [], alts := [], laidByText := true, laidKinds := [.handle, .sentinel, .sentinel, .sentinel], laidTests := true, laidLooks := .later }
def FnExactChosenUptoCardSaid : Prop := Claim7.holds Tryz.pinned (.plain (OpenSpec.upto fnExactChosenSpec)) fnExactChosenUptoCard

/-- THE SECOND FORM's CARD OF 'laws.FnChosen'. -/
def fnChosenUptoCard : Claim7 := { stood := { row := fnChosenUptoRow, standIns := [], harness := (true, "544d1f26ab9fd231cfbc6816fa3a6acad70db9fdfe868e4daf68186d4317c363"), looks := true }, kinds := [], alts := [], laidByText := true, laidKinds := [.handle, .sentinel, .sentinel, .sentinel], laidTests := true, laidLooks := .later }
def FnChosenUptoCardSaid : Prop := Claim7.holds Tryz.pinned (.plain (OpenSpec.upto fnChosenSpec)) fnChosenUptoCard

/-- THE SECOND FORM's CARD OF 'laws.FnAlone'. -/
def fnAloneUptoCard : Claim7 := { stood := { row := fnAloneUptoRow, standIns := [], harness := (true, "544d1f26ab9fd231cfbc6816fa3a6acad70db9fdfe868e4daf68186d4317c363"), looks := true }, kinds := [], alts := [], laidByText := true, laidKinds := [.handle, .sentinel, .sentinel, .sentinel], laidTests := true, laidLooks := .later }
def FnAloneUptoCardSaid : Prop := Claim7.holds Tryz.pinned (.plain (OpenSpec.upto fnAloneSpec)) fnAloneUptoCard
end Rows
end Go.Proofs.YtohcebiepekbeaaGreatDoor
