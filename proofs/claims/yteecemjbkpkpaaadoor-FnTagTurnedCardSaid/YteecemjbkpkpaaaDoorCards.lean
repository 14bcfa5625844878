/-
  DERIVED. GIVEN WITH THE SEED: THE CARDS: each row of YteecemjbkpkpaaaDoorRows.lean that lists a variable, with what it lists TIED to the program's text (the seventh form; the later family's looks); each row that meets fmt, with fmt's text TOLD by the authors' own Lean function (tested against real Go, not proved from fmt's source: count such statements apart). THE CARD IS WHAT COUNTS. Prove the row's statement (the work); the ties are given (YteecemjbkpkpaaaDoorTie.lean); close each card by the builder's one call (the guide's Derived/Test/ToyasCard.lean, 'card_holds'). Laid BY PROGRAM, IN A SANDBOX (cutbox-door.mjs). By AI agents, Wed Nov 11 2026. No macro, syntax, notation, axiom, sorry.
-/
import Derived.Test.YteecemjbkpkpaaaDoorRows
import GoSem.ClaimSeven
namespace Go.Proofs.YteecemjbkpkpaaaDoor
namespace Rows

/-- THE TIED CARD OF 'laws.FnMacs'. -/
def fnMacsCard : Claim7 := { stood := { row := fnMacsRow, standIns := [], harness := (true, "bdb8fc28bf800186cd89f925e311fbca67b86c97a59c107fbad8de9a1623df4c"), looks := false }, kinds := [], alts := [], laidByText := true, laidKinds := [.data, .data], laidTests := true, laidLooks := .later }
def FnMacsCardSaid : Prop := Claim7.holds Tryd.pinned (.plain (OpenSpec.ofChange fnMacsSpec)) fnMacsCard

/-- THE TIED CARD OF 'laws.FnTagTurned'. -/
def fnTagTurnedCard : Claim7 := { stood := { row := fnTagTurnedRow, standIns := [], harness := (true, "bdb8fc28bf800186cd89f925e311fbca67b86c97a59c107fbad8de9a1623df4c"), looks := false }, kinds := [], alts := [], laidByText := true, laidKinds := [.data, .data], laidTests := true, laidLooks := .later }
def FnTagTurnedCardSaid : Prop := Claim7.holds Tryd.pinned (.plain (OpenSpec.ofChange fnTagTurnedSpec)) fnTagTurnedCard

/-- THE SECOND FORM's CARD OF 'laws.FnMacs'. -/
def fnMacsUptoCard : Claim7 := { stood := { row := fnMacsUptoRow, standIns := [], harness := (true, "bdb8fc28bf800186cd89f925e311fbca67b86c97a59c107fbad8de9a1623df4c"), looks := false }, kinds := [], alts := [], laidByText := true, laidKinds := [.data, .data], laidTests := true, laidLooks := .later }
def FnMacsUptoCardSaid : Prop := Claim7.holds Tryd.pinned (.plain (OpenSpec.upto fnMacsSpec)) fnMacsUptoCard

/-- THE SECOND FORM's CARD OF 'laws.FnTagTurned'. -/
def fnTagTurnedUptoCard : Claim7 := { stood := { row := fnTagTurnedUptoRow, standIns := [], harness := (true, "bdb8fc28bf800186cd89f925e311fbca67b86c97a59c107fbad8de9a1623df4c"), looks := false }, kinds := [], alts := [], laidByText := true, laidKinds := [.data, .data], laidTests := true, laidLooks := .later }
def FnTagTurnedUptoCardSaid : Prop := Claim7.holds Tryd.pinned (.plain (OpenSpec.upto fnTagTurnedSpec)) fnTagTurnedUptoCard
end Rows
end Go.Proofs.YteecemjbkpkpaaaDoor
