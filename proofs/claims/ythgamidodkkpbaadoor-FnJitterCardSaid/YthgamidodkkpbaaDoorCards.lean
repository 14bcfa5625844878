/-
  DERIVED. GIVEN WITH THE SEED: THE CARDS: each row of YthgamidodkkpbaaDoorRows.lean that lists a variable, with what it lists TIED to the program's text (the seventh form; the later family's looks); each row that meets fmt, with fmt's text TOLD by the authors' own Lean function (tested against real Go, not proved from fmt's source: count such statements apart). THE CARD IS WHAT COUNTS. Prove the row's statement (the work); the ties are given (YthgamidodkkpbaaDoorTie.lean); close each card by the builder's one call (the guide's Derived/Test/ToyasCard.lean, 'card_holds'). Laid BY PROGRAM, IN A SANDBOX (cutbox-door.mjs). By AI agents, Wed Nov 11 2026. No macro, syntax, notation, axiom, sorry.
-/
import Derived.Test.YthgamidodkkpbaaDoorRows
import GoSem.ClaimSeven
namespace Go.Proofs.YthgamidodkkpbaaDoor
namespace Rows

/-- THE TIED CARD OF 'laws.FnFilter'. -/
def fnFilterCard : Claim7 := { stood := { row := fnFilterRow, standIns := [], harness := (true, "779e621bc2069c0ae9acb1dc42e869b228fa155ae33f869a9ffd3b8ac8e8c6f7"), looks := true }, kinds := [], alts := [], laidByText := true, laidKinds := [.handle, .sentinel, .sentinel, .sentinel], laidTests := true, laidLooks := .later }
def FnFilterCardSaid : Prop := Claim7.holds Tryd.pinned (.plain (OpenSpec.ofChange fnFilterSpec)) fnFilterCard

/-- THE TIED CARD OF 'laws.FnBest'. -/
def fnBestCard : Claim7 := { stood := { row := fnBestRow, standIns := [], harness := (true, "779e621bc2069c0ae9acb1dc42e869b228fa155ae33f869a9ffd3b8ac8e8c6f7"), looks := true }, kinds := [], alts := [], laidByText := true, laidKinds := [.handle, .sentinel, .sentinel, .sentinel], laidTests := true, laidLooks := .later }
def FnBestCardSaid : Prop := Claim7.holds Tryd.pinned (.plain (OpenSpec.ofChange fnBestSpec)) fnBestCard

/-- THE TIED CARD OF 'laws.FnJitter'. -/
def fnJitterCard : Claim7 := { stood := { row := fnJitterRow, standIns := [], harness := (true, "779e621bc2069c0ae9acb1dc42e869b228fa155ae33f869a9ffd3b8ac8e8c6f7"), looks := true }, kinds := [], alts := [], laidByText := true, laidKinds := [.handle, .sentinel, .sentinel, .sentinel], laidTests := true, laidLooks := .later }
def FnJitterCardSaid : Prop := Claim7.holds Tryd.pinned (.plain (OpenSpec.ofChange fnJitterSpec)) fnJitterCard

/-- THE TIED CARD OF 'laws.FnFilterLast'. -/
def fnFilterLastCard : Claim7 := { stood := { row := fnFilterLastRow, standIns := [], harness := (true, "779e621bc2069c0ae9acb1dc42e869b228fa155ae33f869a9ffd3b8ac8e8c6f7"), looks := true }, kinds := [], alts := [], laidByText := true, laidKinds := [.handle, .sentinel, .sentinel, .sentinel], laidTests := true, laidLooks := .later }
def FnFilterLastCardSaid : Prop := Claim7.holds Tryd.pinned (.plain (OpenSpec.ofChange fnFilterLastSpec)) fnFilterLastCard

/-- THE SECOND FORM's CARD OF 'laws.FnFilter'. -/
def fnFilterUptoCard : Claim7 := { stood := { row := fnFilterUptoRow, standIns := [], harness := (true, "779e621bc2069c0ae9acb1dc42e869b228fa155ae33f869a9ffd3b8ac8e8c6f7"), looks := true }, kinds := [], alts := [], laidByText := true, laidKinds := [.handle, .sentinel, .sentinel, .sentinel], laidTests := true, laidLooks := .later }
def FnFilterUptoCardSaid : Prop := Claim7.holds Tryd.pinned (.plain (OpenSpec.upto fnFilterSpec)) fnFilterUptoCard

/-- THE SECOND FORM's CARD OF 'laws.FnBest'. -/
def fnBestUptoCard : Claim7 := { stood := { row := fnBestUptoRow, standIns := [], harness := (true, "779e621bc2069c0ae9acb1dc42e869b228fa155ae33f869a9ffd3b8ac8e8c6f7"), looks := true }, kinds := [], alts := [], laidByText := true, laidKinds := [.handle, .sentinel, .sentinel, .sentinel], laidTests := true, laidLooks := .later }
def FnBestUptoCardSaid : Prop := Claim7.holds Tryd.pinned (.plain (OpenSpec.upto fnBestSpec)) fnBestUptoCard

/-- THE SECOND FORM's CARD OF 'laws.FnJitter'. -/
def fnJitterUptoCard : Claim7 := { stood := { row := fnJitterUptoRow, standIns := [], harness := (true, "779e621bc2069c0ae9acb1dc42e869b228fa155ae33f869a9ffd3b8ac8e8c6f7"), looks := true }, kinds := [], alts := [], laidByText := true, laidKinds := [.handle, .sentinel, .sentinel, .sentinel], laidTests := true, laidLooks := .later }
def FnJitterUptoCardSaid : Prop := Claim7.holds Tryd.pinned (.plain (OpenSpec.upto fnJitterSpec)) fnJitterUptoCard

/-- THE SECOND FORM's CARD OF 'laws.FnFilterLast'. -/
def fnFilterLastUptoCard : Claim7 := { stood := { row := fnFilterLastUptoRow, standIns := [], harness := (true, "779e621bc2069c0ae9acb1dc42e869b228fa155ae33f869a9ffd3b8ac8e8c6f7"), looks := true }, kinds := [], alts := [], laidByText := true, laidKinds := [.handle, .sentinel, .sentinel, .sentinel], laidTests := true, laidLooks := .later }
def FnFilterLastUptoCardSaid : Prop := Claim7.holds Tryd.pinned (.plain (OpenSpec.upto fnFilterLastSpec)) fnFilterLastUptoCard
end Rows
end Go.Proofs.YthgamidodkkpbaaDoor
