/- A clock's text: the reference's way. -/
import Derived.Test.YtbkkgkmllplbaaaGreatDoorDecS
import Derived.Test.YtbkkgkmllplbaaaGreatDoorCkOk
import Derived.Lib.QuietBelow
import Derived.Deep.RegionHeld3
namespace Go.Proofs.YtbkkgkmllplbaaaGreatDoor
open Go.ChangeShapes Go.WideShapes Go.ChangeAt Go.RowKit Go.Sort
set_option linter.unusedVariables false
set_option linter.unusedSimpArgs false

/-- Five numbers with blanks between. -/
def Ck.words (c : Ck) : ByteArray := decB c.st ++ ⟨#[32]⟩ ++ decB c.off ++ ⟨#[32]⟩ ++ decB c.fr ++ ⟨#[32]⟩ ++ decB c.poll ++ ⟨#[32]⟩ ++ decB c.calm
def Ck.text (c : Ck) : ByteArray := if c.ok then c.words else ⟨#[]⟩
end Go.Proofs.YtbkkgkmllplbaaaGreatDoor
