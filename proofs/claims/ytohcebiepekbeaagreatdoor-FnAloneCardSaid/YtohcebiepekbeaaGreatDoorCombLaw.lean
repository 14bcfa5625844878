/- For every list of peers the program's Combined answers as the reference; its argument stays as it was. -/
import Derived.Test.YtohcebiepekbeaaGreatDoorPeersS
import Derived.Test.YtohcebiepekbeaaGreatDoorCombS
import Derived.Test.YtohcebiepekbeaaGreatDoorCombI
import Derived.Test.YtohcebiepekbeaaGreatDoorTie
import Derived.Test.YtohcebiepekbeaaGreatDoorCards
namespace Go.Proofs.YtohcebiepekbeaaGreatDoor
open Go.ChangeShapes Go.WideShapes Go.ChangeAt Go.RowKit
set_option linter.unusedVariables false
set_option linter.unusedSimpArgs false

theorem prsS_dec {l : List Pr} {b : Bool} (hb : okPrs l = b) (n : Nat) (hn : Hid (n = l.length)) (hm : n ≤ maxLen) (x : Option Addr) (cap : Nat) (w : World) (h : Prs w.heap.size w x l) :
    Calls Tryz.prog 25 #[.slice x n cap] w fun e w' => e = .returned (.bool b) ∧ Below w.heap.size w w' := hb ▸ peersOk_spec l n hn hm x cap w h
theorem prsI_dec {l : List Pr} {b : Bool} (hb : okPrs l = b) (n : Nat) (hn : Hid (n = l.length)) (hm : n ≤ maxLen) (x : Option Addr) (cap : Nat) (w : World) (h : Prs w.heap.size w x l) {ao an au : Addr} (L : Ld w ao an au) :
    Calls Tryz.prog 44 #[.slice x n cap] w fun e w' => e = .returned (.bool b) ∧ Below w.heap.size w w' := hb ▸ peersOk_impl l n hn hm x cap w h L

/-- Combined's answers. -/
def combOk (l : List Pr) : Bool := okPrs l && !(l.length == 0)
def combA (l : List Pr) : Int := if combOk l then combV l else 0

end Go.Proofs.YtohcebiepekbeaaGreatDoor
