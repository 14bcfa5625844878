/- How much lists of nodes hold; lists of numbers and of nodes held against each other. -/
import Derived.Test.YtdapongofiohgaaNd
import Derived.IntWalk
import Derived.BigQuiet
import Derived.Deep.Cut
import Derived.Deep.RegionWith
import Derived.Deep.QuietTactic
namespace Go.Proofs.Ytdapongofiohgaa
open Go.ChangeShapes Go.WideShapes Go.ChangeAt Go.RowKit
set_option linter.unusedVariables false
set_option linter.unusedSimpArgs false

def peersSum (l : List Nd) : Nat := (l.map fun v => v.peers.length).sum
theorem peersSum_next {l : List Nd} {k : Nat} {v : Nd} (h : l[k]? = some v) : peersSum (l.take (k + 1)) = peersSum (l.take k) + v.peers.length := by
  unfold peersSum
  rw [List.take_add_one, h]
  simp
theorem peersSum_take (l : List Nd) (k : Nat) : peersSum (l.take k) ≤ peersSum l := by
  unfold peersSum
  have := List.take_append_drop k l
  rw [← this, List.map_append, List.sum_append, List.take_append_drop]
  omega
theorem peersSum_le {l : List Nd} {k : Nat} {v : Nd} (h : l[k]? = some v) : v.peers.length ≤ peersSum l := by
  have := peersSum_next h
  have := peersSum_take l (k + 1)
  omega
/-- What is left, or below nought. -/
def leftOf (left n : Int) : Int := if left - n < 0 then -1 else left - n
end Go.Proofs.Ytdapongofiohgaa
