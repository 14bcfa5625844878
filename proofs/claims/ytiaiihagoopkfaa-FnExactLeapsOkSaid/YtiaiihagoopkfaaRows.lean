/-
  No cell of these rows narrows 'for every input' (looked for: loops, veiled, ifaces, maps, wideKeys, modest, calm, conditions, laid).
  DERIVED. THE GIVEN ROWS OF THIS SEAT. 10 by the template 'for every input the law returns true; each argument reads behind the call as it read before'; 0 by the template 'total and deterministic' (their statements: YtiaiihagoopkfaaTotals.lean).
  GIVEN WITH THE SEED: the statements are not yours to turn. If you find one false, say at which input.
  Laid BY PROGRAM, IN A SANDBOX (cutbox-rows.mjs): the forced cells as the released guide's own fill.sh prints them over the translation df26d93cc2d2f96f… (all of the seat's roots in one cut). By AI agents, Wed Nov 11 2026. No macro, syntax, notation, axiom, sorry.
-/
import Derived.Test.YtiaiihagoopkfaaChecked
import GoSem.Claim
import GoSem.ClaimJoined
import GoSem.ClaimMapViews
import Derived.JoinedTies
import Derived.KernelRfl
namespace Go.Proofs.Ytiaiihagoopkfaa
/- THE CELL 'sum', in the pinned program and in every row, IS THE sha256 OF THE DUMP (.gsa) THAT YtiaiihagoopkfaaProg.lean LOADS. Nothing in Lean hashes anything: it is a label: what it is worth is what the hold of that sum in a sandbox is worth. -/
noncomputable def Try.pinned : Pinned := { name := "ytiaiihagoopkfaa", sum := "df26d93cc2d2f96f62801973d678eb6dde76e28f0c2074219db3b742e7396c19", checked := Try.checked }
namespace Rows
def none {H : Type} : Left H := { results := [], args := [] }

/-- 'laws.FnExactShifted': WHATEVER THE INPUT: true; the input reads as it did. -/
def fnExactShiftedSpec : ChangeSpec := { name := "fnExactShifted", fn := fun _ => fun
  | [d1, d2] => { results := [.lit (.bool true)], args := [d1, d2] }
  | _ => none }
def fnExactShiftedRow : OpenClaim := { program := "ytiaiihagoopkfaa", sum := "df26d93cc2d2f96f62801973d678eb6dde76e28f0c2074219db3b742e7396c19", func := "loop.example/g00656/laws.FnExactShifted", spec := "fnExactShifted", apart := false }
def FnExactShiftedSaid : Prop := fnExactShiftedRow.holds Try.pinned (OpenSpec.ofChange fnExactShiftedSpec)

/-- ITS FALSE NEIGHBOUR: 'it returns false'. Refute it at one input. -/
def fnExactShiftedWrong : ChangeSpec := { name := "fnExactShifted", fn := fun _ => fun
  | [d1, d2] => { results := [.lit (.bool false)], args := [d1, d2] }
  | _ => none }
def FnExactShiftedWrongFalsely : Prop := fnExactShiftedRow.holds Try.pinned (OpenSpec.ofChange fnExactShiftedWrong)

/-- 'laws.FnExactOnes': WHATEVER THE INPUT: true; the input reads as it did. -/
def fnExactOnesSpec : ChangeSpec := { name := "fnExactOnes", fn := fun _ => fun
  | [d] => { results := [.lit (.bool true)], args := [d] }
  | _ => none }
def fnExactOnesRow : OpenClaim := { program := "ytiaiihagoopkfaa", sum := "df26d93cc2d2f96f62801973d678eb6dde76e28f0c2074219db3b742e7396c19", func := "loop.example/g00656/laws.FnExactOnes", spec := "fnExactOnes", unfollowed := true, recurses := true, apart := false }
def FnExactOnesSaid : Prop := fnExactOnesRow.holds Try.pinned (OpenSpec.ofChange fnExactOnesSpec)

/-- ITS FALSE NEIGHBOUR: 'it returns false'. Refute it at one input. -/
def fnExactOnesWrong : ChangeSpec := { name := "fnExactOnes", fn := fun _ => fun
  | [d] => { results := [.lit (.bool false)], args := [d] }
  | _ => none }
def FnExactOnesWrongFalsely : Prop := fnExactOnesRow.holds Try.pinned (OpenSpec.ofChange fnExactOnesWrong)

/-- 'laws.FnExactReachable': WHATEVER THE INPUT: true; the input reads as it did. -/
def fnExactReachableSpec : ChangeSpec := { name := "fnExactReachable", fn := fun _ => fun
  | [d] => { results := [.lit (.bool true)], args := [d] }
  | _ => none }
def fnExactReachableRow : OpenClaim := { program := "ytiaiihagoopkfaa", sum := "df26d93cc2d2f96f62801973d678eb6dde76e28f0c2074219db3b742e7396c19", func := "loop.example/g00656/laws.FnExactReachable", spec := "fnExactReachable", unfollowed := true, recurses := true, apart := false }
def FnExactReachableSaid : Prop := fnExactReachableRow.holds Try.pinned (OpenSpec.ofChange fnExactReachableSpec)

/-- ITS FALSE NEIGHBOUR: 'it returns false'. Refute it at one input. -/
def fnExactReachableWrong : ChangeSpec := { name := "fnExactReachable", fn := fun _ => fun
  | [d] => { results := [.lit (.bool false)], args := [d] }
  | _ => none }
def FnExactReachableWrongFalsely : Prop := fnExactReachableRow.holds Try.pinned (OpenSpec.ofChange fnExactReachableWrong)

/-- 'laws.FnExactPollFor': WHATEVER THE INPUT: true; the input reads as it did. -/
def fnExactPollForSpec : ChangeSpec := { name := "fnExactPollFor", fn := fun _ => fun
  | [d1, d2] => { results := [.lit (.bool true)], args := [d1, d2] }
  | _ => none }
def fnExactPollForRow : OpenClaim := { program := "ytiaiihagoopkfaa", sum := "df26d93cc2d2f96f62801973d678eb6dde76e28f0c2074219db3b742e7396c19", func := "loop.example/g00656/laws.FnExactPollFor", spec := "fnExactPollFor", unfollowed := true, recurses := true, apart := false }
def FnExactPollForSaid : Prop := fnExactPollForRow.holds Try.pinned (OpenSpec.ofChange fnExactPollForSpec)

/-- ITS FALSE NEIGHBOUR: 'it returns false'. Refute it at one input. -/
def fnExactPollForWrong : ChangeSpec := { name := "fnExactPollFor", fn := fun _ => fun
  | [d1, d2] => { results := [.lit (.bool false)], args := [d1, d2] }
  | _ => none }
def FnExactPollForWrongFalsely : Prop := fnExactPollForRow.holds Try.pinned (OpenSpec.ofChange fnExactPollForWrong)

/-- 'laws.FnExactShiftedAll': WHATEVER THE INPUT: true; the input reads as it did. -/
def fnExactShiftedAllSpec : ChangeSpec := { name := "fnExactShiftedAll", fn := fun _ => fun
  | [d1, d2] => { results := [.lit (.bool true)], args := [d1, d2] }
  | _ => none }
def fnExactShiftedAllRow : OpenClaim := { program := "ytiaiihagoopkfaa", sum := "df26d93cc2d2f96f62801973d678eb6dde76e28f0c2074219db3b742e7396c19", func := "loop.example/g00656/laws.FnExactShiftedAll", spec := "fnExactShiftedAll", apart := false }
def FnExactShiftedAllSaid : Prop := fnExactShiftedAllRow.holds Try.pinned (OpenSpec.ofChange fnExactShiftedAllSpec)

/-- ITS FALSE NEIGHBOUR: 'it returns false'. Refute it at one input. -/
def fnExactShiftedAllWrong : ChangeSpec := { name := "fnExactShiftedAll", fn := fun _ => fun
  | [d1, d2] => { results := [.lit (.bool false)], args := [d1, d2] }
  | _ => none }
def FnExactShiftedAllWrongFalsely : Prop := fnExactShiftedAllRow.holds Try.pinned (OpenSpec.ofChange fnExactShiftedAllWrong)

/-- 'laws.FnShifted': WHATEVER THE INPUT: true; the input reads as it did. -/
def fnShiftedSpec : ChangeSpec := { name := "fnShifted", fn := fun _ => fun
  | [d] => { results := [.lit (.bool true)], args := [d] }
  | _ => none }
def fnShiftedRow : OpenClaim := { program := "ytiaiihagoopkfaa", sum := "df26d93cc2d2f96f62801973d678eb6dde76e28f0c2074219db3b742e7396c19", func := "loop.example/g00656/laws.FnShifted", spec := "fnShifted", unfollowed := true, recurses := true, apart := false }
def FnShiftedSaid : Prop := fnShiftedRow.holds Try.pinned (OpenSpec.ofChange fnShiftedSpec)

/-- ITS FALSE NEIGHBOUR: 'it returns false'. Refute it at one input. -/
def fnShiftedWrong : ChangeSpec := { name := "fnShifted", fn := fun _ => fun
  | [d] => { results := [.lit (.bool false)], args := [d] }
  | _ => none }
def FnShiftedWrongFalsely : Prop := fnShiftedRow.holds Try.pinned (OpenSpec.ofChange fnShiftedWrong)

/-- 'laws.FnShiftedAll': WHATEVER THE INPUT: true; the input reads as it did. -/
def fnShiftedAllSpec : ChangeSpec := { name := "fnShiftedAll", fn := fun _ => fun
  | [d] => { results := [.lit (.bool true)], args := [d] }
  | _ => none }
def fnShiftedAllRow : OpenClaim := { program := "ytiaiihagoopkfaa", sum := "df26d93cc2d2f96f62801973d678eb6dde76e28f0c2074219db3b742e7396c19", func := "loop.example/g00656/laws.FnShiftedAll", spec := "fnShiftedAll", apart := false }
def FnShiftedAllSaid : Prop := fnShiftedAllRow.holds Try.pinned (OpenSpec.ofChange fnShiftedAllSpec)

/-- ITS FALSE NEIGHBOUR: 'it returns false'. Refute it at one input. -/
def fnShiftedAllWrong : ChangeSpec := { name := "fnShiftedAll", fn := fun _ => fun
  | [d] => { results := [.lit (.bool false)], args := [d] }
  | _ => none }
def FnShiftedAllWrongFalsely : Prop := fnShiftedAllRow.holds Try.pinned (OpenSpec.ofChange fnShiftedAllWrong)

/-- 'laws.FnPollFor': WHATEVER THE INPUT: true; the input reads as it did. -/
def fnPollForSpec : ChangeSpec := { name := "fnPollFor", fn := fun _ => fun
  | [d] => { results := [.lit (.bool true)], args := [d] }
  | _ => none }
def fnPollForRow : OpenClaim := { program := "ytiaiihagoopkfaa", sum := "df26d93cc2d2f96f62801973d678eb6dde76e28f0c2074219db3b742e7396c19", func := "loop.example/g00656/laws.FnPollFor", spec := "fnPollFor", unfollowed := true, recurses := true, apart := false }
def FnPollForSaid : Prop := fnPollForRow.holds Try.pinned (OpenSpec.ofChange fnPollForSpec)

/-- ITS FALSE NEIGHBOUR: 'it returns false'. Refute it at one input. -/
def fnPollForWrong : ChangeSpec := { name := "fnPollFor", fn := fun _ => fun
  | [d] => { results := [.lit (.bool false)], args := [d] }
  | _ => none }
def FnPollForWrongFalsely : Prop := fnPollForRow.holds Try.pinned (OpenSpec.ofChange fnPollForWrong)

/-- 'laws.FnOnesAll': WHATEVER THE INPUT: true; the input reads as it did. -/
def fnOnesAllSpec : ChangeSpec := { name := "fnOnesAll", fn := fun _ => fun
  | [d] => { results := [.lit (.bool true)], args := [d] }
  | _ => none }
def fnOnesAllRow : OpenClaim := { program := "ytiaiihagoopkfaa", sum := "df26d93cc2d2f96f62801973d678eb6dde76e28f0c2074219db3b742e7396c19", func := "loop.example/g00656/laws.FnOnesAll", spec := "fnOnesAll", unfollowed := true, recurses := true, apart := false }
def FnOnesAllSaid : Prop := fnOnesAllRow.holds Try.pinned (OpenSpec.ofChange fnOnesAllSpec)

/-- ITS FALSE NEIGHBOUR: 'it returns false'. Refute it at one input. -/
def fnOnesAllWrong : ChangeSpec := { name := "fnOnesAll", fn := fun _ => fun
  | [d] => { results := [.lit (.bool false)], args := [d] }
  | _ => none }
def FnOnesAllWrongFalsely : Prop := fnOnesAllRow.holds Try.pinned (OpenSpec.ofChange fnOnesAllWrong)

/-- 'laws.FnExactLeapsOk': WHATEVER THE INPUT: true; the input reads as it did. -/
def fnExactLeapsOkSpec : ChangeSpec := { name := "fnExactLeapsOk", fn := fun _ => fun
  | [d] => { results := [.lit (.bool true)], args := [d] }
  | _ => none }
def fnExactLeapsOkRow : OpenClaim := { program := "ytiaiihagoopkfaa", sum := "df26d93cc2d2f96f62801973d678eb6dde76e28f0c2074219db3b742e7396c19", func := "loop.example/g00656/laws.FnExactLeapsOk", spec := "fnExactLeapsOk", apart := false }
def FnExactLeapsOkSaid : Prop := fnExactLeapsOkRow.holds Try.pinned (OpenSpec.ofChange fnExactLeapsOkSpec)

/-- ITS FALSE NEIGHBOUR: 'it returns false'. Refute it at one input. -/
def fnExactLeapsOkWrong : ChangeSpec := { name := "fnExactLeapsOk", fn := fun _ => fun
  | [d] => { results := [.lit (.bool false)], args := [d] }
  | _ => none }
def FnExactLeapsOkWrongFalsely : Prop := fnExactLeapsOkRow.holds Try.pinned (OpenSpec.ofChange fnExactLeapsOkWrong)

/- THE SECOND FORM. 'bulk': how many values and letters a reading holds, each counted each time it is reached (what is shared counts as often as it is met; a slice's spare places count too). A statement '..UptoSaid' is the law's where the arguments, and the package variables that the reading takes, are together of bulk at most 1048576: NARROWER than '..Said'. Prove '..Said' where nothing that the law and all that it calls make is longer than what came in: it says more and counts as full. Else prove '..UptoSaid'. A law counts once. -/
mutual
def uptoBulk {H : Type} : DataW H → Nat
  | .lit (.string bytes) => bytes.length + 1
  | .lit _ => 1
  | .nil => 1
  | .ptr d => uptoBulk d + 1
  | .slice elems spare => uptoBulkAll elems + uptoBulkAll spare + 1
  | .agg parts => uptoBulkAll parts + 1
  | .iface _ d => uptoBulk d + 1
  | .map entries => uptoBulkEntries entries + 1
  | .held _ => 1
def uptoBulkAll {H : Type} : List (DataW H) → Nat
  | [] => 0
  | d :: r => uptoBulk d + uptoBulkAll r
def uptoBulkEntries {H : Type} : List (Lit × DataW H) → Nat
  | [] => 0
  | x :: r => uptoBulkEntry x + uptoBulkEntries r
def uptoBulkEntry {H : Type} : Lit × DataW H → Nat
  | (.string bytes, d) => bytes.length + uptoBulk d + 1
  | (_, d) => uptoBulk d + 1
 end
def uptoSmall : (H : Type) → List (DataW H) → Bool := fun _ ds => decide (uptoBulkAll ds ≤ 1048576)
def OpenSpec.upto (s : _root_.Go.ChangeSpec) : _root_.Go.OpenSpec := { _root_.Go.OpenSpec.ofChange s with cond := some uptoSmall }

/-- 'laws.FnExactShifted', WHERE WHAT IT READS IS OF BULK AT MOST 1048576: true; the input reads as it did. -/
def fnExactShiftedUptoRow : OpenClaim := { program := "ytiaiihagoopkfaa", sum := "df26d93cc2d2f96f62801973d678eb6dde76e28f0c2074219db3b742e7396c19", func := "loop.example/g00656/laws.FnExactShifted", spec := "fnExactShifted", apart := false, narrowed := true }
def FnExactShiftedUptoSaid : Prop := fnExactShiftedUptoRow.holds Try.pinned (OpenSpec.upto fnExactShiftedSpec)

/-- 'laws.FnExactOnes', WHERE WHAT IT READS IS OF BULK AT MOST 1048576: true; the input reads as it did. -/
def fnExactOnesUptoRow : OpenClaim := { program := "ytiaiihagoopkfaa", sum := "df26d93cc2d2f96f62801973d678eb6dde76e28f0c2074219db3b742e7396c19", func := "loop.example/g00656/laws.FnExactOnes", spec := "fnExactOnes", unfollowed := true, recurses := true, apart := false, narrowed := true }
def FnExactOnesUptoSaid : Prop := fnExactOnesUptoRow.holds Try.pinned (OpenSpec.upto fnExactOnesSpec)

/-- 'laws.FnExactReachable', WHERE WHAT IT READS IS OF BULK AT MOST 1048576: true; the input reads as it did. -/
def fnExactReachableUptoRow : OpenClaim := { program := "ytiaiihagoopkfaa", sum := "df26d93cc2d2f96f62801973d678eb6dde76e28f0c2074219db3b742e7396c19", func := "loop.example/g00656/laws.FnExactReachable", spec := "fnExactReachable", unfollowed := true, recurses := true, apart := false, narrowed := true }
def FnExactReachableUptoSaid : Prop := fnExactReachableUptoRow.holds Try.pinned (OpenSpec.upto fnExactReachableSpec)

/-- 'laws.FnExactPollFor', WHERE WHAT IT READS IS OF BULK AT MOST 1048576: true; the input reads as it did. -/
def fnExactPollForUptoRow : OpenClaim := { program := "ytiaiihagoopkfaa", sum := "df26d93cc2d2f96f62801973d678eb6dde76e28f0c2074219db3b742e7396c19", func := "loop.example/g00656/laws.FnExactPollFor", spec := "fnExactPollFor", unfollowed := true, recurses := true, apart := false, narrowed := true }
def FnExactPollForUptoSaid : Prop := fnExactPollForUptoRow.holds Try.pinned (OpenSpec.upto fnExactPollForSpec)

/-- 'laws.FnExactShiftedAll', WHERE WHAT IT READS IS OF BULK AT MOST 1048576: true; the input reads as it did. -/
def fnExactShiftedAllUptoRow : OpenClaim := { program := "ytiaiihagoopkfaa", sum := "df26d93cc2d2f96f62801973d678eb6dde76e28f0c2074219db3b742e7396c19", func := "loop.example/g00656/laws.FnExactShiftedAll", spec := "fnExactShiftedAll", apart := false, narrowed := true }
def FnExactShiftedAllUptoSaid : Prop := fnExactShiftedAllUptoRow.holds Try.pinned (OpenSpec.upto fnExactShiftedAllSpec)

/-- 'laws.FnShifted', WHERE WHAT IT READS IS OF BULK AT MOST 1048576: true; the input reads as it did. -/
def fnShiftedUptoRow : OpenClaim := { program := "ytiaiihagoopkfaa", sum := "df26d93cc2d2f96f62801973d678eb6dde76e28f0c2074219db3b742e7396c19", func := "loop.example/g00656/laws.FnShifted", spec := "fnShifted", unfollowed := true, recurses := true, apart := false, narrowed := true }
def FnShiftedUptoSaid : Prop := fnShiftedUptoRow.holds Try.pinned (OpenSpec.upto fnShiftedSpec)

/-- 'laws.FnShiftedAll', WHERE WHAT IT READS IS OF BULK AT MOST 1048576: true; the input reads as it did. -/
def fnShiftedAllUptoRow : OpenClaim := { program := "ytiaiihagoopkfaa", sum := "df26d93cc2d2f96f62801973d678eb6dde76e28f0c2074219db3b742e7396c19", func := "loop.example/g00656/laws.FnShiftedAll", spec := "fnShiftedAll", apart := false, narrowed := true }
def FnShiftedAllUptoSaid : Prop := fnShiftedAllUptoRow.holds Try.pinned (OpenSpec.upto fnShiftedAllSpec)

/-- 'laws.FnPollFor', WHERE WHAT IT READS IS OF BULK AT MOST 1048576: true; the input reads as it did. -/
def fnPollForUptoRow : OpenClaim := { program := "ytiaiihagoopkfaa", sum := "df26d93cc2d2f96f62801973d678eb6dde76e28f0c2074219db3b742e7396c19", func := "loop.example/g00656/laws.FnPollFor", spec := "fnPollFor", unfollowed := true, recurses := true, apart := false, narrowed := true }
def FnPollForUptoSaid : Prop := fnPollForUptoRow.holds Try.pinned (OpenSpec.upto fnPollForSpec)

/-- 'laws.FnOnesAll', WHERE WHAT IT READS IS OF BULK AT MOST 1048576: true; the input reads as it did. -/
def fnOnesAllUptoRow : OpenClaim := { program := "ytiaiihagoopkfaa", sum := "df26d93cc2d2f96f62801973d678eb6dde76e28f0c2074219db3b742e7396c19", func := "loop.example/g00656/laws.FnOnesAll", spec := "fnOnesAll", unfollowed := true, recurses := true, apart := false, narrowed := true }
def FnOnesAllUptoSaid : Prop := fnOnesAllUptoRow.holds Try.pinned (OpenSpec.upto fnOnesAllSpec)

/-- 'laws.FnExactLeapsOk', WHERE WHAT IT READS IS OF BULK AT MOST 1048576: true; the input reads as it did. -/
def fnExactLeapsOkUptoRow : OpenClaim := { program := "ytiaiihagoopkfaa", sum := "df26d93cc2d2f96f62801973d678eb6dde76e28f0c2074219db3b742e7396c19", func := "loop.example/g00656/laws.FnExactLeapsOk", spec := "fnExactLeapsOk", apart := false, narrowed := true }
def FnExactLeapsOkUptoSaid : Prop := fnExactLeapsOkUptoRow.holds Try.pinned (OpenSpec.upto fnExactLeapsOkSpec)

end Rows
end Go.Proofs.Ytiaiihagoopkfaa
