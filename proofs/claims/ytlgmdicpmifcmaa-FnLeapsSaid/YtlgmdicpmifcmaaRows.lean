/-
  No cell of these rows narrows 'for every input' (looked for: loops, veiled, ifaces, maps, wideKeys, modest, calm, conditions, laid).
  DERIVED. THE GIVEN ROWS OF THIS SEAT. 7 by the template 'for every input the law returns true; each argument reads behind the call as it read before'; 0 by the template 'total and deterministic' (their statements: YtlgmdicpmifcmaaTotals.lean).
  GIVEN WITH THE SEED: the statements are not yours to turn. If you find one false, say at which input.
  Laid BY PROGRAM, IN A SANDBOX (cutbox-rows.mjs): the forced cells as the released guide's own fill.sh prints them over the translation 8318082e4c7709b1… (all of the seat's roots in one cut). By AI agents, Wed Nov 11 2026. No macro, syntax, notation, axiom, sorry.
-/
import Derived.Test.YtlgmdicpmifcmaaChecked
import GoSem.Claim
import GoSem.ClaimJoined
import GoSem.ClaimMapViews
import Derived.JoinedTies
import Derived.KernelRfl
namespace Go.Proofs.Ytlgmdicpmifcmaa
/- THE CELL 'sum', in the pinned program and in every row, IS THE sha256 OF THE DUMP (.gsa) THAT YtlgmdicpmifcmaaProg.lean LOADS. Nothing in Lean hashes anything: it is a label: what it is worth is what the hold of that sum in a sandbox is worth. -/
noncomputable def Try.pinned : Pinned := { name := "ytlgmdicpmifcmaa", sum := "8318082e4c7709b1b06fdf3a31e53995e5cc16a450edc61b1434c8c532227a24", checked := Try.checked }
namespace Rows
def none {H : Type} : Left H := { results := [], args := [] }

/-- 'laws.FnExactLeapAt': WHATEVER THE INPUT: true; the input reads as it did. -/
def fnExactLeapAtSpec : ChangeSpec := { name := "fnExactLeapAt", fn := fun _ => fun
  | [d1, d2] => { results := [.lit (.bool true)], args := [d1, d2] }
  | _ => none }
def fnExactLeapAtRow : OpenClaim := { program := "ytlgmdicpmifcmaa", sum := "8318082e4c7709b1b06fdf3a31e53995e5cc16a450edc61b1434c8c532227a24", func := "loop.example/g00656/laws.FnExactLeapAt", spec := "fnExactLeapAt", inPlace := ["slices.overlaps[loop.example/g00656/impl.Leap]"], unfollowed := true, recurses := true, apart := false }
def FnExactLeapAtSaid : Prop := fnExactLeapAtRow.holds Try.pinned (OpenSpec.ofChange fnExactLeapAtSpec)

/-- ITS FALSE NEIGHBOUR: 'it returns false'. Refute it at one input. -/
def fnExactLeapAtWrong : ChangeSpec := { name := "fnExactLeapAt", fn := fun _ => fun
  | [d1, d2] => { results := [.lit (.bool false)], args := [d1, d2] }
  | _ => none }
def FnExactLeapAtWrongFalsely : Prop := fnExactLeapAtRow.holds Try.pinned (OpenSpec.ofChange fnExactLeapAtWrong)

/-- 'laws.FnExactSmeared': WHATEVER THE INPUT: true; the input reads as it did. -/
def fnExactSmearedSpec : ChangeSpec := { name := "fnExactSmeared", fn := fun _ => fun
  | [d1, d2] => { results := [.lit (.bool true)], args := [d1, d2] }
  | _ => none }
def fnExactSmearedRow : OpenClaim := { program := "ytlgmdicpmifcmaa", sum := "8318082e4c7709b1b06fdf3a31e53995e5cc16a450edc61b1434c8c532227a24", func := "loop.example/g00656/laws.FnExactSmeared", spec := "fnExactSmeared", inPlace := ["slices.overlaps[loop.example/g00656/impl.Leap]"], unfollowed := true, recurses := true, apart := false }
def FnExactSmearedSaid : Prop := fnExactSmearedRow.holds Try.pinned (OpenSpec.ofChange fnExactSmearedSpec)

/-- ITS FALSE NEIGHBOUR: 'it returns false'. Refute it at one input. -/
def fnExactSmearedWrong : ChangeSpec := { name := "fnExactSmeared", fn := fun _ => fun
  | [d1, d2] => { results := [.lit (.bool false)], args := [d1, d2] }
  | _ => none }
def FnExactSmearedWrongFalsely : Prop := fnExactSmearedRow.holds Try.pinned (OpenSpec.ofChange fnExactSmearedWrong)

/-- 'laws.FnExactNextLeap': WHATEVER THE INPUT: true; the input reads as it did. -/
def fnExactNextLeapSpec : ChangeSpec := { name := "fnExactNextLeap", fn := fun _ => fun
  | [d1, d2] => { results := [.lit (.bool true)], args := [d1, d2] }
  | _ => none }
def fnExactNextLeapRow : OpenClaim := { program := "ytlgmdicpmifcmaa", sum := "8318082e4c7709b1b06fdf3a31e53995e5cc16a450edc61b1434c8c532227a24", func := "loop.example/g00656/laws.FnExactNextLeap", spec := "fnExactNextLeap", inPlace := ["slices.overlaps[loop.example/g00656/impl.Leap]"], unfollowed := true, recurses := true, apart := false }
def FnExactNextLeapSaid : Prop := fnExactNextLeapRow.holds Try.pinned (OpenSpec.ofChange fnExactNextLeapSpec)

/-- ITS FALSE NEIGHBOUR: 'it returns false'. Refute it at one input. -/
def fnExactNextLeapWrong : ChangeSpec := { name := "fnExactNextLeap", fn := fun _ => fun
  | [d1, d2] => { results := [.lit (.bool false)], args := [d1, d2] }
  | _ => none }
def FnExactNextLeapWrongFalsely : Prop := fnExactNextLeapRow.holds Try.pinned (OpenSpec.ofChange fnExactNextLeapWrong)

/-- 'laws.FnLeaps': WHATEVER THE INPUT: true; the input reads as it did. -/
def fnLeapsSpec : ChangeSpec := { name := "fnLeaps", fn := fun _ => fun
  | [d] => { results := [.lit (.bool true)], args := [d] }
  | _ => none }
def fnLeapsRow : OpenClaim := { program := "ytlgmdicpmifcmaa", sum := "8318082e4c7709b1b06fdf3a31e53995e5cc16a450edc61b1434c8c532227a24", func := "loop.example/g00656/laws.FnLeaps", spec := "fnLeaps", inPlace := ["slices.overlaps[loop.example/g00656/impl.Leap]"], unfollowed := true, recurses := true, apart := false }
def FnLeapsSaid : Prop := fnLeapsRow.holds Try.pinned (OpenSpec.ofChange fnLeapsSpec)

/-- ITS FALSE NEIGHBOUR: 'it returns false'. Refute it at one input. -/
def fnLeapsWrong : ChangeSpec := { name := "fnLeaps", fn := fun _ => fun
  | [d] => { results := [.lit (.bool false)], args := [d] }
  | _ => none }
def FnLeapsWrongFalsely : Prop := fnLeapsRow.holds Try.pinned (OpenSpec.ofChange fnLeapsWrong)

/-- 'laws.FnSmeared': WHATEVER THE INPUT: true; the input reads as it did. -/
def fnSmearedSpec : ChangeSpec := { name := "fnSmeared", fn := fun _ => fun
  | [d] => { results := [.lit (.bool true)], args := [d] }
  | _ => none }
def fnSmearedRow : OpenClaim := { program := "ytlgmdicpmifcmaa", sum := "8318082e4c7709b1b06fdf3a31e53995e5cc16a450edc61b1434c8c532227a24", func := "loop.example/g00656/laws.FnSmeared", spec := "fnSmeared", inPlace := ["slices.overlaps[loop.example/g00656/impl.Leap]"], unfollowed := true, recurses := true, apart := false }
def FnSmearedSaid : Prop := fnSmearedRow.holds Try.pinned (OpenSpec.ofChange fnSmearedSpec)

/-- ITS FALSE NEIGHBOUR: 'it returns false'. Refute it at one input. -/
def fnSmearedWrong : ChangeSpec := { name := "fnSmeared", fn := fun _ => fun
  | [d] => { results := [.lit (.bool false)], args := [d] }
  | _ => none }
def FnSmearedWrongFalsely : Prop := fnSmearedRow.holds Try.pinned (OpenSpec.ofChange fnSmearedWrong)

/-- 'laws.FnSmearMiddle': WHATEVER THE INPUT: true; the input reads as it did. -/
def fnSmearMiddleSpec : ChangeSpec := { name := "fnSmearMiddle", fn := fun _ => fun
  | [d] => { results := [.lit (.bool true)], args := [d] }
  | _ => none }
def fnSmearMiddleRow : OpenClaim := { program := "ytlgmdicpmifcmaa", sum := "8318082e4c7709b1b06fdf3a31e53995e5cc16a450edc61b1434c8c532227a24", func := "loop.example/g00656/laws.FnSmearMiddle", spec := "fnSmearMiddle", inPlace := ["slices.overlaps[loop.example/g00656/impl.Leap]"], unfollowed := true, recurses := true, apart := false }
def FnSmearMiddleSaid : Prop := fnSmearMiddleRow.holds Try.pinned (OpenSpec.ofChange fnSmearMiddleSpec)

/-- ITS FALSE NEIGHBOUR: 'it returns false'. Refute it at one input. -/
def fnSmearMiddleWrong : ChangeSpec := { name := "fnSmearMiddle", fn := fun _ => fun
  | [d] => { results := [.lit (.bool false)], args := [d] }
  | _ => none }
def FnSmearMiddleWrongFalsely : Prop := fnSmearMiddleRow.holds Try.pinned (OpenSpec.ofChange fnSmearMiddleWrong)

/-- 'laws.FnLeapsAll': WHATEVER THE INPUT: true; the input reads as it did. -/
def fnLeapsAllSpec : ChangeSpec := { name := "fnLeapsAll", fn := fun _ => fun
  | [d] => { results := [.lit (.bool true)], args := [d] }
  | _ => none }
def fnLeapsAllRow : OpenClaim := { program := "ytlgmdicpmifcmaa", sum := "8318082e4c7709b1b06fdf3a31e53995e5cc16a450edc61b1434c8c532227a24", func := "loop.example/g00656/laws.FnLeapsAll", spec := "fnLeapsAll", inPlace := ["slices.overlaps[loop.example/g00656/impl.Leap]"], unfollowed := true, recurses := true, apart := false }
def FnLeapsAllSaid : Prop := fnLeapsAllRow.holds Try.pinned (OpenSpec.ofChange fnLeapsAllSpec)

/-- ITS FALSE NEIGHBOUR: 'it returns false'. Refute it at one input. -/
def fnLeapsAllWrong : ChangeSpec := { name := "fnLeapsAll", fn := fun _ => fun
  | [d] => { results := [.lit (.bool false)], args := [d] }
  | _ => none }
def FnLeapsAllWrongFalsely : Prop := fnLeapsAllRow.holds Try.pinned (OpenSpec.ofChange fnLeapsAllWrong)

/- THE SECOND FORM. 'bulk': how many values and letters a reading holds, each counted each time it is reached (what is shared counts as often as it is met; a slice's spare places count too). A statement '..UptoSaid' is the law's where the arguments, and the package variables that the reading takes, are together of bulk at most 1048576: NARROWER than '..Said'. Prove '..Said' where nothing that the law and all that it calls make is longer than what came in: it says more and counts as full. Else prove '..UptoSaid'. A law counts once. -/
mutual
def uptoBulk {H : Type} : DataW H → Nat
  | .lit (.string bytes) => bytes.length + 1
  | .lit _ => 1
  | .nil => 1
  | .ptr d => uptoBulk d + 1
  | .slice elems spare => uptoBulkAll elems + uptoBulkAll spare + 1
  | .agg parts => uptoBulkAll parts + 1
  | .iface _ d => uptoBulk d + 1
  | .map entries => uptoBulkEntries entries + 1
  | .held _ => 1
def uptoBulkAll {H : Type} : List (DataW H) → Nat
  | [] => 0
  | d :: r => uptoBulk d + uptoBulkAll r
def uptoBulkEntries {H : Type} : List (Lit × DataW H) → Nat
  | [] => 0
  | x :: r => uptoBulkEntry x + uptoBulkEntries r
def uptoBulkEntry {H : Type} : Lit × DataW H → Nat
  | (.string bytes, d) => bytes.length + uptoBulk d + 1
  | (_, d) => uptoBulk d + 1
 end
def uptoSmall : (H : Type) → List (DataW H) → Bool := fun _ ds => decide (uptoBulkAll ds ≤ 1048576)
def OpenSpec.upto (s : _root_.Go.ChangeSpec) : _root_.Go.OpenSpec := { _root_.Go.OpenSpec.ofChange s with cond := some uptoSmall }

/-- 'laws.FnExactLeapAt', WHERE WHAT IT READS IS OF BULK AT MOST 1048576: true; the input reads as it did. -/
def fnExactLeapAtUptoRow : OpenClaim := { program := "ytlgmdicpmifcmaa", sum := "8318082e4c7709b1b06fdf3a31e53995e5cc16a450edc61b1434c8c532227a24", func := "loop.example/g00656/laws.FnExactLeapAt", spec := "fnExactLeapAt", inPlace := ["slices.overlaps[loop.example/g00656/impl.Leap]"], unfollowed := true, recurses := true, apart := false, narrowed := true }
def FnExactLeapAtUptoSaid : Prop := fnExactLeapAtUptoRow.holds Try.pinned (OpenSpec.upto fnExactLeapAtSpec)

/-- 'laws.FnExactSmeared', WHERE WHAT IT READS IS OF BULK AT MOST 1048576: true; the input reads as it did. -/
def fnExactSmearedUptoRow : OpenClaim := { program := "ytlgmdicpmifcmaa", sum := "8318082e4c7709b1b06fdf3a31e53995e5cc16a450edc61b1434c8c532227a24", func := "loop.example/g00656/laws.FnExactSmeared", spec := "fnExactSmeared", inPlace := ["slices.overlaps[loop.example/g00656/impl.Leap]"], unfollowed := true, recurses := true, apart := false, narrowed := true }
def FnExactSmearedUptoSaid : Prop := fnExactSmearedUptoRow.holds Try.pinned (OpenSpec.upto fnExactSmearedSpec)

/-- 'laws.FnExactNextLeap', WHERE WHAT IT READS IS OF BULK AT MOST 1048576: true; the input reads as it did. -/
def fnExactNextLeapUptoRow : OpenClaim := { program := "ytlgmdicpmifcmaa", sum := "8318082e4c7709b1b06fdf3a31e53995e5cc16a450edc61b1434c8c532227a24", func := "loop.example/g00656/laws.FnExactNextLeap", spec := "fnExactNextLeap", inPlace := ["slices.overlaps[loop.example/g00656/impl.Leap]"], unfollowed := true, recurses := true, apart := false, narrowed := true }
def FnExactNextLeapUptoSaid : Prop := fnExactNextLeapUptoRow.holds Try.pinned (OpenSpec.upto fnExactNextLeapSpec)

/-- 'laws.FnLeaps', WHERE WHAT IT READS IS OF BULK AT MOST 1048576: true; the input reads as it did. -/
def fnLeapsUptoRow : OpenClaim := { program := "ytlgmdicpmifcmaa", sum := "8318082e4c7709b1b06fdf3a31e53995e5cc16a450edc61b1434c8c532227a24", func := "loop.example/g00656/laws.FnLeaps", spec := "fnLeaps", inPlace := ["slices.overlaps[loop.example/g00656/impl.Leap]"], unfollowed := true, recurses := true, apart := false, narrowed := true }
def FnLeapsUptoSaid : Prop := fnLeapsUptoRow.holds Try.pinned (OpenSpec.upto fnLeapsSpec)

/-- 'laws.FnSmeared', WHERE WHAT IT READS IS OF BULK AT MOST 1048576: true; the input reads as it did. -/
def fnSmearedUptoRow : OpenClaim := { program := "ytlgmdicpmifcmaa", sum := "8318082e4c7709b1b06fdf3a31e53995e5cc16a450edc61b1434c8c532227a24", func := "loop.example/g00656/laws.FnSmeared", spec := "fnSmeared", inPlace := ["slices.overlaps[loop.example/g00656/impl.Leap]"], unfollowed := true, recurses := true, apart := false, narrowed := true }
def FnSmearedUptoSaid : Prop := fnSmearedUptoRow.holds Try.pinned (OpenSpec.upto fnSmearedSpec)

/-- 'laws.FnSmearMiddle', WHERE WHAT IT READS IS OF BULK AT MOST 1048576: true; the input reads as it did. -/
def fnSmearMiddleUptoRow : OpenClaim := { program := "ytlgmdicpmifcmaa", sum := "8318082e4c7709b1b06fdf3a31e53995e5cc16a450edc61b1434c8c532227a24", func := "loop.example/g00656/laws.FnSmearMiddle", spec := "fnSmearMiddle", inPlace := ["slices.overlaps[loop.example/g00656/impl.Leap]"], unfollowed := true, recurses := true, apart := false, narrowed := true }
def FnSmearMiddleUptoSaid : Prop := fnSmearMiddleUptoRow.holds Try.pinned (OpenSpec.upto fnSmearMiddleSpec)

/-- 'laws.FnLeapsAll', WHERE WHAT IT READS IS OF BULK AT MOST 1048576: true; the input reads as it did. -/
def fnLeapsAllUptoRow : OpenClaim := { program := "ytlgmdicpmifcmaa", sum := "8318082e4c7709b1b06fdf3a31e53995e5cc16a450edc61b1434c8c532227a24", func := "loop.example/g00656/laws.FnLeapsAll", spec := "fnLeapsAll", inPlace := ["slices.overlaps[loop.example/g00656/impl.Leap]"], unfollowed := true, recurses := true, apart := false, narrowed := true }
def FnLeapsAllUptoSaid : Prop := fnLeapsAllUptoRow.holds Try.pinned (OpenSpec.upto fnLeapsAllSpec)

end Rows
end Go.Proofs.Ytlgmdicpmifcmaa
