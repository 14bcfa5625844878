/-
  NARROWER THAN 'FOR EVERY INPUT', by the rows' own cells (each row's printed sentence says how): FnExactRanked: ifaces, laid · FnExactSurvivors: ifaces, laid · FnRanked: ifaces, laid · FnSurvivors: ifaces, laid · FnRankedTwice: ifaces, laid.
  DERIVED. THE GIVEN ROWS OF THIS SEAT. 5 by the template 'for every input the law returns true; each argument reads behind the call as it read before'; 0 by the template 'total and deterministic' (their statements: YtfcmcelhndppnaaDoorTotals.lean).
  GIVEN WITH THE SEED: the statements are not yours to turn. If you find one false, say at which input.
  Laid BY PROGRAM, IN A SANDBOX (cutbox-rows.mjs): the forced cells as the released guide's own fill.sh prints them over the translation 0715fcead802f3a3… (all of the seat's roots in one cut). By AI agents, Wed Nov 11 2026. No macro, syntax, notation, axiom, sorry.
-/
import Derived.Test.YtfcmcelhndppnaaDoorChecked
import GoSem.Claim
import GoSem.ClaimJoined
import GoSem.ClaimMapViews
import Derived.JoinedTies
import Derived.KernelRfl
namespace Go.Proofs.YtfcmcelhndppnaaDoor
/- THE CELL 'sum', in the pinned program and in every row, IS THE sha256 OF THE DUMP (.gsa) THAT YtfcmcelhndppnaaDoorProg.lean LOADS. Nothing in Lean hashes anything: it is a label: what it is worth is what the hold of that sum in a sandbox is worth. -/
noncomputable def Tryd.pinned : Pinned := { name := "ytfcmcelhndppnaadoor", sum := "0715fcead802f3a34b14a98c2f119daab5baa3669d4f25ae2f3c77698c997f4e", checked := Tryd.checked }
namespace Rows
def none {H : Type} : Left H := { results := [], args := [] }

/- WHAT THE LISTED PACKAGE-LEVEL VARIABLES READ AS WHEN THE CALL BEGINS. Each datum BY PROGRAM (the guide's laid-datum.mjs) off the statement by which the dump's own 'gosem.cut.vars' lays the variable. In a bare row this is a premise. The card (YtfcmcelhndppnaaDoorCards.lean) ties it to the program's text. -/
def laid_errors_errorType {H : Type} : DataW H := .iface "internal/reflectlite.rtype" (.agg [.ptr (.lit (.string [101, 114, 114, 111, 114]))])
def laid_loop_example_g00656_impl_errNoTime {H : Type} : DataW H := .iface "*errors.errorString" (.ptr (.agg [.lit (.string [110, 111, 32, 116, 105, 109, 101])]))
def laid_loop_example_g00656_impl_errOutside {H : Type} : DataW H := .iface "*errors.errorString" (.ptr (.agg [.lit (.string [111, 117, 116, 115, 105, 100, 101, 32, 105, 116, 115, 32, 98, 111, 117, 110, 100, 115])]))
def laid_loop_example_g00656_impl_errUnsure {H : Type} : DataW H := .iface "*errors.errorString" (.ptr (.agg [.lit (.string [116, 111, 108, 100, 32, 108, 101, 115, 115, 32, 115, 117, 114, 101, 108, 121, 32, 116, 104, 97, 110, 32, 97, 110, 121, 32, 115, 97, 109, 112, 108, 101])]))

/-- 'laws.FnExactRanked': WHATEVER THE INPUT: true; the input reads as it did. -/
def fnExactRankedSpec : ChangeSpec := { name := "fnExactRanked", vars := ["loop.example/g00656/impl.errOutside", "loop.example/g00656/impl.errNoTime", "loop.example/g00656/impl.errUnsure"], fn := fun _ => fun
  | [d, g1, g2, g3] => { results := [.lit (.bool true)], args := [d], vars := [g1, g2, g3] }
  | _ => none }
def fnExactRankedRow : OpenClaim := { program := "ytfcmcelhndppnaadoor", sum := "0715fcead802f3a34b14a98c2f119daab5baa3669d4f25ae2f3c77698c997f4e", func := "loop.example/g00656/laws.FnExactRanked", spec := "fnExactRanked", inPlace := ["internal/reflectlite.ValueOf", "(internal/reflectlite.Value).Type", "(internal/reflectlite.Value).IsNil", "internal/reflectlite.TypeOf", "(internal/reflectlite.Value).Elem", "(internal/reflectlite.Value).Set", "slices.overlaps[*loop.example/g00656/impl.Peer]"], unfollowed := true, recurses := true, named := ["loop.example/g00656/impl.errOutside", "loop.example/g00656/impl.errNoTime", "loop.example/g00656/impl.errUnsure", "errors.errorType"], ifaces := true, apart := false, laid := [("errors.errorType", laid_errors_errorType), ("loop.example/g00656/impl.errNoTime", laid_loop_example_g00656_impl_errNoTime), ("loop.example/g00656/impl.errOutside", laid_loop_example_g00656_impl_errOutside), ("loop.example/g00656/impl.errUnsure", laid_loop_example_g00656_impl_errUnsure)] }
def FnExactRankedSaid : Prop := fnExactRankedRow.holds Tryd.pinned (OpenSpec.ofChange fnExactRankedSpec)

/-- ITS FALSE NEIGHBOUR: 'it returns false'. Refute it at one input. -/
def fnExactRankedWrong : ChangeSpec := { name := "fnExactRanked", vars := ["loop.example/g00656/impl.errOutside", "loop.example/g00656/impl.errNoTime", "loop.example/g00656/impl.errUnsure"], fn := fun _ => fun
  | [d, g1, g2, g3] => { results := [.lit (.bool false)], args := [d], vars := [g1, g2, g3] }
  | _ => none }
def FnExactRankedWrongFalsely : Prop := fnExactRankedRow.holds Tryd.pinned (OpenSpec.ofChange fnExactRankedWrong)

/-- 'laws.FnExactSurvivors': WHATEVER THE INPUT: true; the input reads as it did. -/
def fnExactSurvivorsSpec : ChangeSpec := { name := "fnExactSurvivors", vars := ["loop.example/g00656/impl.errOutside", "loop.example/g00656/impl.errNoTime", "loop.example/g00656/impl.errUnsure"], fn := fun _ => fun
  | [d1, d2, g1, g2, g3] => { results := [.lit (.bool true)], args := [d1, d2], vars := [g1, g2, g3] }
  | _ => none }
def fnExactSurvivorsRow : OpenClaim := { program := "ytfcmcelhndppnaadoor", sum := "0715fcead802f3a34b14a98c2f119daab5baa3669d4f25ae2f3c77698c997f4e", func := "loop.example/g00656/laws.FnExactSurvivors", spec := "fnExactSurvivors", inPlace := ["internal/reflectlite.ValueOf", "(internal/reflectlite.Value).Type", "(internal/reflectlite.Value).IsNil", "internal/reflectlite.TypeOf", "(internal/reflectlite.Value).Elem", "(internal/reflectlite.Value).Set", "slices.overlaps[*loop.example/g00656/impl.Peer]"], unfollowed := true, recurses := true, named := ["loop.example/g00656/impl.errOutside", "loop.example/g00656/impl.errNoTime", "loop.example/g00656/impl.errUnsure", "errors.errorType"], ifaces := true, apart := false, laid := [("errors.errorType", laid_errors_errorType), ("loop.example/g00656/impl.errNoTime", laid_loop_example_g00656_impl_errNoTime), ("loop.example/g00656/impl.errOutside", laid_loop_example_g00656_impl_errOutside), ("loop.example/g00656/impl.errUnsure", laid_loop_example_g00656_impl_errUnsure)] }
def FnExactSurvivorsSaid : Prop := fnExactSurvivorsRow.holds Tryd.pinned (OpenSpec.ofChange fnExactSurvivorsSpec)

/-- ITS FALSE NEIGHBOUR: 'it returns false'. Refute it at one input. -/
def fnExactSurvivorsWrong : ChangeSpec := { name := "fnExactSurvivors", vars := ["loop.example/g00656/impl.errOutside", "loop.example/g00656/impl.errNoTime", "loop.example/g00656/impl.errUnsure"], fn := fun _ => fun
  | [d1, d2, g1, g2, g3] => { results := [.lit (.bool false)], args := [d1, d2], vars := [g1, g2, g3] }
  | _ => none }
def FnExactSurvivorsWrongFalsely : Prop := fnExactSurvivorsRow.holds Tryd.pinned (OpenSpec.ofChange fnExactSurvivorsWrong)

/-- 'laws.FnRanked': WHATEVER THE INPUT: true; the input reads as it did. -/
def fnRankedSpec : ChangeSpec := { name := "fnRanked", vars := ["loop.example/g00656/impl.errOutside", "loop.example/g00656/impl.errNoTime", "loop.example/g00656/impl.errUnsure"], fn := fun _ => fun
  | [d, g1, g2, g3] => { results := [.lit (.bool true)], args := [d], vars := [g1, g2, g3] }
  | _ => none }
def fnRankedRow : OpenClaim := { program := "ytfcmcelhndppnaadoor", sum := "0715fcead802f3a34b14a98c2f119daab5baa3669d4f25ae2f3c77698c997f4e", func := "loop.example/g00656/laws.FnRanked", spec := "fnRanked", inPlace := ["internal/reflectlite.ValueOf", "(internal/reflectlite.Value).Type", "(internal/reflectlite.Value).IsNil", "internal/reflectlite.TypeOf", "(internal/reflectlite.Value).Elem", "(internal/reflectlite.Value).Set", "slices.overlaps[*loop.example/g00656/impl.Peer]"], unfollowed := true, recurses := true, named := ["loop.example/g00656/impl.errOutside", "loop.example/g00656/impl.errNoTime", "loop.example/g00656/impl.errUnsure", "errors.errorType"], ifaces := true, apart := false, laid := [("errors.errorType", laid_errors_errorType), ("loop.example/g00656/impl.errNoTime", laid_loop_example_g00656_impl_errNoTime), ("loop.example/g00656/impl.errOutside", laid_loop_example_g00656_impl_errOutside), ("loop.example/g00656/impl.errUnsure", laid_loop_example_g00656_impl_errUnsure)] }
def FnRankedSaid : Prop := fnRankedRow.holds Tryd.pinned (OpenSpec.ofChange fnRankedSpec)

/-- ITS FALSE NEIGHBOUR: 'it returns false'. Refute it at one input. -/
def fnRankedWrong : ChangeSpec := { name := "fnRanked", vars := ["loop.example/g00656/impl.errOutside", "loop.example/g00656/impl.errNoTime", "loop.example/g00656/impl.errUnsure"], fn := fun _ => fun
  | [d, g1, g2, g3] => { results := [.lit (.bool false)], args := [d], vars := [g1, g2, g3] }
  | _ => none }
def FnRankedWrongFalsely : Prop := fnRankedRow.holds Tryd.pinned (OpenSpec.ofChange fnRankedWrong)

/-- 'laws.FnSurvivors': WHATEVER THE INPUT: true; the input reads as it did. -/
def fnSurvivorsSpec : ChangeSpec := { name := "fnSurvivors", vars := ["loop.example/g00656/impl.errOutside", "loop.example/g00656/impl.errNoTime", "loop.example/g00656/impl.errUnsure"], fn := fun _ => fun
  | [d, g1, g2, g3] => { results := [.lit (.bool true)], args := [d], vars := [g1, g2, g3] }
  | _ => none }
def fnSurvivorsRow : OpenClaim := { program := "ytfcmcelhndppnaadoor", sum := "0715fcead802f3a34b14a98c2f119daab5baa3669d4f25ae2f3c77698c997f4e", func := "loop.example/g00656/laws.FnSurvivors", spec := "fnSurvivors", inPlace := ["internal/reflectlite.ValueOf", "(internal/reflectlite.Value).Type", "(internal/reflectlite.Value).IsNil", "internal/reflectlite.TypeOf", "(internal/reflectlite.Value).Elem", "(internal/reflectlite.Value).Set", "slices.overlaps[*loop.example/g00656/impl.Peer]"], unfollowed := true, recurses := true, named := ["loop.example/g00656/impl.errOutside", "loop.example/g00656/impl.errNoTime", "loop.example/g00656/impl.errUnsure", "errors.errorType"], ifaces := true, apart := false, laid := [("errors.errorType", laid_errors_errorType), ("loop.example/g00656/impl.errNoTime", laid_loop_example_g00656_impl_errNoTime), ("loop.example/g00656/impl.errOutside", laid_loop_example_g00656_impl_errOutside), ("loop.example/g00656/impl.errUnsure", laid_loop_example_g00656_impl_errUnsure)] }
def FnSurvivorsSaid : Prop := fnSurvivorsRow.holds Tryd.pinned (OpenSpec.ofChange fnSurvivorsSpec)

/-- ITS FALSE NEIGHBOUR: 'it returns false'. Refute it at one input. -/
def fnSurvivorsWrong : ChangeSpec := { name := "fnSurvivors", vars := ["loop.example/g00656/impl.errOutside", "loop.example/g00656/impl.errNoTime", "loop.example/g00656/impl.errUnsure"], fn := fun _ => fun
  | [d, g1, g2, g3] => { results := [.lit (.bool false)], args := [d], vars := [g1, g2, g3] }
  | _ => none }
def FnSurvivorsWrongFalsely : Prop := fnSurvivorsRow.holds Tryd.pinned (OpenSpec.ofChange fnSurvivorsWrong)

/-- 'laws.FnRankedTwice': WHATEVER THE INPUT: true; the input reads as it did. -/
def fnRankedTwiceSpec : ChangeSpec := { name := "fnRankedTwice", vars := ["loop.example/g00656/impl.errOutside", "loop.example/g00656/impl.errNoTime", "loop.example/g00656/impl.errUnsure"], fn := fun _ => fun
  | [d, g1, g2, g3] => { results := [.lit (.bool true)], args := [d], vars := [g1, g2, g3] }
  | _ => none }
def fnRankedTwiceRow : OpenClaim := { program := "ytfcmcelhndppnaadoor", sum := "0715fcead802f3a34b14a98c2f119daab5baa3669d4f25ae2f3c77698c997f4e", func := "loop.example/g00656/laws.FnRankedTwice", spec := "fnRankedTwice", inPlace := ["internal/reflectlite.ValueOf", "(internal/reflectlite.Value).Type", "(internal/reflectlite.Value).IsNil", "internal/reflectlite.TypeOf", "(internal/reflectlite.Value).Elem", "(internal/reflectlite.Value).Set", "slices.overlaps[*loop.example/g00656/impl.Peer]"], unfollowed := true, recurses := true, named := ["loop.example/g00656/impl.errOutside", "loop.example/g00656/impl.errNoTime", "loop.example/g00656/impl.errUnsure", "errors.errorType"], ifaces := true, apart := false, laid := [("errors.errorType", laid_errors_errorType), ("loop.example/g00656/impl.errNoTime", laid_loop_example_g00656_impl_errNoTime), ("loop.example/g00656/impl.errOutside", laid_loop_example_g00656_impl_errOutside), ("loop.example/g00656/impl.errUnsure", laid_loop_example_g00656_impl_errUnsure)] }
def FnRankedTwiceSaid : Prop := fnRankedTwiceRow.holds Tryd.pinned (OpenSpec.ofChange fnRankedTwiceSpec)

/-- ITS FALSE NEIGHBOUR: 'it returns false'. Refute it at one input. -/
def fnRankedTwiceWrong : ChangeSpec := { name := "fnRankedTwice", vars := ["loop.example/g00656/impl.errOutside", "loop.example/g00656/impl.errNoTime", "loop.example/g00656/impl.errUnsure"], fn := fun _ => fun
  | [d, g1, g2, g3] => { results := [.lit (.bool false)], args := [d], vars := [g1, g2, g3] }
  | _ => none }
def FnRankedTwiceWrongFalsely : Prop := fnRankedTwiceRow.holds Tryd.pinned (OpenSpec.ofChange fnRankedTwiceWrong)

/- THE SECOND FORM. 'bulk': how many values and letters a reading holds, each counted each time it is reached (what is shared counts as often as it is met; a slice's spare places count too). A statement '..UptoSaid' is the law's where the arguments, and the package variables that the reading takes, are together of bulk at most 1048576: NARROWER than '..Said'. Prove '..Said' where nothing that the law and all that it calls make is longer than what came in: it says more and counts as full. Else prove '..UptoSaid'. A law counts once. -/
mutual
def uptoBulk {H : Type} : DataW H → Nat
  | .lit (.string bytes) => bytes.length + 1
  | .lit _ => 1
  | .nil => 1
  | .ptr d => uptoBulk d + 1
  | .slice elems spare => uptoBulkAll elems + uptoBulkAll spare + 1
  | .agg parts => uptoBulkAll parts + 1
  | .iface _ d => uptoBulk d + 1
  | .map entries => uptoBulkEntries entries + 1
  | .held _ => 1
def uptoBulkAll {H : Type} : List (DataW H) → Nat
  | [] => 0
  | d :: r => uptoBulk d + uptoBulkAll r
def uptoBulkEntries {H : Type} : List (Lit × DataW H) → Nat
  | [] => 0
  | x :: r => uptoBulkEntry x + uptoBulkEntries r
def uptoBulkEntry {H : Type} : Lit × DataW H → Nat
  | (.string bytes, d) => bytes.length + uptoBulk d + 1
  | (_, d) => uptoBulk d + 1
 end
def uptoSmall : (H : Type) → List (DataW H) → Bool := fun _ ds => decide (uptoBulkAll ds ≤ 1048576)
def OpenSpec.upto (s : _root_.Go.ChangeSpec) : _root_.Go.OpenSpec := { _root_.Go.OpenSpec.ofChange s with cond := some uptoSmall }

/-- 'laws.FnExactRanked', WHERE WHAT IT READS IS OF BULK AT MOST 1048576: true; the input reads as it did. -/
def fnExactRankedUptoRow : OpenClaim := { program := "ytfcmcelhndppnaadoor", sum := "0715fcead802f3a34b14a98c2f119daab5baa3669d4f25ae2f3c77698c997f4e", func := "loop.example/g00656/laws.FnExactRanked", spec := "fnExactRanked", inPlace := ["internal/reflectlite.ValueOf", "(internal/reflectlite.Value).Type", "(internal/reflectlite.Value).IsNil", "internal/reflectlite.TypeOf", "(internal/reflectlite.Value).Elem", "(internal/reflectlite.Value).Set", "slices.overlaps[*loop.example/g00656/impl.Peer]"], unfollowed := true, recurses := true, named := ["loop.example/g00656/impl.errOutside", "loop.example/g00656/impl.errNoTime", "loop.example/g00656/impl.errUnsure", "errors.errorType"], ifaces := true, apart := false, laid := [("errors.errorType", laid_errors_errorType), ("loop.example/g00656/impl.errNoTime", laid_loop_example_g00656_impl_errNoTime), ("loop.example/g00656/impl.errOutside", laid_loop_example_g00656_impl_errOutside), ("loop.example/g00656/impl.errUnsure", laid_loop_example_g00656_impl_errUnsure)], narrowed := true }
def FnExactRankedUptoSaid : Prop := fnExactRankedUptoRow.holds Tryd.pinned (OpenSpec.upto fnExactRankedSpec)

/-- 'laws.FnExactSurvivors', WHERE WHAT IT READS IS OF BULK AT MOST 1048576: true; the input reads as it did. -/
def fnExactSurvivorsUptoRow : OpenClaim := { program := "ytfcmcelhndppnaadoor", sum := "0715fcead802f3a34b14a98c2f119daab5baa3669d4f25ae2f3c77698c997f4e", func := "loop.example/g00656/laws.FnExactSurvivors", spec := "fnExactSurvivors", inPlace := ["internal/reflectlite.ValueOf", "(internal/reflectlite.Value).Type", "(internal/reflectlite.Value).IsNil", "internal/reflectlite.TypeOf", "(internal/reflectlite.Value).Elem", "(internal/reflectlite.Value).Set", "slices.overlaps[*loop.example/g00656/impl.Peer]"], unfollowed := true, recurses := true, named := ["loop.example/g00656/impl.errOutside", "loop.example/g00656/impl.errNoTime", "loop.example/g00656/impl.errUnsure", "errors.errorType"], ifaces := true, apart := false, laid := [("errors.errorType", laid_errors_errorType), ("loop.example/g00656/impl.errNoTime", laid_loop_example_g00656_impl_errNoTime), ("loop.example/g00656/impl.errOutside", laid_loop_example_g00656_impl_errOutside), ("loop.example/g00656/impl.errUnsure", laid_loop_example_g00656_impl_errUnsure)], narrowed := true }
def FnExactSurvivorsUptoSaid : Prop := fnExactSurvivorsUptoRow.holds Tryd.pinned (OpenSpec.upto fnExactSurvivorsSpec)

/-- 'laws.FnRanked', WHERE WHAT IT READS IS OF BULK AT MOST 1048576: true; the input reads as it did. -/
def fnRankedUptoRow : OpenClaim := { program := "ytfcmcelhndppnaadoor", sum := "0715fcead802f3a34b14a98c2f119daab5baa3669d4f25ae2f3c77698c997f4e", func := "loop.example/g00656/laws.FnRanked", spec := "fnRanked", inPlace := ["internal/reflectlite.ValueOf", "(internal/reflectlite.Value).Type", "(internal/reflectlite.Value).IsNil", "internal/reflectlite.TypeOf", "(internal/reflectlite.Value).Elem", "(internal/reflectlite.Value).Set", "slices.overlaps[*loop.example/g00656/impl.Peer]"], unfollowed := true, recurses := true, named := ["loop.example/g00656/impl.errOutside", "loop.example/g00656/impl.errNoTime", "loop.example/g00656/impl.errUnsure", "errors.errorType"], ifaces := true, apart := false, laid := [("errors.errorType", laid_errors_errorType), ("loop.example/g00656/impl.errNoTime", laid_loop_example_g00656_impl_errNoTime), ("loop.example/g00656/impl.errOutside", laid_loop_example_g00656_impl_errOutside), ("loop.example/g00656/impl.errUnsure", laid_loop_example_g00656_impl_errUnsure)], narrowed := true }
def FnRankedUptoSaid : Prop := fnRankedUptoRow.holds Tryd.pinned (OpenSpec.upto fnRankedSpec)

/-- 'laws.FnSurvivors', WHERE WHAT IT READS IS OF BULK AT MOST 1048576: true; the input reads as it did. -/
def fnSurvivorsUptoRow : OpenClaim := { program := "ytfcmcelhndppnaadoor", sum := "0715fcead802f3a34b14a98c2f119daab5baa3669d4f25ae2f3c77698c997f4e", func := "loop.example/g00656/laws.FnSurvivors", spec := "fnSurvivors", inPlace := ["internal/reflectlite.ValueOf", "(internal/reflectlite.Value).Type", "(internal/reflectlite.Value).IsNil", "internal/reflectlite.TypeOf", "(internal/reflectlite.Value).Elem", "(internal/reflectlite.Value).Set", "slices.overlaps[*loop.example/g00656/impl.Peer]"], unfollowed := true, recurses := true, named := ["loop.example/g00656/impl.errOutside", "loop.example/g00656/impl.errNoTime", "loop.example/g00656/impl.errUnsure", "errors.errorType"], ifaces := true, apart := false, laid := [("errors.errorType", laid_errors_errorType), ("loop.example/g00656/impl.errNoTime", laid_loop_example_g00656_impl_errNoTime), ("loop.example/g00656/impl.errOutside", laid_loop_example_g00656_impl_errOutside), ("loop.example/g00656/impl.errUnsure", laid_loop_example_g00656_impl_errUnsure)], narrowed := true }
def FnSurvivorsUptoSaid : Prop := fnSurvivorsUptoRow.holds Tryd.pinned (OpenSpec.upto fnSurvivorsSpec)

/-- 'laws.FnRankedTwice', WHERE WHAT IT READS IS OF BULK AT MOST 1048576: true; the input reads as it did. -/
def fnRankedTwiceUptoRow : OpenClaim := { program := "ytfcmcelhndppnaadoor", sum := "0715fcead802f3a34b14a98c2f119daab5baa3669d4f25ae2f3c77698c997f4e", func := "loop.example/g00656/laws.FnRankedTwice", spec := "fnRankedTwice", inPlace := ["internal/reflectlite.ValueOf", "(internal/reflectlite.Value).Type", "(internal/reflectlite.Value).IsNil", "internal/reflectlite.TypeOf", "(internal/reflectlite.Value).Elem", "(internal/reflectlite.Value).Set", "slices.overlaps[*loop.example/g00656/impl.Peer]"], unfollowed := true, recurses := true, named := ["loop.example/g00656/impl.errOutside", "loop.example/g00656/impl.errNoTime", "loop.example/g00656/impl.errUnsure", "errors.errorType"], ifaces := true, apart := false, laid := [("errors.errorType", laid_errors_errorType), ("loop.example/g00656/impl.errNoTime", laid_loop_example_g00656_impl_errNoTime), ("loop.example/g00656/impl.errOutside", laid_loop_example_g00656_impl_errOutside), ("loop.example/g00656/impl.errUnsure", laid_loop_example_g00656_impl_errUnsure)], narrowed := true }
def FnRankedTwiceUptoSaid : Prop := fnRankedTwiceUptoRow.holds Tryd.pinned (OpenSpec.upto fnRankedTwiceSpec)

end Rows
end Go.Proofs.YtfcmcelhndppnaaDoor
