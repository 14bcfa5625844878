/-
  NARROWER THAN 'FOR EVERY INPUT', by the rows' own cells (each row's printed sentence says how): FnFilter: ifaces, laid · FnBest: ifaces, laid · FnJitter: ifaces, laid · FnFilterLast: ifaces, laid · FnSpikeNear: ifaces, laid · FnExactFilterOk: ifaces, laid · FnExactFilterAdd: ifaces, laid · FnExactBestOf: ifaces, laid · FnExactJitterOf: ifaces, laid · FnExactPopcorn: ifaces, laid.
  DERIVED. THE GIVEN ROWS OF THIS SEAT. 10 by the template 'for every input the law returns true; each argument reads behind the call as it read before'; 0 by the template 'total and deterministic' (their statements: YtmekjnnfnlkhiaaDoorTotals.lean).
  GIVEN WITH THE SEED: the statements are not yours to turn. If you find one false, say at which input.
  Laid BY PROGRAM, IN A SANDBOX (cutbox-rows.mjs): the forced cells as the released guide's own fill.sh prints them over the translation a8e948e64b1ff591… (all of the seat's roots in one cut). By AI agents, Wed Nov 11 2026. No macro, syntax, notation, axiom, sorry.
-/
import Derived.Test.YtmekjnnfnlkhiaaDoorChecked
import GoSem.Claim
import GoSem.ClaimJoined
import GoSem.ClaimMapViews
import Derived.JoinedTies
import Derived.KernelRfl
namespace Go.Proofs.YtmekjnnfnlkhiaaDoor
/- THE CELL 'sum', in the pinned program and in every row, IS THE sha256 OF THE DUMP (.gsa) THAT YtmekjnnfnlkhiaaDoorProg.lean LOADS. Nothing in Lean hashes anything: it is a label: what it is worth is what the hold of that sum in a sandbox is worth. -/
noncomputable def Tryd.pinned : Pinned := { name := "ytmekjnnfnlkhiaadoor", sum := "a8e948e64b1ff591ce24968d0d231fd35726188a1de2817c964c0995474ad2b6", checked := Tryd.checked }
namespace Rows
def none {H : Type} : Left H := { results := [], args := [] }

/- WHAT THE LISTED PACKAGE-LEVEL VARIABLES READ AS WHEN THE CALL BEGINS. Each datum BY PROGRAM (the guide's laid-datum.mjs) off the statement by which the dump's own 'gosem.cut.vars' lays the variable. In a bare row this is a premise. The card (YtmekjnnfnlkhiaaDoorCards.lean) ties it to the program's text. -/
def laid_errors_errorType {H : Type} : DataW H := .iface "internal/reflectlite.rtype" (.agg [.ptr (.lit (.string [101, 114, 114, 111, 114]))])
def laid_loop_example_g00656_impl_errNoTime {H : Type} : DataW H := .iface "*errors.errorString" (.ptr (.agg [.lit (.string [110, 111, 32, 116, 105, 109, 101])]))
def laid_loop_example_g00656_impl_errOutside {H : Type} : DataW H := .iface "*errors.errorString" (.ptr (.agg [.lit (.string [111, 117, 116, 115, 105, 100, 101, 32, 105, 116, 115, 32, 98, 111, 117, 110, 100, 115])]))
def laid_loop_example_g00656_impl_errUnsure {H : Type} : DataW H := .iface "*errors.errorString" (.ptr (.agg [.lit (.string [116, 111, 108, 100, 32, 108, 101, 115, 115, 32, 115, 117, 114, 101, 108, 121, 32, 116, 104, 97, 110, 32, 97, 110, 121, 32, 115, 97, 109, 112, 108, 101])]))

/-- 'laws.FnFilter': WHATEVER THE INPUT: true; the input reads as it did. -/
def fnFilterSpec : ChangeSpec := { name := "fnFilter", vars := ["loop.example/g00656/impl.errOutside", "loop.example/g00656/impl.errNoTime", "loop.example/g00656/impl.errUnsure"], fn := fun _ => fun
  | [d, g1, g2, g3] => { results := [.lit (.bool true)], args := [d], vars := [g1, g2, g3] }
  | _ => none }
def fnFilterRow : OpenClaim := { program := "ytmekjnnfnlkhiaadoor", sum := "a8e948e64b1ff591ce24968d0d231fd35726188a1de2817c964c0995474ad2b6", func := "loop.example/g00656/laws.FnFilter", spec := "fnFilter", inPlace := ["internal/reflectlite.ValueOf", "(internal/reflectlite.Value).Type", "(internal/reflectlite.Value).IsNil", "internal/reflectlite.TypeOf", "(internal/reflectlite.Value).Elem", "(internal/reflectlite.Value).Set"], unfollowed := true, recurses := true, named := ["loop.example/g00656/impl.errOutside", "loop.example/g00656/impl.errNoTime", "loop.example/g00656/impl.errUnsure", "errors.errorType"], ifaces := true, apart := false, laid := [("errors.errorType", laid_errors_errorType), ("loop.example/g00656/impl.errNoTime", laid_loop_example_g00656_impl_errNoTime), ("loop.example/g00656/impl.errOutside", laid_loop_example_g00656_impl_errOutside), ("loop.example/g00656/impl.errUnsure", laid_loop_example_g00656_impl_errUnsure)] }
def FnFilterSaid : Prop := fnFilterRow.holds Tryd.pinned (OpenSpec.ofChange fnFilterSpec)

/-- ITS FALSE NEIGHBOUR: 'it returns false'. Refute it at one input. -/
def fnFilterWrong : ChangeSpec := { name := "fnFilter", vars := ["loop.example/g00656/impl.errOutside", "loop.example/g00656/impl.errNoTime", "loop.example/g00656/impl.errUnsure"], fn := fun _ => fun
  | [d, g1, g2, g3] => { results := [.lit (.bool false)], args := [d], vars := [g1, g2, g3] }
  | _ => none }
def FnFilterWrongFalsely : Prop := fnFilterRow.holds Tryd.pinned (OpenSpec.ofChange fnFilterWrong)

/-- 'laws.FnBest': WHATEVER THE INPUT: true; the input reads as it did. -/
def fnBestSpec : ChangeSpec := { name := "fnBest", vars := ["loop.example/g00656/impl.errOutside", "loop.example/g00656/impl.errNoTime", "loop.example/g00656/impl.errUnsure"], fn := fun _ => fun
  | [d, g1, g2, g3] => { results := [.lit (.bool true)], args := [d], vars := [g1, g2, g3] }
  | _ => none }
def fnBestRow : OpenClaim := { program := "ytmekjnnfnlkhiaadoor", sum := "a8e948e64b1ff591ce24968d0d231fd35726188a1de2817c964c0995474ad2b6", func := "loop.example/g00656/laws.FnBest", spec := "fnBest", inPlace := ["internal/reflectlite.ValueOf", "(internal/reflectlite.Value).Type", "(internal/reflectlite.Value).IsNil", "internal/reflectlite.TypeOf", "(internal/reflectlite.Value).Elem", "(internal/reflectlite.Value).Set"], unfollowed := true, recurses := true, named := ["loop.example/g00656/impl.errOutside", "loop.example/g00656/impl.errNoTime", "loop.example/g00656/impl.errUnsure", "errors.errorType"], ifaces := true, apart := false, laid := [("errors.errorType", laid_errors_errorType), ("loop.example/g00656/impl.errNoTime", laid_loop_example_g00656_impl_errNoTime), ("loop.example/g00656/impl.errOutside", laid_loop_example_g00656_impl_errOutside), ("loop.example/g00656/impl.errUnsure", laid_loop_example_g00656_impl_errUnsure)] }
def FnBestSaid : Prop := fnBestRow.holds Tryd.pinned (OpenSpec.ofChange fnBestSpec)

/-- ITS FALSE NEIGHBOUR: 'it returns false'. Refute it at one input. -/
def fnBestWrong : ChangeSpec := { name := "fnBest", vars := ["loop.example/g00656/impl.errOutside", "loop.example/g00656/impl.errNoTime", "loop.example/g00656/impl.errUnsure"], fn := fun _ => fun
  | [d, g1, g2, g3] => { results := [.lit (.bool false)], args := [d], vars := [g1, g2, g3] }
  | _ => none }
def FnBestWrongFalsely : Prop := fnBestRow.holds Tryd.pinned (OpenSpec.ofChange fnBestWrong)

/-- 'laws.FnJitter': WHATEVER THE INPUT: true; the input reads as it did. -/
def fnJitterSpec : ChangeSpec := { name := "fnJitter", vars := ["loop.example/g00656/impl.errOutside", "loop.example/g00656/impl.errNoTime", "loop.example/g00656/impl.errUnsure"], fn := fun _ => fun
  | [d, g1, g2, g3] => { results := [.lit (.bool true)], args := [d], vars := [g1, g2, g3] }
  | _ => none }
def fnJitterRow : OpenClaim := { program := "ytmekjnnfnlkhiaadoor", sum := "a8e948e64b1ff591ce24968d0d231fd35726188a1de2817c964c0995474ad2b6", func := "loop.example/g00656/laws.FnJitter", spec := "fnJitter", inPlace := ["internal/reflectlite.ValueOf", "(internal/reflectlite.Value).Type", "(internal/reflectlite.Value).IsNil", "internal/reflectlite.TypeOf", "(internal/reflectlite.Value).Elem", "(internal/reflectlite.Value).Set"], unfollowed := true, recurses := true, named := ["loop.example/g00656/impl.errOutside", "loop.example/g00656/impl.errNoTime", "loop.example/g00656/impl.errUnsure", "errors.errorType"], ifaces := true, apart := false, laid := [("errors.errorType", laid_errors_errorType), ("loop.example/g00656/impl.errNoTime", laid_loop_example_g00656_impl_errNoTime), ("loop.example/g00656/impl.errOutside", laid_loop_example_g00656_impl_errOutside), ("loop.example/g00656/impl.errUnsure", laid_loop_example_g00656_impl_errUnsure)] }
def FnJitterSaid : Prop := fnJitterRow.holds Tryd.pinned (OpenSpec.ofChange fnJitterSpec)

/-- ITS FALSE NEIGHBOUR: 'it returns false'. Refute it at one input. -/
def fnJitterWrong : ChangeSpec := { name := "fnJitter", vars := ["loop.example/g00656/impl.errOutside", "loop.example/g00656/impl.errNoTime", "loop.example/g00656/impl.errUnsure"], fn := fun _ => fun
  | [d, g1, g2, g3] => { results := [.lit (.bool false)], args := [d], vars := [g1, g2, g3] }
  | _ => none }
def FnJitterWrongFalsely : Prop := fnJitterRow.holds Tryd.pinned (OpenSpec.ofChange fnJitterWrong)

/-- 'laws.FnFilterLast': WHATEVER THE INPUT: true; the input reads as it did. -/
def fnFilterLastSpec : ChangeSpec := { name := "fnFilterLast", vars := ["loop.example/g00656/impl.errOutside", "loop.example/g00656/impl.errNoTime", "loop.example/g00656/impl.errUnsure"], fn := fun _ => fun
  | [d, g1, g2, g3] => { results := [.lit (.bool true)], args := [d], vars := [g1, g2, g3] }
  | _ => none }
def fnFilterLastRow : OpenClaim := { program := "ytmekjnnfnlkhiaadoor", sum := "a8e948e64b1ff591ce24968d0d231fd35726188a1de2817c964c0995474ad2b6", func := "loop.example/g00656/laws.FnFilterLast", spec := "fnFilterLast", inPlace := ["internal/reflectlite.ValueOf", "(internal/reflectlite.Value).Type", "(internal/reflectlite.Value).IsNil", "internal/reflectlite.TypeOf", "(internal/reflectlite.Value).Elem", "(internal/reflectlite.Value).Set"], unfollowed := true, recurses := true, named := ["loop.example/g00656/impl.errOutside", "loop.example/g00656/impl.errNoTime", "loop.example/g00656/impl.errUnsure", "errors.errorType"], ifaces := true, apart := false, laid := [("errors.errorType", laid_errors_errorType), ("loop.example/g00656/impl.errNoTime", laid_loop_example_g00656_impl_errNoTime), ("loop.example/g00656/impl.errOutside", laid_loop_example_g00656_impl_errOutside), ("loop.example/g00656/impl.errUnsure", laid_loop_example_g00656_impl_errUnsure)] }
def FnFilterLastSaid : Prop := fnFilterLastRow.holds Tryd.pinned (OpenSpec.ofChange fnFilterLastSpec)

/-- ITS FALSE NEIGHBOUR: 'it returns false'. Refute it at one input. -/
def fnFilterLastWrong : ChangeSpec := { name := "fnFilterLast", vars := ["loop.example/g00656/impl.errOutside", "loop.example/g00656/impl.errNoTime", "loop.example/g00656/impl.errUnsure"], fn := fun _ => fun
  | [d, g1, g2, g3] => { results := [.lit (.bool false)], args := [d], vars := [g1, g2, g3] }
  | _ => none }
def FnFilterLastWrongFalsely : Prop := fnFilterLastRow.holds Tryd.pinned (OpenSpec.ofChange fnFilterLastWrong)

/-- 'laws.FnSpikeNear': WHATEVER THE INPUT: true; the input reads as it did. -/
def fnSpikeNearSpec : ChangeSpec := { name := "fnSpikeNear", vars := ["loop.example/g00656/impl.errOutside", "loop.example/g00656/impl.errNoTime", "loop.example/g00656/impl.errUnsure"], fn := fun _ => fun
  | [d, g1, g2, g3] => { results := [.lit (.bool true)], args := [d], vars := [g1, g2, g3] }
  | _ => none }
def fnSpikeNearRow : OpenClaim := { program := "ytmekjnnfnlkhiaadoor", sum := "a8e948e64b1ff591ce24968d0d231fd35726188a1de2817c964c0995474ad2b6", func := "loop.example/g00656/laws.FnSpikeNear", spec := "fnSpikeNear", inPlace := ["internal/reflectlite.ValueOf", "(internal/reflectlite.Value).Type", "(internal/reflectlite.Value).IsNil", "internal/reflectlite.TypeOf", "(internal/reflectlite.Value).Elem", "(internal/reflectlite.Value).Set"], unfollowed := true, recurses := true, named := ["loop.example/g00656/impl.errOutside", "loop.example/g00656/impl.errNoTime", "loop.example/g00656/impl.errUnsure", "errors.errorType"], ifaces := true, apart := false, laid := [("errors.errorType", laid_errors_errorType), ("loop.example/g00656/impl.errNoTime", laid_loop_example_g00656_impl_errNoTime), ("loop.example/g00656/impl.errOutside", laid_loop_example_g00656_impl_errOutside), ("loop.example/g00656/impl.errUnsure", laid_loop_example_g00656_impl_errUnsure)] }
def FnSpikeNearSaid : Prop := fnSpikeNearRow.holds Tryd.pinned (OpenSpec.ofChange fnSpikeNearSpec)

/-- ITS FALSE NEIGHBOUR: 'it returns false'. Refute it at one input. -/
def fnSpikeNearWrong : ChangeSpec := { name := "fnSpikeNear", vars := ["loop.example/g00656/impl.errOutside", "loop.example/g00656/impl.errNoTime", "loop.example/g00656/impl.errUnsure"], fn := fun _ => fun
  | [d, g1, g2, g3] => { results := [.lit (.bool false)], args := [d], vars := [g1, g2, g3] }
  | _ => none }
def FnSpikeNearWrongFalsely : Prop := fnSpikeNearRow.holds Tryd.pinned (OpenSpec.ofChange fnSpikeNearWrong)

/-- 'laws.FnExactFilterOk': WHATEVER THE INPUT: true; the input reads as it did. -/
def fnExactFilterOkSpec : ChangeSpec := { name := "fnExactFilterOk", vars := ["loop.example/g00656/impl.errOutside", "loop.example/g00656/impl.errNoTime", "loop.example/g00656/impl.errUnsure"], fn := fun _ => fun
  | [d, g1, g2, g3] => { results := [.lit (.bool true)], args := [d], vars := [g1, g2, g3] }
  | _ => none }
def fnExactFilterOkRow : OpenClaim := { program := "ytmekjnnfnlkhiaadoor", sum := "a8e948e64b1ff591ce24968d0d231fd35726188a1de2817c964c0995474ad2b6", func := "loop.example/g00656/laws.FnExactFilterOk", spec := "fnExactFilterOk", inPlace := ["internal/reflectlite.ValueOf", "(internal/reflectlite.Value).Type", "(internal/reflectlite.Value).IsNil", "internal/reflectlite.TypeOf", "(internal/reflectlite.Value).Elem", "(internal/reflectlite.Value).Set"], unfollowed := true, recurses := true, named := ["loop.example/g00656/impl.errOutside", "loop.example/g00656/impl.errNoTime", "loop.example/g00656/impl.errUnsure", "errors.errorType"], ifaces := true, apart := false, laid := [("errors.errorType", laid_errors_errorType), ("loop.example/g00656/impl.errNoTime", laid_loop_example_g00656_impl_errNoTime), ("loop.example/g00656/impl.errOutside", laid_loop_example_g00656_impl_errOutside), ("loop.example/g00656/impl.errUnsure", laid_loop_example_g00656_impl_errUnsure)] }
def FnExactFilterOkSaid : Prop := fnExactFilterOkRow.holds Tryd.pinned (OpenSpec.ofChange fnExactFilterOkSpec)

/-- ITS FALSE NEIGHBOUR: 'it returns false'. Refute it at one input. -/
def fnExactFilterOkWrong : ChangeSpec := { name := "fnExactFilterOk", vars := ["loop.example/g00656/impl.errOutside", "loop.example/g00656/impl.errNoTime", "loop.example/g00656/impl.errUnsure"], fn := fun _ => fun
  | [d, g1, g2, g3] => { results := [.lit (.bool false)], args := [d], vars := [g1, g2, g3] }
  | _ => none }
def FnExactFilterOkWrongFalsely : Prop := fnExactFilterOkRow.holds Tryd.pinned (OpenSpec.ofChange fnExactFilterOkWrong)

/-- 'laws.FnExactFilterAdd': WHATEVER THE INPUT: true; the input reads as it did. -/
def fnExactFilterAddSpec : ChangeSpec := { name := "fnExactFilterAdd", vars := ["loop.example/g00656/impl.errOutside", "loop.example/g00656/impl.errNoTime", "loop.example/g00656/impl.errUnsure"], fn := fun _ => fun
  | [d1, d2, g1, g2, g3] => { results := [.lit (.bool true)], args := [d1, d2], vars := [g1, g2, g3] }
  | _ => none }
def fnExactFilterAddRow : OpenClaim := { program := "ytmekjnnfnlkhiaadoor", sum := "a8e948e64b1ff591ce24968d0d231fd35726188a1de2817c964c0995474ad2b6", func := "loop.example/g00656/laws.FnExactFilterAdd", spec := "fnExactFilterAdd", inPlace := ["internal/reflectlite.ValueOf", "(internal/reflectlite.Value).Type", "(internal/reflectlite.Value).IsNil", "internal/reflectlite.TypeOf", "(internal/reflectlite.Value).Elem", "(internal/reflectlite.Value).Set"], unfollowed := true, recurses := true, named := ["loop.example/g00656/impl.errOutside", "loop.example/g00656/impl.errNoTime", "loop.example/g00656/impl.errUnsure", "errors.errorType"], ifaces := true, apart := false, laid := [("errors.errorType", laid_errors_errorType), ("loop.example/g00656/impl.errNoTime", laid_loop_example_g00656_impl_errNoTime), ("loop.example/g00656/impl.errOutside", laid_loop_example_g00656_impl_errOutside), ("loop.example/g00656/impl.errUnsure", laid_loop_example_g00656_impl_errUnsure)] }
def FnExactFilterAddSaid : Prop := fnExactFilterAddRow.holds Tryd.pinned (OpenSpec.ofChange fnExactFilterAddSpec)

/-- ITS FALSE NEIGHBOUR: 'it returns false'. Refute it at one input. -/
def fnExactFilterAddWrong : ChangeSpec := { name := "fnExactFilterAdd", vars := ["loop.example/g00656/impl.errOutside", "loop.example/g00656/impl.errNoTime", "loop.example/g00656/impl.errUnsure"], fn := fun _ => fun
  | [d1, d2, g1, g2, g3] => { results := [.lit (.bool false)], args := [d1, d2], vars := [g1, g2, g3] }
  | _ => none }
def FnExactFilterAddWrongFalsely : Prop := fnExactFilterAddRow.holds Tryd.pinned (OpenSpec.ofChange fnExactFilterAddWrong)

/-- 'laws.FnExactBestOf': WHATEVER THE INPUT: true; the input reads as it did. -/
def fnExactBestOfSpec : ChangeSpec := { name := "fnExactBestOf", vars := ["loop.example/g00656/impl.errOutside", "loop.example/g00656/impl.errNoTime", "loop.example/g00656/impl.errUnsure"], fn := fun _ => fun
  | [d, g1, g2, g3] => { results := [.lit (.bool true)], args := [d], vars := [g1, g2, g3] }
  | _ => none }
def fnExactBestOfRow : OpenClaim := { program := "ytmekjnnfnlkhiaadoor", sum := "a8e948e64b1ff591ce24968d0d231fd35726188a1de2817c964c0995474ad2b6", func := "loop.example/g00656/laws.FnExactBestOf", spec := "fnExactBestOf", inPlace := ["internal/reflectlite.ValueOf", "(internal/reflectlite.Value).Type", "(internal/reflectlite.Value).IsNil", "internal/reflectlite.TypeOf", "(internal/reflectlite.Value).Elem", "(internal/reflectlite.Value).Set"], unfollowed := true, recurses := true, named := ["loop.example/g00656/impl.errOutside", "loop.example/g00656/impl.errNoTime", "loop.example/g00656/impl.errUnsure", "errors.errorType"], ifaces := true, apart := false, laid := [("errors.errorType", laid_errors_errorType), ("loop.example/g00656/impl.errNoTime", laid_loop_example_g00656_impl_errNoTime), ("loop.example/g00656/impl.errOutside", laid_loop_example_g00656_impl_errOutside), ("loop.example/g00656/impl.errUnsure", laid_loop_example_g00656_impl_errUnsure)] }
def FnExactBestOfSaid : Prop := fnExactBestOfRow.holds Tryd.pinned (OpenSpec.ofChange fnExactBestOfSpec)

/-- ITS FALSE NEIGHBOUR: 'it returns false'. Refute it at one input. -/
def fnExactBestOfWrong : ChangeSpec := { name := "fnExactBestOf", vars := ["loop.example/g00656/impl.errOutside", "loop.example/g00656/impl.errNoTime", "loop.example/g00656/impl.errUnsure"], fn := fun _ => fun
  | [d, g1, g2, g3] => { results := [.lit (.bool false)], args := [d], vars := [g1, g2, g3] }
  | _ => none }
def FnExactBestOfWrongFalsely : Prop := fnExactBestOfRow.holds Tryd.pinned (OpenSpec.ofChange fnExactBestOfWrong)

/-- 'laws.FnExactJitterOf': WHATEVER THE INPUT: true; the input reads as it did. -/
def fnExactJitterOfSpec : ChangeSpec := { name := "fnExactJitterOf", vars := ["loop.example/g00656/impl.errOutside", "loop.example/g00656/impl.errNoTime", "loop.example/g00656/impl.errUnsure"], fn := fun _ => fun
  | [d, g1, g2, g3] => { results := [.lit (.bool true)], args := [d], vars := [g1, g2, g3] }
  | _ => none }
def fnExactJitterOfRow : OpenClaim := { program := "ytmekjnnfnlkhiaadoor", sum := "a8e948e64b1ff591ce24968d0d231fd35726188a1de2817c964c0995474ad2b6", func := "loop.example/g00656/laws.FnExactJitterOf", spec := "fnExactJitterOf", inPlace := ["internal/reflectlite.ValueOf", "(internal/reflectlite.Value).Type", "(internal/reflectlite.Value).IsNil", "internal/reflectlite.TypeOf", "(internal/reflectlite.Value).Elem", "(internal/reflectlite.Value).Set"], unfollowed := true, recurses := true, named := ["loop.example/g00656/impl.errOutside", "loop.example/g00656/impl.errNoTime", "loop.example/g00656/impl.errUnsure", "errors.errorType"], ifaces := true, apart := false, laid := [("errors.errorType", laid_errors_errorType), ("loop.example/g00656/impl.errNoTime", laid_loop_example_g00656_impl_errNoTime), ("loop.example/g00656/impl.errOutside", laid_loop_example_g00656_impl_errOutside), ("loop.example/g00656/impl.errUnsure", laid_loop_example_g00656_impl_errUnsure)] }
def FnExactJitterOfSaid : Prop := fnExactJitterOfRow.holds Tryd.pinned (OpenSpec.ofChange fnExactJitterOfSpec)

/-- ITS FALSE NEIGHBOUR: 'it returns false'. Refute it at one input. -/
def fnExactJitterOfWrong : ChangeSpec := { name := "fnExactJitterOf", vars := ["loop.example/g00656/impl.errOutside", "loop.example/g00656/impl.errNoTime", "loop.example/g00656/impl.errUnsure"], fn := fun _ => fun
  | [d, g1, g2, g3] => { results := [.lit (.bool false)], args := [d], vars := [g1, g2, g3] }
  | _ => none }
def FnExactJitterOfWrongFalsely : Prop := fnExactJitterOfRow.holds Tryd.pinned (OpenSpec.ofChange fnExactJitterOfWrong)

/-- 'laws.FnExactPopcorn': WHATEVER THE INPUT: true; the input reads as it did. -/
def fnExactPopcornSpec : ChangeSpec := { name := "fnExactPopcorn", vars := ["loop.example/g00656/impl.errOutside", "loop.example/g00656/impl.errNoTime", "loop.example/g00656/impl.errUnsure"], fn := fun _ => fun
  | [d1, d2, g1, g2, g3] => { results := [.lit (.bool true)], args := [d1, d2], vars := [g1, g2, g3] }
  | _ => none }
def fnExactPopcornRow : OpenClaim := { program := "ytmekjnnfnlkhiaadoor", sum := "a8e948e64b1ff591ce24968d0d231fd35726188a1de2817c964c0995474ad2b6", func := "loop.example/g00656/laws.FnExactPopcorn", spec := "fnExactPopcorn", inPlace := ["internal/reflectlite.ValueOf", "(internal/reflectlite.Value).Type", "(internal/reflectlite.Value).IsNil", "internal/reflectlite.TypeOf", "(internal/reflectlite.Value).Elem", "(internal/reflectlite.Value).Set"], unfollowed := true, recurses := true, named := ["loop.example/g00656/impl.errOutside", "loop.example/g00656/impl.errNoTime", "loop.example/g00656/impl.errUnsure", "errors.errorType"], ifaces := true, apart := false, laid := [("errors.errorType", laid_errors_errorType), ("loop.example/g00656/impl.errNoTime", laid_loop_example_g00656_impl_errNoTime), ("loop.example/g00656/impl.errOutside", laid_loop_example_g00656_impl_errOutside), ("loop.example/g00656/impl.errUnsure", laid_loop_example_g00656_impl_errUnsure)] }
def FnExactPopcornSaid : Prop := fnExactPopcornRow.holds Tryd.pinned (OpenSpec.ofChange fnExactPopcornSpec)

/-- ITS FALSE NEIGHBOUR: 'it returns false'. Refute it at one input. -/
def fnExactPopcornWrong : ChangeSpec := { name := "fnExactPopcorn", vars := ["loop.example/g00656/impl.errOutside", "loop.example/g00656/impl.errNoTime", "loop.example/g00656/impl.errUnsure"], fn := fun _ => fun
  | [d1, d2, g1, g2, g3] => { results := [.lit (.bool false)], args := [d1, d2], vars := [g1, g2, g3] }
  | _ => none }
def FnExactPopcornWrongFalsely : Prop := fnExactPopcornRow.holds Tryd.pinned (OpenSpec.ofChange fnExactPopcornWrong)

/- THE SECOND FORM. 'bulk': how many values and letters a reading holds, each counted each time it is reached (what is shared counts as often as it is met; a slice's spare places count too). A statement '..UptoSaid' is the law's where the arguments, and the package variables that the reading takes, are together of bulk at most 1048576: NARROWER than '..Said'. Prove '..Said' where nothing that the law and all that it calls make is longer than what came in: it says more and counts as full. Else prove '..UptoSaid'. A law counts once. -/
mutual
def uptoBulk {H : Type} : DataW H → Nat
  | .lit (.string bytes) => bytes.length + 1
  | .lit _ => 1
  | .nil => 1
  | .ptr d => uptoBulk d + 1
  | .slice elems spare => uptoBulkAll elems + uptoBulkAll spare + 1
  | .agg parts => uptoBulkAll parts + 1
  | .iface _ d => uptoBulk d + 1
  | .map entries => uptoBulkEntries entries + 1
  | .held _ => 1
def uptoBulkAll {H : Type} : List (DataW H) → Nat
  | [] => 0
  | d :: r => uptoBulk d + uptoBulkAll r
def uptoBulkEntries {H : Type} : List (Lit × DataW H) → Nat
  | [] => 0
  | x :: r => uptoBulkEntry x + uptoBulkEntries r
def uptoBulkEntry {H : Type} : Lit × DataW H → Nat
  | (.string bytes, d) => bytes.length + uptoBulk d + 1
  | (_, d) => uptoBulk d + 1
 end
def uptoSmall : (H : Type) → List (DataW H) → Bool := fun _ ds => decide (uptoBulkAll ds ≤ 1048576)
def OpenSpec.upto (s : _root_.Go.ChangeSpec) : _root_.Go.OpenSpec := { _root_.Go.OpenSpec.ofChange s with cond := some uptoSmall }

/-- 'laws.FnFilter', WHERE WHAT IT READS IS OF BULK AT MOST 1048576: true; the input reads as it did. -/
def fnFilterUptoRow : OpenClaim := { program := "ytmekjnnfnlkhiaadoor", sum := "a8e948e64b1ff591ce24968d0d231fd35726188a1de2817c964c0995474ad2b6", func := "loop.example/g00656/laws.FnFilter", spec := "fnFilter", inPlace := ["internal/reflectlite.ValueOf", "(internal/reflectlite.Value).Type", "(internal/reflectlite.Value).IsNil", "internal/reflectlite.TypeOf", "(internal/reflectlite.Value).Elem", "(internal/reflectlite.Value).Set"], unfollowed := true, recurses := true, named := ["loop.example/g00656/impl.errOutside", "loop.example/g00656/impl.errNoTime", "loop.example/g00656/impl.errUnsure", "errors.errorType"], ifaces := true, apart := false, laid := [("errors.errorType", laid_errors_errorType), ("loop.example/g00656/impl.errNoTime", laid_loop_example_g00656_impl_errNoTime), ("loop.example/g00656/impl.errOutside", laid_loop_example_g00656_impl_errOutside), ("loop.example/g00656/impl.errUnsure", laid_loop_example_g00656_impl_errUnsure)], narrowed := true }
def FnFilterUptoSaid : Prop := fnFilterUptoRow.holds Tryd.pinned (OpenSpec.upto fnFilterSpec)

/-- 'laws.FnBest', WHERE WHAT IT READS IS OF BULK AT MOST 1048576: true; the input reads as it did. -/
def fnBestUptoRow : OpenClaim := { program := "ytmekjnnfnlkhiaadoor", sum := "a8e948e64b1ff591ce24968d0d231fd35726188a1de2817c964c0995474ad2b6", func := "loop.example/g00656/laws.FnBest", spec := "fnBest", inPlace := ["internal/reflectlite.ValueOf", "(internal/reflectlite.Value).Type", "(internal/reflectlite.Value).IsNil", "internal/reflectlite.TypeOf", "(internal/reflectlite.Value).Elem", "(internal/reflectlite.Value).Set"], unfollowed := true, recurses := true, named := ["loop.example/g00656/impl.errOutside", "loop.example/g00656/impl.errNoTime", "loop.example/g00656/impl.errUnsure", "errors.errorType"], ifaces := true, apart := false, laid := [("errors.errorType", laid_errors_errorType), ("loop.example/g00656/impl.errNoTime", laid_loop_example_g00656_impl_errNoTime), ("loop.example/g00656/impl.errOutside", laid_loop_example_g00656_impl_errOutside), ("loop.example/g00656/impl.errUnsure", laid_loop_example_g00656_impl_errUnsure)], narrowed := true }
def FnBestUptoSaid : Prop := fnBestUptoRow.holds Tryd.pinned (OpenSpec.upto fnBestSpec)

/-- 'laws.FnJitter', WHERE WHAT IT READS IS OF BULK AT MOST 1048576: true; the input reads as it did. -/
def fnJitterUptoRow : OpenClaim := { program := "ytmekjnnfnlkhiaadoor", sum := "a8e948e64b1ff591ce24968d0d231fd35726188a1de2817c964c0995474ad2b6", func := "loop.example/g00656/laws.FnJitter", spec := "fnJitter", inPlace := ["internal/reflectlite.ValueOf", "(internal/reflectlite.Value).Type", "(internal/reflectlite.Value).IsNil", "internal/reflectlite.TypeOf", "(internal/reflectlite.Value).Elem", "(internal/reflectlite.Value).Set"], unfollowed := true, recurses := true, named := ["loop.example/g00656/impl.errOutside", "loop.example/g00656/impl.errNoTime", "loop.example/g00656/impl.errUnsure", "errors.errorType"], ifaces := true, apart := false, laid := [("errors.errorType", laid_errors_errorType), ("loop.example/g00656/impl.errNoTime", laid_loop_example_g00656_impl_errNoTime), ("loop.example/g00656/impl.errOutside", laid_loop_example_g00656_impl_errOutside), ("loop.example/g00656/impl.errUnsure", laid_loop_example_g00656_impl_errUnsure)], narrowed := true }
def FnJitterUptoSaid : Prop := fnJitterUptoRow.holds Tryd.pinned (OpenSpec.upto fnJitterSpec)

/-- 'laws.FnFilterLast', WHERE WHAT IT READS IS OF BULK AT MOST 1048576: true; the input reads as it did. -/
def fnFilterLastUptoRow : OpenClaim := { program := "ytmekjnnfnlkhiaadoor", sum := "a8e948e64b1ff591ce24968d0d231fd35726188a1de2817c964c0995474ad2b6", func := "loop.example/g00656/laws.FnFilterLast", spec := "fnFilterLast", inPlace := ["internal/reflectlite.ValueOf", "(internal/reflectlite.Value).Type", "(internal/reflectlite.Value).IsNil", "internal/reflectlite.TypeOf", "(internal/reflectlite.Value).Elem", "(internal/reflectlite.Value).Set"], unfollowed := true, recurses := true, named := ["loop.example/g00656/impl.errOutside", "loop.example/g00656/impl.errNoTime", "loop.example/g00656/impl.errUnsure", "errors.errorType"], ifaces := true, apart := false, laid := [("errors.errorType", laid_errors_errorType), ("loop.example/g00656/impl.errNoTime", laid_loop_example_g00656_impl_errNoTime), ("loop.example/g00656/impl.errOutside", laid_loop_example_g00656_impl_errOutside), ("loop.example/g00656/impl.errUnsure", laid_loop_example_g00656_impl_errUnsure)], narrowed := true }
def FnFilterLastUptoSaid : Prop := fnFilterLastUptoRow.holds Tryd.pinned (OpenSpec.upto fnFilterLastSpec)

/-- 'laws.FnSpikeNear', WHERE WHAT IT READS IS OF BULK AT MOST 1048576: true; the input reads as it did. -/
def fnSpikeNearUptoRow : OpenClaim := { program := "ytmekjnnfnlkhiaadoor", sum := "a8e948e64b1ff591ce24968d0d231fd35726188a1de2817c964c0995474ad2b6", func := "loop.example/g00656/laws.FnSpikeNear", spec := "fnSpikeNear", inPlace := ["internal/reflectlite.ValueOf", "(internal/reflectlite.Value).Type", "(internal/reflectlite.Value).IsNil", "internal/reflectlite.TypeOf", "(internal/reflectlite.Value).Elem", "(internal/reflectlite.Value).Set"], unfollowed := true, recurses := true, named := ["loop.example/g00656/impl.errOutside", "loop.example/g00656/impl.errNoTime", "loop.example/g00656/impl.errUnsure", "errors.errorType"], ifaces := true, apart := false, laid := [("errors.errorType", laid_errors_errorType), ("loop.example/g00656/impl.errNoTime", laid_loop_example_g00656_impl_errNoTime), ("loop.example/g00656/impl.errOutside", laid_loop_example_g00656_impl_errOutside), ("loop.example/g00656/impl.errUnsure", laid_loop_example_g00656_impl_errUnsure)], narrowed := true }
def FnSpikeNearUptoSaid : Prop := fnSpikeNearUptoRow.holds Tryd.pinned (OpenSpec.upto fnSpikeNearSpec)

/-- 'laws.FnExactFilterOk', WHERE WHAT IT READS IS OF BULK AT MOST 1048576: true; the input reads as it did. -/
def fnExactFilterOkUptoRow : OpenClaim := { program := "ytmekjnnfnlkhiaadoor", sum := "a8e948e64b1ff591ce24968d0d231fd35726188a1de2817c964c0995474ad2b6", func := "loop.example/g00656/laws.FnExactFilterOk", spec := "fnExactFilterOk", inPlace := ["internal/reflectlite.ValueOf", "(internal/reflectlite.Value).Type", "(internal/reflectlite.Value).IsNil", "internal/reflectlite.TypeOf", "(internal/reflectlite.Value).Elem", "(internal/reflectlite.Value).Set"], unfollowed := true, recurses := true, named := ["loop.example/g00656/impl.errOutside", "loop.example/g00656/impl.errNoTime", "loop.example/g00656/impl.errUnsure", "errors.errorType"], ifaces := true, apart := false, laid := [("errors.errorType", laid_errors_errorType), ("loop.example/g00656/impl.errNoTime", laid_loop_example_g00656_impl_errNoTime), ("loop.example/g00656/impl.errOutside", laid_loop_example_g00656_impl_errOutside), ("loop.example/g00656/impl.errUnsure", laid_loop_example_g00656_impl_errUnsure)], narrowed := true }
def FnExactFilterOkUptoSaid : Prop := fnExactFilterOkUptoRow.holds Tryd.pinned (OpenSpec.upto fnExactFilterOkSpec)

/-- 'laws.FnExactFilterAdd', WHERE WHAT IT READS IS OF BULK AT MOST 1048576: true; the input reads as it did. -/
def fnExactFilterAddUptoRow : OpenClaim := { program := "ytmekjnnfnlkhiaadoor", sum := "a8e948e64b1ff591ce24968d0d231fd35726188a1de2817c964c0995474ad2b6", func := "loop.example/g00656/laws.FnExactFilterAdd", spec := "fnExactFilterAdd", inPlace := ["internal/reflectlite.ValueOf", "(internal/reflectlite.Value).Type", "(internal/reflectlite.Value).IsNil", "internal/reflectlite.TypeOf", "(internal/reflectlite.Value).Elem", "(internal/reflectlite.Value).Set"], unfollowed := true, recurses := true, named := ["loop.example/g00656/impl.errOutside", "loop.example/g00656/impl.errNoTime", "loop.example/g00656/impl.errUnsure", "errors.errorType"], ifaces := true, apart := false, laid := [("errors.errorType", laid_errors_errorType), ("loop.example/g00656/impl.errNoTime", laid_loop_example_g00656_impl_errNoTime), ("loop.example/g00656/impl.errOutside", laid_loop_example_g00656_impl_errOutside), ("loop.example/g00656/impl.errUnsure", laid_loop_example_g00656_impl_errUnsure)], narrowed := true }
def FnExactFilterAddUptoSaid : Prop := fnExactFilterAddUptoRow.holds Tryd.pinned (OpenSpec.upto fnExactFilterAddSpec)

/-- 'laws.FnExactBestOf', WHERE WHAT IT READS IS OF BULK AT MOST 1048576: true; the input reads as it did. -/
def fnExactBestOfUptoRow : OpenClaim := { program := "ytmekjnnfnlkhiaadoor", sum := "a8e948e64b1ff591ce24968d0d231fd35726188a1de2817c964c0995474ad2b6", func := "loop.example/g00656/laws.FnExactBestOf", spec := "fnExactBestOf", inPlace := ["internal/reflectlite.ValueOf", "(internal/reflectlite.Value).Type", "(internal/reflectlite.Value).IsNil", "internal/reflectlite.TypeOf", "(internal/reflectlite.Value).Elem", "(internal/reflectlite.Value).Set"], unfollowed := true, recurses := true, named := ["loop.example/g00656/impl.errOutside", "loop.example/g00656/impl.errNoTime", "loop.example/g00656/impl.errUnsure", "errors.errorType"], ifaces := true, apart := false, laid := [("errors.errorType", laid_errors_errorType), ("loop.example/g00656/impl.errNoTime", laid_loop_example_g00656_impl_errNoTime), ("loop.example/g00656/impl.errOutside", laid_loop_example_g00656_impl_errOutside), ("loop.example/g00656/impl.errUnsure", laid_loop_example_g00656_impl_errUnsure)], narrowed := true }
def FnExactBestOfUptoSaid : Prop := fnExactBestOfUptoRow.holds Tryd.pinned (OpenSpec.upto fnExactBestOfSpec)

/-- 'laws.FnExactJitterOf', WHERE WHAT IT READS IS OF BULK AT MOST 1048576: true; the input reads as it did. -/
def fnExactJitterOfUptoRow : OpenClaim := { program := "ytmekjnnfnlkhiaadoor", sum := "a8e948e64b1ff591ce24968d0d231fd35726188a1de2817c964c0995474ad2b6", func := "loop.example/g00656/laws.FnExactJitterOf", spec := "fnExactJitterOf", inPlace := ["internal/reflectlite.ValueOf", "(internal/reflectlite.Value).Type", "(internal/reflectlite.Value).IsNil", "internal/reflectlite.TypeOf", "(internal/reflectlite.Value).Elem", "(internal/reflectlite.Value).Set"], unfollowed := true, recurses := true, named := ["loop.example/g00656/impl.errOutside", "loop.example/g00656/impl.errNoTime", "loop.example/g00656/impl.errUnsure", "errors.errorType"], ifaces := true, apart := false, laid := [("errors.errorType", laid_errors_errorType), ("loop.example/g00656/impl.errNoTime", laid_loop_example_g00656_impl_errNoTime), ("loop.example/g00656/impl.errOutside", laid_loop_example_g00656_impl_errOutside), ("loop.example/g00656/impl.errUnsure", laid_loop_example_g00656_impl_errUnsure)], narrowed := true }
def FnExactJitterOfUptoSaid : Prop := fnExactJitterOfUptoRow.holds Tryd.pinned (OpenSpec.upto fnExactJitterOfSpec)

/-- 'laws.FnExactPopcorn', WHERE WHAT IT READS IS OF BULK AT MOST 1048576: true; the input reads as it did. -/
def fnExactPopcornUptoRow : OpenClaim := { program := "ytmekjnnfnlkhiaadoor", sum := "a8e948e64b1ff591ce24968d0d231fd35726188a1de2817c964c0995474ad2b6", func := "loop.example/g00656/laws.FnExactPopcorn", spec := "fnExactPopcorn", inPlace := ["internal/reflectlite.ValueOf", "(internal/reflectlite.Value).Type", "(internal/reflectlite.Value).IsNil", "internal/reflectlite.TypeOf", "(internal/reflectlite.Value).Elem", "(internal/reflectlite.Value).Set"], unfollowed := true, recurses := true, named := ["loop.example/g00656/impl.errOutside", "loop.example/g00656/impl.errNoTime", "loop.example/g00656/impl.errUnsure", "errors.errorType"], ifaces := true, apart := false, laid := [("errors.errorType", laid_errors_errorType), ("loop.example/g00656/impl.errNoTime", laid_loop_example_g00656_impl_errNoTime), ("loop.example/g00656/impl.errOutside", laid_loop_example_g00656_impl_errOutside), ("loop.example/g00656/impl.errUnsure", laid_loop_example_g00656_impl_errUnsure)], narrowed := true }
def FnExactPopcornUptoSaid : Prop := fnExactPopcornUptoRow.holds Tryd.pinned (OpenSpec.upto fnExactPopcornSpec)

end Rows
end Go.Proofs.YtmekjnnfnlkhiaaDoor
