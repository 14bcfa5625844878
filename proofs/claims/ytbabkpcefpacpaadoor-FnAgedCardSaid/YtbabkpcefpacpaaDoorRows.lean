/-
  NARROWER THAN 'FOR EVERY INPUT', by the rows' own cells (each row's printed sentence says how): FnExactSampleOk: ifaces, laid · FnExactSampleOf: ifaces, laid · FnExactAged: ifaces, laid · FnExactReach: ifaces, laid · FnSamples: ifaces, laid · FnBound: ifaces, laid · FnAged: ifaces, laid · FnMovedSample: ifaces, laid · FnStay: ifaces, laid · FnAskedBack: ifaces, laid · FnReachMore: ifaces, laid.
  DERIVED. THE GIVEN ROWS OF THIS SEAT. 11 by the template 'for every input the law returns true; each argument reads behind the call as it read before'; 0 by the template 'total and deterministic' (their statements: YtbabkpcefpacpaaDoorTotals.lean).
  GIVEN WITH THE SEED: the statements are not yours to turn. If you find one false, say at which input.
  Laid BY PROGRAM, IN A SANDBOX (cutbox-rows.mjs): the forced cells as the released guide's own fill.sh prints them over the translation 7c407051c5e58240… (all of the seat's roots in one cut). By AI agents, Wed Nov 11 2026. No macro, syntax, notation, axiom, sorry.
-/
import Derived.Test.YtbabkpcefpacpaaDoorChecked
import GoSem.Claim
import GoSem.ClaimJoined
import GoSem.ClaimMapViews
import Derived.JoinedTies
import Derived.KernelRfl
namespace Go.Proofs.YtbabkpcefpacpaaDoor
/- THE CELL 'sum', in the pinned program and in every row, IS THE sha256 OF THE DUMP (.gsa) THAT YtbabkpcefpacpaaDoorProg.lean LOADS. Nothing in Lean hashes anything: it is a label: what it is worth is what the hold of that sum in a sandbox is worth. -/
noncomputable def Tryd.pinned : Pinned := { name := "ytbabkpcefpacpaadoor", sum := "7c407051c5e582400c2b0e2f02bc079c7eda4032ccdea9ad8e804e2830c97f5d", checked := Tryd.checked }
namespace Rows
def none {H : Type} : Left H := { results := [], args := [] }

/- WHAT THE LISTED PACKAGE-LEVEL VARIABLES READ AS WHEN THE CALL BEGINS. Each datum BY PROGRAM (the guide's laid-datum.mjs) off the statement by which the dump's own 'gosem.cut.vars' lays the variable. In a bare row this is a premise. The card (YtbabkpcefpacpaaDoorCards.lean) ties it to the program's text. -/
def laid_errors_errorType {H : Type} : DataW H := .iface "internal/reflectlite.rtype" (.agg [.ptr (.lit (.string [101, 114, 114, 111, 114]))])
def laid_loop_example_g00656_impl_errNoTime {H : Type} : DataW H := .iface "*errors.errorString" (.ptr (.agg [.lit (.string [110, 111, 32, 116, 105, 109, 101])]))
def laid_loop_example_g00656_impl_errOutside {H : Type} : DataW H := .iface "*errors.errorString" (.ptr (.agg [.lit (.string [111, 117, 116, 115, 105, 100, 101, 32, 105, 116, 115, 32, 98, 111, 117, 110, 100, 115])]))
def laid_loop_example_g00656_impl_errUnsure {H : Type} : DataW H := .iface "*errors.errorString" (.ptr (.agg [.lit (.string [116, 111, 108, 100, 32, 108, 101, 115, 115, 32, 115, 117, 114, 101, 108, 121, 32, 116, 104, 97, 110, 32, 97, 110, 121, 32, 115, 97, 109, 112, 108, 101])]))
def laid_loop_example_g00656_impl_errBack {H : Type} : DataW H := .iface "*errors.errorString" (.ptr (.agg [.lit (.string [116, 105, 109, 101, 32, 103, 111, 101, 115, 32, 98, 97, 99, 107])]))

/-- 'laws.FnExactSampleOk': WHATEVER THE INPUT: true; the input reads as it did. -/
def fnExactSampleOkSpec : ChangeSpec := { name := "fnExactSampleOk", vars := ["loop.example/g00656/impl.errOutside", "loop.example/g00656/impl.errNoTime", "loop.example/g00656/impl.errUnsure"], fn := fun _ => fun
  | [d, g1, g2, g3] => { results := [.lit (.bool true)], args := [d], vars := [g1, g2, g3] }
  | _ => none }
def fnExactSampleOkRow : OpenClaim := { program := "ytbabkpcefpacpaadoor", sum := "7c407051c5e582400c2b0e2f02bc079c7eda4032ccdea9ad8e804e2830c97f5d", func := "loop.example/g00656/laws.FnExactSampleOk", spec := "fnExactSampleOk", inPlace := ["internal/reflectlite.ValueOf", "(internal/reflectlite.Value).Type", "(internal/reflectlite.Value).IsNil", "internal/reflectlite.TypeOf", "(internal/reflectlite.Value).Elem", "(internal/reflectlite.Value).Set"], unfollowed := true, recurses := true, named := ["loop.example/g00656/impl.errOutside", "loop.example/g00656/impl.errNoTime", "loop.example/g00656/impl.errUnsure", "errors.errorType"], ifaces := true, apart := false, laid := [("errors.errorType", laid_errors_errorType), ("loop.example/g00656/impl.errNoTime", laid_loop_example_g00656_impl_errNoTime), ("loop.example/g00656/impl.errOutside", laid_loop_example_g00656_impl_errOutside), ("loop.example/g00656/impl.errUnsure", laid_loop_example_g00656_impl_errUnsure)] }
def FnExactSampleOkSaid : Prop := fnExactSampleOkRow.holds Tryd.pinned (OpenSpec.ofChange fnExactSampleOkSpec)

/-- ITS FALSE NEIGHBOUR: 'it returns false'. Refute it at one input. -/
def fnExactSampleOkWrong : ChangeSpec := { name := "fnExactSampleOk", vars := ["loop.example/g00656/impl.errOutside", "loop.example/g00656/impl.errNoTime", "loop.example/g00656/impl.errUnsure"], fn := fun _ => fun
  | [d, g1, g2, g3] => { results := [.lit (.bool false)], args := [d], vars := [g1, g2, g3] }
  | _ => none }
def FnExactSampleOkWrongFalsely : Prop := fnExactSampleOkRow.holds Tryd.pinned (OpenSpec.ofChange fnExactSampleOkWrong)

/-- 'laws.FnExactSampleOf': WHATEVER THE INPUT: true; the input reads as it did. -/
def fnExactSampleOfSpec : ChangeSpec := { name := "fnExactSampleOf", vars := ["loop.example/g00656/impl.errNoTime", "loop.example/g00656/impl.errBack", "loop.example/g00656/impl.errUnsure", "loop.example/g00656/impl.errOutside"], fn := fun _ => fun
  | [d1, d2, d3, d4, g1, g2, g3, g4] => { results := [.lit (.bool true)], args := [d1, d2, d3, d4], vars := [g1, g2, g3, g4] }
  | _ => none }
def fnExactSampleOfRow : OpenClaim := { program := "ytbabkpcefpacpaadoor", sum := "7c407051c5e582400c2b0e2f02bc079c7eda4032ccdea9ad8e804e2830c97f5d", func := "loop.example/g00656/laws.FnExactSampleOf", spec := "fnExactSampleOf", inPlace := ["internal/reflectlite.ValueOf", "(internal/reflectlite.Value).Type", "(internal/reflectlite.Value).IsNil", "internal/reflectlite.TypeOf", "(internal/reflectlite.Value).Elem", "(internal/reflectlite.Value).Set"], unfollowed := true, recurses := true, named := ["loop.example/g00656/impl.errNoTime", "loop.example/g00656/impl.errBack", "errors.errorType", "loop.example/g00656/impl.errUnsure", "loop.example/g00656/impl.errOutside"], ifaces := true, apart := false, laid := [("errors.errorType", laid_errors_errorType), ("loop.example/g00656/impl.errNoTime", laid_loop_example_g00656_impl_errNoTime), ("loop.example/g00656/impl.errBack", laid_loop_example_g00656_impl_errBack), ("loop.example/g00656/impl.errOutside", laid_loop_example_g00656_impl_errOutside), ("loop.example/g00656/impl.errUnsure", laid_loop_example_g00656_impl_errUnsure)] }
def FnExactSampleOfSaid : Prop := fnExactSampleOfRow.holds Tryd.pinned (OpenSpec.ofChange fnExactSampleOfSpec)

/-- ITS FALSE NEIGHBOUR: 'it returns false'. Refute it at one input. -/
def fnExactSampleOfWrong : ChangeSpec := { name := "fnExactSampleOf", vars := ["loop.example/g00656/impl.errNoTime", "loop.example/g00656/impl.errBack", "loop.example/g00656/impl.errUnsure", "loop.example/g00656/impl.errOutside"], fn := fun _ => fun
  | [d1, d2, d3, d4, g1, g2, g3, g4] => { results := [.lit (.bool false)], args := [d1, d2, d3, d4], vars := [g1, g2, g3, g4] }
  | _ => none }
def FnExactSampleOfWrongFalsely : Prop := fnExactSampleOfRow.holds Tryd.pinned (OpenSpec.ofChange fnExactSampleOfWrong)

/-- 'laws.FnExactAged': WHATEVER THE INPUT: true; the input reads as it did. -/
def fnExactAgedSpec : ChangeSpec := { name := "fnExactAged", vars := ["loop.example/g00656/impl.errNoTime", "loop.example/g00656/impl.errBack", "loop.example/g00656/impl.errOutside", "loop.example/g00656/impl.errUnsure"], fn := fun _ => fun
  | [d1, d2, g1, g2, g3, g4] => { results := [.lit (.bool true)], args := [d1, d2], vars := [g1, g2, g3, g4] }
  | _ => none }
def fnExactAgedRow : OpenClaim := { program := "ytbabkpcefpacpaadoor", sum := "7c407051c5e582400c2b0e2f02bc079c7eda4032ccdea9ad8e804e2830c97f5d", func := "loop.example/g00656/laws.FnExactAged", spec := "fnExactAged", inPlace := ["internal/reflectlite.ValueOf", "(internal/reflectlite.Value).Type", "(internal/reflectlite.Value).IsNil", "internal/reflectlite.TypeOf", "(internal/reflectlite.Value).Elem", "(internal/reflectlite.Value).Set"], unfollowed := true, recurses := true, named := ["loop.example/g00656/impl.errNoTime", "loop.example/g00656/impl.errBack", "loop.example/g00656/impl.errOutside", "loop.example/g00656/impl.errUnsure", "errors.errorType"], ifaces := true, apart := false, laid := [("errors.errorType", laid_errors_errorType), ("loop.example/g00656/impl.errNoTime", laid_loop_example_g00656_impl_errNoTime), ("loop.example/g00656/impl.errBack", laid_loop_example_g00656_impl_errBack), ("loop.example/g00656/impl.errOutside", laid_loop_example_g00656_impl_errOutside), ("loop.example/g00656/impl.errUnsure", laid_loop_example_g00656_impl_errUnsure)] }
def FnExactAgedSaid : Prop := fnExactAgedRow.holds Tryd.pinned (OpenSpec.ofChange fnExactAgedSpec)

/-- ITS FALSE NEIGHBOUR: 'it returns false'. Refute it at one input. -/
def fnExactAgedWrong : ChangeSpec := { name := "fnExactAged", vars := ["loop.example/g00656/impl.errNoTime", "loop.example/g00656/impl.errBack", "loop.example/g00656/impl.errOutside", "loop.example/g00656/impl.errUnsure"], fn := fun _ => fun
  | [d1, d2, g1, g2, g3, g4] => { results := [.lit (.bool false)], args := [d1, d2], vars := [g1, g2, g3, g4] }
  | _ => none }
def FnExactAgedWrongFalsely : Prop := fnExactAgedRow.holds Tryd.pinned (OpenSpec.ofChange fnExactAgedWrong)

/-- 'laws.FnExactReach': WHATEVER THE INPUT: true; the input reads as it did. -/
def fnExactReachSpec : ChangeSpec := { name := "fnExactReach", vars := ["loop.example/g00656/impl.errOutside", "loop.example/g00656/impl.errNoTime", "loop.example/g00656/impl.errUnsure"], fn := fun _ => fun
  | [d, g1, g2, g3] => { results := [.lit (.bool true)], args := [d], vars := [g1, g2, g3] }
  | _ => none }
def fnExactReachRow : OpenClaim := { program := "ytbabkpcefpacpaadoor", sum := "7c407051c5e582400c2b0e2f02bc079c7eda4032ccdea9ad8e804e2830c97f5d", func := "loop.example/g00656/laws.FnExactReach", spec := "fnExactReach", inPlace := ["internal/reflectlite.ValueOf", "(internal/reflectlite.Value).Type", "(internal/reflectlite.Value).IsNil", "internal/reflectlite.TypeOf", "(internal/reflectlite.Value).Elem", "(internal/reflectlite.Value).Set"], unfollowed := true, recurses := true, named := ["loop.example/g00656/impl.errOutside", "loop.example/g00656/impl.errNoTime", "loop.example/g00656/impl.errUnsure", "errors.errorType"], ifaces := true, apart := false, laid := [("errors.errorType", laid_errors_errorType), ("loop.example/g00656/impl.errNoTime", laid_loop_example_g00656_impl_errNoTime), ("loop.example/g00656/impl.errOutside", laid_loop_example_g00656_impl_errOutside), ("loop.example/g00656/impl.errUnsure", laid_loop_example_g00656_impl_errUnsure)] }
def FnExactReachSaid : Prop := fnExactReachRow.holds Tryd.pinned (OpenSpec.ofChange fnExactReachSpec)

/-- ITS FALSE NEIGHBOUR: 'it returns false'. Refute it at one input. -/
def fnExactReachWrong : ChangeSpec := { name := "fnExactReach", vars := ["loop.example/g00656/impl.errOutside", "loop.example/g00656/impl.errNoTime", "loop.example/g00656/impl.errUnsure"], fn := fun _ => fun
  | [d, g1, g2, g3] => { results := [.lit (.bool false)], args := [d], vars := [g1, g2, g3] }
  | _ => none }
def FnExactReachWrongFalsely : Prop := fnExactReachRow.holds Tryd.pinned (OpenSpec.ofChange fnExactReachWrong)

/-- 'laws.FnSamples': WHATEVER THE INPUT: true; the input reads as it did. -/
def fnSamplesSpec : ChangeSpec := { name := "fnSamples", vars := ["loop.example/g00656/impl.errNoTime", "loop.example/g00656/impl.errBack", "loop.example/g00656/impl.errUnsure", "loop.example/g00656/impl.errOutside"], fn := fun _ => fun
  | [d, g1, g2, g3, g4] => { results := [.lit (.bool true)], args := [d], vars := [g1, g2, g3, g4] }
  | _ => none }
def fnSamplesRow : OpenClaim := { program := "ytbabkpcefpacpaadoor", sum := "7c407051c5e582400c2b0e2f02bc079c7eda4032ccdea9ad8e804e2830c97f5d", func := "loop.example/g00656/laws.FnSamples", spec := "fnSamples", inPlace := ["internal/reflectlite.ValueOf", "(internal/reflectlite.Value).Type", "(internal/reflectlite.Value).IsNil", "internal/reflectlite.TypeOf", "(internal/reflectlite.Value).Elem", "(internal/reflectlite.Value).Set"], unfollowed := true, recurses := true, named := ["loop.example/g00656/impl.errNoTime", "loop.example/g00656/impl.errBack", "errors.errorType", "loop.example/g00656/impl.errUnsure", "loop.example/g00656/impl.errOutside"], ifaces := true, apart := false, laid := [("errors.errorType", laid_errors_errorType), ("loop.example/g00656/impl.errNoTime", laid_loop_example_g00656_impl_errNoTime), ("loop.example/g00656/impl.errBack", laid_loop_example_g00656_impl_errBack), ("loop.example/g00656/impl.errOutside", laid_loop_example_g00656_impl_errOutside), ("loop.example/g00656/impl.errUnsure", laid_loop_example_g00656_impl_errUnsure)] }
def FnSamplesSaid : Prop := fnSamplesRow.holds Tryd.pinned (OpenSpec.ofChange fnSamplesSpec)

/-- ITS FALSE NEIGHBOUR: 'it returns false'. Refute it at one input. -/
def fnSamplesWrong : ChangeSpec := { name := "fnSamples", vars := ["loop.example/g00656/impl.errNoTime", "loop.example/g00656/impl.errBack", "loop.example/g00656/impl.errUnsure", "loop.example/g00656/impl.errOutside"], fn := fun _ => fun
  | [d, g1, g2, g3, g4] => { results := [.lit (.bool false)], args := [d], vars := [g1, g2, g3, g4] }
  | _ => none }
def FnSamplesWrongFalsely : Prop := fnSamplesRow.holds Tryd.pinned (OpenSpec.ofChange fnSamplesWrong)

/-- 'laws.FnBound': WHATEVER THE INPUT: true; the input reads as it did. -/
def fnBoundSpec : ChangeSpec := { name := "fnBound", vars := ["loop.example/g00656/impl.errNoTime", "loop.example/g00656/impl.errBack", "loop.example/g00656/impl.errUnsure", "loop.example/g00656/impl.errOutside"], fn := fun _ => fun
  | [d, g1, g2, g3, g4] => { results := [.lit (.bool true)], args := [d], vars := [g1, g2, g3, g4] }
  | _ => none }
def fnBoundRow : OpenClaim := { program := "ytbabkpcefpacpaadoor", sum := "7c407051c5e582400c2b0e2f02bc079c7eda4032ccdea9ad8e804e2830c97f5d", func := "loop.example/g00656/laws.FnBound", spec := "fnBound", inPlace := ["internal/reflectlite.ValueOf", "(internal/reflectlite.Value).Type", "(internal/reflectlite.Value).IsNil", "internal/reflectlite.TypeOf", "(internal/reflectlite.Value).Elem", "(internal/reflectlite.Value).Set"], unfollowed := true, recurses := true, named := ["loop.example/g00656/impl.errNoTime", "loop.example/g00656/impl.errBack", "errors.errorType", "loop.example/g00656/impl.errUnsure", "loop.example/g00656/impl.errOutside"], ifaces := true, apart := false, laid := [("errors.errorType", laid_errors_errorType), ("loop.example/g00656/impl.errNoTime", laid_loop_example_g00656_impl_errNoTime), ("loop.example/g00656/impl.errBack", laid_loop_example_g00656_impl_errBack), ("loop.example/g00656/impl.errOutside", laid_loop_example_g00656_impl_errOutside), ("loop.example/g00656/impl.errUnsure", laid_loop_example_g00656_impl_errUnsure)] }
def FnBoundSaid : Prop := fnBoundRow.holds Tryd.pinned (OpenSpec.ofChange fnBoundSpec)

/-- ITS FALSE NEIGHBOUR: 'it returns false'. Refute it at one input. -/
def fnBoundWrong : ChangeSpec := { name := "fnBound", vars := ["loop.example/g00656/impl.errNoTime", "loop.example/g00656/impl.errBack", "loop.example/g00656/impl.errUnsure", "loop.example/g00656/impl.errOutside"], fn := fun _ => fun
  | [d, g1, g2, g3, g4] => { results := [.lit (.bool false)], args := [d], vars := [g1, g2, g3, g4] }
  | _ => none }
def FnBoundWrongFalsely : Prop := fnBoundRow.holds Tryd.pinned (OpenSpec.ofChange fnBoundWrong)

/-- 'laws.FnAged': WHATEVER THE INPUT: true; the input reads as it did. -/
def fnAgedSpec : ChangeSpec := { name := "fnAged", vars := ["loop.example/g00656/impl.errNoTime", "loop.example/g00656/impl.errBack", "loop.example/g00656/impl.errOutside", "loop.example/g00656/impl.errUnsure"], fn := fun _ => fun
  | [d, g1, g2, g3, g4] => { results := [.lit (.bool true)], args := [d], vars := [g1, g2, g3, g4] }
  | _ => none }
def fnAgedRow : OpenClaim := { program := "ytbabkpcefpacpaadoor", sum := "7c407051c5e582400c2b0e2f02bc079c7eda4032ccdea9ad8e804e2830c97f5d", func := "loop.example/g00656/laws.FnAged", spec := "fnAged", inPlace := ["internal/reflectlite.ValueOf", "(internal/reflectlite.Value).Type", "(internal/reflectlite.Value).IsNil", "internal/reflectlite.TypeOf", "(internal/reflectlite.Value).Elem", "(internal/reflectlite.Value).Set"], unfollowed := true, recurses := true, named := ["loop.example/g00656/impl.errNoTime", "loop.example/g00656/impl.errBack", "loop.example/g00656/impl.errOutside", "loop.example/g00656/impl.errUnsure", "errors.errorType"], ifaces := true, apart := false, laid := [("errors.errorType", laid_errors_errorType), ("loop.example/g00656/impl.errNoTime", laid_loop_example_g00656_impl_errNoTime), ("loop.example/g00656/impl.errBack", laid_loop_example_g00656_impl_errBack), ("loop.example/g00656/impl.errOutside", laid_loop_example_g00656_impl_errOutside), ("loop.example/g00656/impl.errUnsure", laid_loop_example_g00656_impl_errUnsure)] }
def FnAgedSaid : Prop := fnAgedRow.holds Tryd.pinned (OpenSpec.ofChange fnAgedSpec)

/-- ITS FALSE NEIGHBOUR: 'it returns false'. Refute it at one input. -/
def fnAgedWrong : ChangeSpec := { name := "fnAged", vars := ["loop.example/g00656/impl.errNoTime", "loop.example/g00656/impl.errBack", "loop.example/g00656/impl.errOutside", "loop.example/g00656/impl.errUnsure"], fn := fun _ => fun
  | [d, g1, g2, g3, g4] => { results := [.lit (.bool false)], args := [d], vars := [g1, g2, g3, g4] }
  | _ => none }
def FnAgedWrongFalsely : Prop := fnAgedRow.holds Tryd.pinned (OpenSpec.ofChange fnAgedWrong)

/-- 'laws.FnMovedSample': WHATEVER THE INPUT: true; the input reads as it did. -/
def fnMovedSampleSpec : ChangeSpec := { name := "fnMovedSample", vars := ["loop.example/g00656/impl.errNoTime", "loop.example/g00656/impl.errBack", "loop.example/g00656/impl.errUnsure", "loop.example/g00656/impl.errOutside"], fn := fun _ => fun
  | [d, g1, g2, g3, g4] => { results := [.lit (.bool true)], args := [d], vars := [g1, g2, g3, g4] }
  | _ => none }
def fnMovedSampleRow : OpenClaim := { program := "ytbabkpcefpacpaadoor", sum := "7c407051c5e582400c2b0e2f02bc079c7eda4032ccdea9ad8e804e2830c97f5d", func := "loop.example/g00656/laws.FnMovedSample", spec := "fnMovedSample", inPlace := ["internal/reflectlite.ValueOf", "(internal/reflectlite.Value).Type", "(internal/reflectlite.Value).IsNil", "internal/reflectlite.TypeOf", "(internal/reflectlite.Value).Elem", "(internal/reflectlite.Value).Set"], unfollowed := true, recurses := true, named := ["loop.example/g00656/impl.errNoTime", "loop.example/g00656/impl.errBack", "errors.errorType", "loop.example/g00656/impl.errUnsure", "loop.example/g00656/impl.errOutside"], ifaces := true, apart := false, laid := [("errors.errorType", laid_errors_errorType), ("loop.example/g00656/impl.errNoTime", laid_loop_example_g00656_impl_errNoTime), ("loop.example/g00656/impl.errBack", laid_loop_example_g00656_impl_errBack), ("loop.example/g00656/impl.errOutside", laid_loop_example_g00656_impl_errOutside), ("loop.example/g00656/impl.errUnsure", laid_loop_example_g00656_impl_errUnsure)] }
def FnMovedSampleSaid : Prop := fnMovedSampleRow.holds Tryd.pinned (OpenSpec.ofChange fnMovedSampleSpec)

/-- ITS FALSE NEIGHBOUR: 'it returns false'. Refute it at one input. -/
def fnMovedSampleWrong : ChangeSpec := { name := "fnMovedSample", vars := ["loop.example/g00656/impl.errNoTime", "loop.example/g00656/impl.errBack", "loop.example/g00656/impl.errUnsure", "loop.example/g00656/impl.errOutside"], fn := fun _ => fun
  | [d, g1, g2, g3, g4] => { results := [.lit (.bool false)], args := [d], vars := [g1, g2, g3, g4] }
  | _ => none }
def FnMovedSampleWrongFalsely : Prop := fnMovedSampleRow.holds Tryd.pinned (OpenSpec.ofChange fnMovedSampleWrong)

/-- 'laws.FnStay': WHATEVER THE INPUT: true; the input reads as it did. -/
def fnStaySpec : ChangeSpec := { name := "fnStay", vars := ["loop.example/g00656/impl.errNoTime", "loop.example/g00656/impl.errBack", "loop.example/g00656/impl.errUnsure", "loop.example/g00656/impl.errOutside"], fn := fun _ => fun
  | [d, g1, g2, g3, g4] => { results := [.lit (.bool true)], args := [d], vars := [g1, g2, g3, g4] }
  | _ => none }
def fnStayRow : OpenClaim := { program := "ytbabkpcefpacpaadoor", sum := "7c407051c5e582400c2b0e2f02bc079c7eda4032ccdea9ad8e804e2830c97f5d", func := "loop.example/g00656/laws.FnStay", spec := "fnStay", inPlace := ["internal/reflectlite.ValueOf", "(internal/reflectlite.Value).Type", "(internal/reflectlite.Value).IsNil", "internal/reflectlite.TypeOf", "(internal/reflectlite.Value).Elem", "(internal/reflectlite.Value).Set"], unfollowed := true, recurses := true, named := ["loop.example/g00656/impl.errNoTime", "loop.example/g00656/impl.errBack", "errors.errorType", "loop.example/g00656/impl.errUnsure", "loop.example/g00656/impl.errOutside"], ifaces := true, apart := false, laid := [("errors.errorType", laid_errors_errorType), ("loop.example/g00656/impl.errNoTime", laid_loop_example_g00656_impl_errNoTime), ("loop.example/g00656/impl.errBack", laid_loop_example_g00656_impl_errBack), ("loop.example/g00656/impl.errOutside", laid_loop_example_g00656_impl_errOutside), ("loop.example/g00656/impl.errUnsure", laid_loop_example_g00656_impl_errUnsure)] }
def FnStaySaid : Prop := fnStayRow.holds Tryd.pinned (OpenSpec.ofChange fnStaySpec)

/-- ITS FALSE NEIGHBOUR: 'it returns false'. Refute it at one input. -/
def fnStayWrong : ChangeSpec := { name := "fnStay", vars := ["loop.example/g00656/impl.errNoTime", "loop.example/g00656/impl.errBack", "loop.example/g00656/impl.errUnsure", "loop.example/g00656/impl.errOutside"], fn := fun _ => fun
  | [d, g1, g2, g3, g4] => { results := [.lit (.bool false)], args := [d], vars := [g1, g2, g3, g4] }
  | _ => none }
def FnStayWrongFalsely : Prop := fnStayRow.holds Tryd.pinned (OpenSpec.ofChange fnStayWrong)

/-- 'laws.FnAskedBack': WHATEVER THE INPUT: true; the input reads as it did. -/
def fnAskedBackSpec : ChangeSpec := { name := "fnAskedBack", vars := ["loop.example/g00656/impl.errNoTime", "loop.example/g00656/impl.errBack", "loop.example/g00656/impl.errUnsure", "loop.example/g00656/impl.errOutside"], fn := fun _ => fun
  | [d, g1, g2, g3, g4] => { results := [.lit (.bool true)], args := [d], vars := [g1, g2, g3, g4] }
  | _ => none }
def fnAskedBackRow : OpenClaim := { program := "ytbabkpcefpacpaadoor", sum := "7c407051c5e582400c2b0e2f02bc079c7eda4032ccdea9ad8e804e2830c97f5d", func := "loop.example/g00656/laws.FnAskedBack", spec := "fnAskedBack", inPlace := ["internal/reflectlite.ValueOf", "(internal/reflectlite.Value).Type", "(internal/reflectlite.Value).IsNil", "internal/reflectlite.TypeOf", "(internal/reflectlite.Value).Elem", "(internal/reflectlite.Value).Set"], unfollowed := true, recurses := true, named := ["loop.example/g00656/impl.errNoTime", "loop.example/g00656/impl.errBack", "errors.errorType", "loop.example/g00656/impl.errUnsure", "loop.example/g00656/impl.errOutside"], ifaces := true, apart := false, laid := [("errors.errorType", laid_errors_errorType), ("loop.example/g00656/impl.errNoTime", laid_loop_example_g00656_impl_errNoTime), ("loop.example/g00656/impl.errBack", laid_loop_example_g00656_impl_errBack), ("loop.example/g00656/impl.errOutside", laid_loop_example_g00656_impl_errOutside), ("loop.example/g00656/impl.errUnsure", laid_loop_example_g00656_impl_errUnsure)] }
def FnAskedBackSaid : Prop := fnAskedBackRow.holds Tryd.pinned (OpenSpec.ofChange fnAskedBackSpec)

/-- ITS FALSE NEIGHBOUR: 'it returns false'. Refute it at one input. -/
def fnAskedBackWrong : ChangeSpec := { name := "fnAskedBack", vars := ["loop.example/g00656/impl.errNoTime", "loop.example/g00656/impl.errBack", "loop.example/g00656/impl.errUnsure", "loop.example/g00656/impl.errOutside"], fn := fun _ => fun
  | [d, g1, g2, g3, g4] => { results := [.lit (.bool false)], args := [d], vars := [g1, g2, g3, g4] }
  | _ => none }
def FnAskedBackWrongFalsely : Prop := fnAskedBackRow.holds Tryd.pinned (OpenSpec.ofChange fnAskedBackWrong)

/-- 'laws.FnReachMore': WHATEVER THE INPUT: true; the input reads as it did. -/
def fnReachMoreSpec : ChangeSpec := { name := "fnReachMore", vars := ["loop.example/g00656/impl.errOutside", "loop.example/g00656/impl.errNoTime", "loop.example/g00656/impl.errUnsure"], fn := fun _ => fun
  | [d, g1, g2, g3] => { results := [.lit (.bool true)], args := [d], vars := [g1, g2, g3] }
  | _ => none }
def fnReachMoreRow : OpenClaim := { program := "ytbabkpcefpacpaadoor", sum := "7c407051c5e582400c2b0e2f02bc079c7eda4032ccdea9ad8e804e2830c97f5d", func := "loop.example/g00656/laws.FnReachMore", spec := "fnReachMore", inPlace := ["internal/reflectlite.ValueOf", "(internal/reflectlite.Value).Type", "(internal/reflectlite.Value).IsNil", "internal/reflectlite.TypeOf", "(internal/reflectlite.Value).Elem", "(internal/reflectlite.Value).Set"], unfollowed := true, recurses := true, named := ["loop.example/g00656/impl.errOutside", "loop.example/g00656/impl.errNoTime", "loop.example/g00656/impl.errUnsure", "errors.errorType"], ifaces := true, apart := false, laid := [("errors.errorType", laid_errors_errorType), ("loop.example/g00656/impl.errNoTime", laid_loop_example_g00656_impl_errNoTime), ("loop.example/g00656/impl.errOutside", laid_loop_example_g00656_impl_errOutside), ("loop.example/g00656/impl.errUnsure", laid_loop_example_g00656_impl_errUnsure)] }
def FnReachMoreSaid : Prop := fnReachMoreRow.holds Tryd.pinned (OpenSpec.ofChange fnReachMoreSpec)

/-- ITS FALSE NEIGHBOUR: 'it returns false'. Refute it at one input. -/
def fnReachMoreWrong : ChangeSpec := { name := "fnReachMore", vars := ["loop.example/g00656/impl.errOutside", "loop.example/g00656/impl.errNoTime", "loop.example/g00656/impl.errUnsure"], fn := fun _ => fun
  | [d, g1, g2, g3] => { results := [.lit (.bool false)], args := [d], vars := [g1, g2, g3] }
  | _ => none }
def FnReachMoreWrongFalsely : Prop := fnReachMoreRow.holds Tryd.pinned (OpenSpec.ofChange fnReachMoreWrong)

/- THE SECOND FORM. 'bulk': how many values and letters a reading holds, each counted each time it is reached (what is shared counts as often as it is met; a slice's spare places count too). A statement '..UptoSaid' is the law's where the arguments, and the package variables that the reading takes, are together of bulk at most 1048576: NARROWER than '..Said'. Prove '..Said' where nothing that the law and all that it calls make is longer than what came in: it says more and counts as full. Else prove '..UptoSaid'. A law counts once. -/
mutual
def uptoBulk {H : Type} : DataW H → Nat
  | .lit (.string bytes) => bytes.length + 1
  | .lit _ => 1
  | .nil => 1
  | .ptr d => uptoBulk d + 1
  | .slice elems spare => uptoBulkAll elems + uptoBulkAll spare + 1
  | .agg parts => uptoBulkAll parts + 1
  | .iface _ d => uptoBulk d + 1
  | .map entries => uptoBulkEntries entries + 1
  | .held _ => 1
def uptoBulkAll {H : Type} : List (DataW H) → Nat
  | [] => 0
  | d :: r => uptoBulk d + uptoBulkAll r
def uptoBulkEntries {H : Type} : List (Lit × DataW H) → Nat
  | [] => 0
  | x :: r => uptoBulkEntry x + uptoBulkEntries r
def uptoBulkEntry {H : Type} : Lit × DataW H → Nat
  | (.string bytes, d) => bytes.length + uptoBulk d + 1
  | (_, d) => uptoBulk d + 1
 end
def uptoSmall : (H : Type) → List (DataW H) → Bool := fun _ ds => decide (uptoBulkAll ds ≤ 1048576)
def OpenSpec.upto (s : _root_.Go.ChangeSpec) : _root_.Go.OpenSpec := { _root_.Go.OpenSpec.ofChange s with cond := some uptoSmall }

/-- 'laws.FnExactSampleOk', WHERE WHAT IT READS IS OF BULK AT MOST 1048576: true; the input reads as it did. -/
def fnExactSampleOkUptoRow : OpenClaim := { program := "ytbabkpcefpacpaadoor", sum := "7c407051c5e582400c2b0e2f02bc079c7eda4032ccdea9ad8e804e2830c97f5d", func := "loop.example/g00656/laws.FnExactSampleOk", spec := "fnExactSampleOk", inPlace := ["internal/reflectlite.ValueOf", "(internal/reflectlite.Value).Type", "(internal/reflectlite.Value).IsNil", "internal/reflectlite.TypeOf", "(internal/reflectlite.Value).Elem", "(internal/reflectlite.Value).Set"], unfollowed := true, recurses := true, named := ["loop.example/g00656/impl.errOutside", "loop.example/g00656/impl.errNoTime", "loop.example/g00656/impl.errUnsure", "errors.errorType"], ifaces := true, apart := false, laid := [("errors.errorType", laid_errors_errorType), ("loop.example/g00656/impl.errNoTime", laid_loop_example_g00656_impl_errNoTime), ("loop.example/g00656/impl.errOutside", laid_loop_example_g00656_impl_errOutside), ("loop.example/g00656/impl.errUnsure", laid_loop_example_g00656_impl_errUnsure)], narrowed := true }
def FnExactSampleOkUptoSaid : Prop := fnExactSampleOkUptoRow.holds Tryd.pinned (OpenSpec.upto fnExactSampleOkSpec)

/-- 'laws.FnExactSampleOf', WHERE WHAT IT READS IS OF BULK AT MOST 1048576: true; the input reads as it did. -/
def fnExactSampleOfUptoRow : OpenClaim := { program := "ytbabkpcefpacpaadoor", sum := "7c407051c5e582400c2b0e2f02bc079c7eda4032ccdea9ad8e804e2830c97f5d", func := "loop.example/g00656/laws.FnExactSampleOf", spec := "fnExactSampleOf", inPlace := ["internal/reflectlite.ValueOf", "(internal/reflectlite.Value).Type", "(internal/reflectlite.Value).IsNil", "internal/reflectlite.TypeOf", "(internal/reflectlite.Value).Elem", "(internal/reflectlite.Value).Set"], unfollowed := true, recurses := true, named := ["loop.example/g00656/impl.errNoTime", "loop.example/g00656/impl.errBack", "errors.errorType", "loop.example/g00656/impl.errUnsure", "loop.example/g00656/impl.errOutside"], ifaces := true, apart := false, laid := [("errors.errorType", laid_errors_errorType), ("loop.example/g00656/impl.errNoTime", laid_loop_example_g00656_impl_errNoTime), ("loop.example/g00656/impl.errBack", laid_loop_example_g00656_impl_errBack), ("loop.example/g00656/impl.errOutside", laid_loop_example_g00656_impl_errOutside), ("loop.example/g00656/impl.errUnsure", laid_loop_example_g00656_impl_errUnsure)], narrowed := true }
def FnExactSampleOfUptoSaid : Prop := fnExactSampleOfUptoRow.holds Tryd.pinned (OpenSpec.upto fnExactSampleOfSpec)

/-- 'laws.FnExactAged', WHERE WHAT IT READS IS OF BULK AT MOST 1048576: true; the input reads as it did. -/
def fnExactAgedUptoRow : OpenClaim := { program := "ytbabkpcefpacpaadoor", sum := "7c407051c5e582400c2b0e2f02bc079c7eda4032ccdea9ad8e804e2830c97f5d", func := "loop.example/g00656/laws.FnExactAged", spec := "fnExactAged", inPlace := ["internal/reflectlite.ValueOf", "(internal/reflectlite.Value).Type", "(internal/reflectlite.Value).IsNil", "internal/reflectlite.TypeOf", "(internal/reflectlite.Value).Elem", "(internal/reflectlite.Value).Set"], unfollowed := true, recurses := true, named := ["loop.example/g00656/impl.errNoTime", "loop.example/g00656/impl.errBack", "loop.example/g00656/impl.errOutside", "loop.example/g00656/impl.errUnsure", "errors.errorType"], ifaces := true, apart := false, laid := [("errors.errorType", laid_errors_errorType), ("loop.example/g00656/impl.errNoTime", laid_loop_example_g00656_impl_errNoTime), ("loop.example/g00656/impl.errBack", laid_loop_example_g00656_impl_errBack), ("loop.example/g00656/impl.errOutside", laid_loop_example_g00656_impl_errOutside), ("loop.example/g00656/impl.errUnsure", laid_loop_example_g00656_impl_errUnsure)], narrowed := true }
def FnExactAgedUptoSaid : Prop := fnExactAgedUptoRow.holds Tryd.pinned (OpenSpec.upto fnExactAgedSpec)

/-- 'laws.FnExactReach', WHERE WHAT IT READS IS OF BULK AT MOST 1048576: true; the input reads as it did. -/
def fnExactReachUptoRow : OpenClaim := { program := "ytbabkpcefpacpaadoor", sum := "7c407051c5e582400c2b0e2f02bc079c7eda4032ccdea9ad8e804e2830c97f5d", func := "loop.example/g00656/laws.FnExactReach", spec := "fnExactReach", inPlace := ["internal/reflectlite.ValueOf", "(internal/reflectlite.Value).Type", "(internal/reflectlite.Value).IsNil", "internal/reflectlite.TypeOf", "(internal/reflectlite.Value).Elem", "(internal/reflectlite.Value).Set"], unfollowed := true, recurses := true, named := ["loop.example/g00656/impl.errOutside", "loop.example/g00656/impl.errNoTime", "loop.example/g00656/impl.errUnsure", "errors.errorType"], ifaces := true, apart := false, laid := [("errors.errorType", laid_errors_errorType), ("loop.example/g00656/impl.errNoTime", laid_loop_example_g00656_impl_errNoTime), ("loop.example/g00656/impl.errOutside", laid_loop_example_g00656_impl_errOutside), ("loop.example/g00656/impl.errUnsure", laid_loop_example_g00656_impl_errUnsure)], narrowed := true }
def FnExactReachUptoSaid : Prop := fnExactReachUptoRow.holds Tryd.pinned (OpenSpec.upto fnExactReachSpec)

/-- 'laws.FnSamples', WHERE WHAT IT READS IS OF BULK AT MOST 1048576: true; the input reads as it did. -/
def fnSamplesUptoRow : OpenClaim := { program := "ytbabkpcefpacpaadoor", sum := "7c407051c5e582400c2b0e2f02bc079c7eda4032ccdea9ad8e804e2830c97f5d", func := "loop.example/g00656/laws.FnSamples", spec := "fnSamples", inPlace := ["internal/reflectlite.ValueOf", "(internal/reflectlite.Value).Type", "(internal/reflectlite.Value).IsNil", "internal/reflectlite.TypeOf", "(internal/reflectlite.Value).Elem", "(internal/reflectlite.Value).Set"], unfollowed := true, recurses := true, named := ["loop.example/g00656/impl.errNoTime", "loop.example/g00656/impl.errBack", "errors.errorType", "loop.example/g00656/impl.errUnsure", "loop.example/g00656/impl.errOutside"], ifaces := true, apart := false, laid := [("errors.errorType", laid_errors_errorType), ("loop.example/g00656/impl.errNoTime", laid_loop_example_g00656_impl_errNoTime), ("loop.example/g00656/impl.errBack", laid_loop_example_g00656_impl_errBack), ("loop.example/g00656/impl.errOutside", laid_loop_example_g00656_impl_errOutside), ("loop.example/g00656/impl.errUnsure", laid_loop_example_g00656_impl_errUnsure)], narrowed := true }
def FnSamplesUptoSaid : Prop := fnSamplesUptoRow.holds Tryd.pinned (OpenSpec.upto fnSamplesSpec)

/-- 'laws.FnBound', WHERE WHAT IT READS IS OF BULK AT MOST 1048576: true; the input reads as it did. -/
def fnBoundUptoRow : OpenClaim := { program := "ytbabkpcefpacpaadoor", sum := "7c407051c5e582400c2b0e2f02bc079c7eda4032ccdea9ad8e804e2830c97f5d", func := "loop.example/g00656/laws.FnBound", spec := "fnBound", inPlace := ["internal/reflectlite.ValueOf", "(internal/reflectlite.Value).Type", "(internal/reflectlite.Value).IsNil", "internal/reflectlite.TypeOf", "(internal/reflectlite.Value).Elem", "(internal/reflectlite.Value).Set"], unfollowed := true, recurses := true, named := ["loop.example/g00656/impl.errNoTime", "loop.example/g00656/impl.errBack", "errors.errorType", "loop.example/g00656/impl.errUnsure", "loop.example/g00656/impl.errOutside"], ifaces := true, apart := false, laid := [("errors.errorType", laid_errors_errorType), ("loop.example/g00656/impl.errNoTime", laid_loop_example_g00656_impl_errNoTime), ("loop.example/g00656/impl.errBack", laid_loop_example_g00656_impl_errBack), ("loop.example/g00656/impl.errOutside", laid_loop_example_g00656_impl_errOutside), ("loop.example/g00656/impl.errUnsure", laid_loop_example_g00656_impl_errUnsure)], narrowed := true }
def FnBoundUptoSaid : Prop := fnBoundUptoRow.holds Tryd.pinned (OpenSpec.upto fnBoundSpec)

/-- 'laws.FnAged', WHERE WHAT IT READS IS OF BULK AT MOST 1048576: true; the input reads as it did. -/
def fnAgedUptoRow : OpenClaim := { program := "ytbabkpcefpacpaadoor", sum := "7c407051c5e582400c2b0e2f02bc079c7eda4032ccdea9ad8e804e2830c97f5d", func := "loop.example/g00656/laws.FnAged", spec := "fnAged", inPlace := ["internal/reflectlite.ValueOf", "(internal/reflectlite.Value).Type", "(internal/reflectlite.Value).IsNil", "internal/reflectlite.TypeOf", "(internal/reflectlite.Value).Elem", "(internal/reflectlite.Value).Set"], unfollowed := true, recurses := true, named := ["loop.example/g00656/impl.errNoTime", "loop.example/g00656/impl.errBack", "loop.example/g00656/impl.errOutside", "loop.example/g00656/impl.errUnsure", "errors.errorType"], ifaces := true, apart := false, laid := [("errors.errorType", laid_errors_errorType), ("loop.example/g00656/impl.errNoTime", laid_loop_example_g00656_impl_errNoTime), ("loop.example/g00656/impl.errBack", laid_loop_example_g00656_impl_errBack), ("loop.example/g00656/impl.errOutside", laid_loop_example_g00656_impl_errOutside), ("loop.example/g00656/impl.errUnsure", laid_loop_example_g00656_impl_errUnsure)], narrowed := true }
def FnAgedUptoSaid : Prop := fnAgedUptoRow.holds Tryd.pinned (OpenSpec.upto fnAgedSpec)

/-- 'laws.FnMovedSample', WHERE WHAT IT READS IS OF BULK AT MOST 1048576: true; the input reads as it did. -/
def fnMovedSampleUptoRow : OpenClaim := { program := "ytbabkpcefpacpaadoor", sum := "7c407051c5e582400c2b0e2f02bc079c7eda4032ccdea9ad8e804e2830c97f5d", func := "loop.example/g00656/laws.FnMovedSample", spec := "fnMovedSample", inPlace := ["internal/reflectlite.ValueOf", "(internal/reflectlite.Value).Type", "(internal/reflectlite.Value).IsNil", "internal/reflectlite.TypeOf", "(internal/reflectlite.Value).Elem", "(internal/reflectlite.Value).Set"], unfollowed := true, recurses := true, named := ["loop.example/g00656/impl.errNoTime", "loop.example/g00656/impl.errBack", "errors.errorType", "loop.example/g00656/impl.errUnsure", "loop.example/g00656/impl.errOutside"], ifaces := true, apart := false, laid := [("errors.errorType", laid_errors_errorType), ("loop.example/g00656/impl.errNoTime", laid_loop_example_g00656_impl_errNoTime), ("loop.example/g00656/impl.errBack", laid_loop_example_g00656_impl_errBack), ("loop.example/g00656/impl.errOutside", laid_loop_example_g00656_impl_errOutside), ("loop.example/g00656/impl.errUnsure", laid_loop_example_g00656_impl_errUnsure)], narrowed := true }
def FnMovedSampleUptoSaid : Prop := fnMovedSampleUptoRow.holds Tryd.pinned (OpenSpec.upto fnMovedSampleSpec)

/-- 'laws.FnStay', WHERE WHAT IT READS IS OF BULK AT MOST 1048576: true; the input reads as it did. -/
def fnStayUptoRow : OpenClaim := { program := "ytbabkpcefpacpaadoor", sum := "7c407051c5e582400c2b0e2f02bc079c7eda4032ccdea9ad8e804e2830c97f5d", func := "loop.example/g00656/laws.FnStay", spec := "fnStay", inPlace := ["internal/reflectlite.ValueOf", "(internal/reflectlite.Value).Type", "(internal/reflectlite.Value).IsNil", "internal/reflectlite.TypeOf", "(internal/reflectlite.Value).Elem", "(internal/reflectlite.Value).Set"], unfollowed := true, recurses := true, named := ["loop.example/g00656/impl.errNoTime", "loop.example/g00656/impl.errBack", "errors.errorType", "loop.example/g00656/impl.errUnsure", "loop.example/g00656/impl.errOutside"], ifaces := true, apart := false, laid := [("errors.errorType", laid_errors_errorType), ("loop.example/g00656/impl.errNoTime", laid_loop_example_g00656_impl_errNoTime), ("loop.example/g00656/impl.errBack", laid_loop_example_g00656_impl_errBack), ("loop.example/g00656/impl.errOutside", laid_loop_example_g00656_impl_errOutside), ("loop.example/g00656/impl.errUnsure", laid_loop_example_g00656_impl_errUnsure)], narrowed := true }
def FnStayUptoSaid : Prop := fnStayUptoRow.holds Tryd.pinned (OpenSpec.upto fnStaySpec)

/-- 'laws.FnAskedBack', WHERE WHAT IT READS IS OF BULK AT MOST 1048576: true; the input reads as it did. -/
def fnAskedBackUptoRow : OpenClaim := { program := "ytbabkpcefpacpaadoor", sum := "7c407051c5e582400c2b0e2f02bc079c7eda4032ccdea9ad8e804e2830c97f5d", func := "loop.example/g00656/laws.FnAskedBack", spec := "fnAskedBack", inPlace := ["internal/reflectlite.ValueOf", "(internal/reflectlite.Value).Type", "(internal/reflectlite.Value).IsNil", "internal/reflectlite.TypeOf", "(internal/reflectlite.Value).Elem", "(internal/reflectlite.Value).Set"], unfollowed := true, recurses := true, named := ["loop.example/g00656/impl.errNoTime", "loop.example/g00656/impl.errBack", "errors.errorType", "loop.example/g00656/impl.errUnsure", "loop.example/g00656/impl.errOutside"], ifaces := true, apart := false, laid := [("errors.errorType", laid_errors_errorType), ("loop.example/g00656/impl.errNoTime", laid_loop_example_g00656_impl_errNoTime), ("loop.example/g00656/impl.errBack", laid_loop_example_g00656_impl_errBack), ("loop.example/g00656/impl.errOutside", laid_loop_example_g00656_impl_errOutside), ("loop.example/g00656/impl.errUnsure", laid_loop_example_g00656_impl_errUnsure)], narrowed := true }
def FnAskedBackUptoSaid : Prop := fnAskedBackUptoRow.holds Tryd.pinned (OpenSpec.upto fnAskedBackSpec)

/-- 'laws.FnReachMore', WHERE WHAT IT READS IS OF BULK AT MOST 1048576: true; the input reads as it did. -/
def fnReachMoreUptoRow : OpenClaim := { program := "ytbabkpcefpacpaadoor", sum := "7c407051c5e582400c2b0e2f02bc079c7eda4032ccdea9ad8e804e2830c97f5d", func := "loop.example/g00656/laws.FnReachMore", spec := "fnReachMore", inPlace := ["internal/reflectlite.ValueOf", "(internal/reflectlite.Value).Type", "(internal/reflectlite.Value).IsNil", "internal/reflectlite.TypeOf", "(internal/reflectlite.Value).Elem", "(internal/reflectlite.Value).Set"], unfollowed := true, recurses := true, named := ["loop.example/g00656/impl.errOutside", "loop.example/g00656/impl.errNoTime", "loop.example/g00656/impl.errUnsure", "errors.errorType"], ifaces := true, apart := false, laid := [("errors.errorType", laid_errors_errorType), ("loop.example/g00656/impl.errNoTime", laid_loop_example_g00656_impl_errNoTime), ("loop.example/g00656/impl.errOutside", laid_loop_example_g00656_impl_errOutside), ("loop.example/g00656/impl.errUnsure", laid_loop_example_g00656_impl_errUnsure)], narrowed := true }
def FnReachMoreUptoSaid : Prop := fnReachMoreUptoRow.holds Tryd.pinned (OpenSpec.upto fnReachMoreSpec)

end Rows
end Go.Proofs.YtbabkpcefpacpaaDoor
