/-
  NARROWER THAN 'FOR EVERY INPUT', by the rows' own cells (each row's printed sentence says how): FnFilter: ifaces, laid · FnBest: ifaces, laid · FnJitter: ifaces, laid · FnFilterLast: ifaces, laid.
  DERIVED. THE GIVEN ROWS OF THIS SEAT. 4 by the template 'for every input the law returns true; each argument reads behind the call as it read before'; 0 by the template 'total and deterministic' (their statements: YthgamidodkkpbaaDoorTotals.lean).
  GIVEN WITH THE SEED: the statements are not yours to turn. If you find one false, say at which input.
  Laid BY PROGRAM, IN A SANDBOX (cutbox-rows.mjs): the forced cells as the released guide's own fill.sh prints them over the translation a02cccaec503a815… (all of the seat's roots in one cut). By AI agents, Wed Nov 11 2026. No macro, syntax, notation, axiom, sorry.
-/
import Derived.Test.YthgamidodkkpbaaDoorChecked
import GoSem.Claim
import GoSem.ClaimJoined
import GoSem.ClaimMapViews
import Derived.JoinedTies
import Derived.KernelRfl
namespace Go.Proofs.YthgamidodkkpbaaDoor
/- THE CELL 'sum', in the pinned program and in every row, IS THE sha256 OF THE DUMP (.gsa) THAT YthgamidodkkpbaaDoorProg.lean LOADS. Nothing in Lean hashes anything: it is a label: what it is worth is what the hold of that sum in a sandbox is worth. -/
noncomputable def Tryd.pinned : Pinned := { name := "ythgamidodkkpbaadoor", sum := "a02cccaec503a815e7eacda9704c4fdeeeb547b426de990b306686f18fa6bcd9", checked := Tryd.checked }
namespace Rows
def none {H : Type} : Left H := { results := [], args := [] }

/- WHAT THE LISTED PACKAGE-LEVEL VARIABLES READ AS WHEN THE CALL BEGINS. Each datum BY PROGRAM (the guide's laid-datum.mjs) off the statement by which the dump's own 'gosem.cut.vars' lays the variable. In a bare row this is a premise. The card (YthgamidodkkpbaaDoorCards.lean) ties it to the program's text. -/
def laid_errors_errorType {H : Type} : DataW H := .iface "internal/reflectlite.rtype" (.agg [.ptr (.lit (.string [101, 114, 114, 111, 114]))])
def laid_loop_example_g00656_impl_errNoTime {H : Type} : DataW H := .iface "*errors.errorString" (.ptr (.agg [.lit (.string [110, 111, 32, 116, 105, 109, 101])]))
def laid_loop_example_g00656_impl_errOutside {H : Type} : DataW H := .iface "*errors.errorString" (.ptr (.agg [.lit (.string [111, 117, 116, 115, 105, 100, 101, 32, 105, 116, 115, 32, 98, 111, 117, 110, 100, 115])]))
def laid_loop_example_g00656_impl_errUnsure {H : Type} : DataW H := .iface "*errors.errorString" (.ptr (.agg [.lit (.string [116, 111, 108, 100, 32, 108, 101, 115, 115, 32, 115, 117, 114, 101, 108, 121, 32, 116, 104, 97, 110, 32, 97, 110, 121, 32, 115, 97, 109, 112, 108, 101])]))

/-- 'laws.FnFilter': WHATEVER THE INPUT: true; the input reads as it did. -/
def fnFilterSpec : ChangeSpec := { name := "fnFilter", vars := ["loop.example/g00656/impl.errOutside", "loop.example/g00656/impl.errNoTime", "loop.example/g00656/impl.errUnsure"], fn := fun _ => fun
  | [d, g1, g2, g3] => { results := [.lit (.bool true)], args := [d], vars := [g1, g2, g3] }
  | _ => none }
def fnFilterRow : OpenClaim := { program := "ythgamidodkkpbaadoor", sum := "a02cccaec503a815e7eacda9704c4fdeeeb547b426de990b306686f18fa6bcd9", func := "loop.example/g00656/laws.FnFilter", spec := "fnFilter", inPlace := ["internal/reflectlite.ValueOf", "(internal/reflectlite.Value).Type", "(internal/reflectlite.Value).IsNil", "internal/reflectlite.TypeOf", "(internal/reflectlite.Value).Elem", "(internal/reflectlite.Value).Set"], unfollowed := true, recurses := true, named := ["loop.example/g00656/impl.errOutside", "loop.example/g00656/impl.errNoTime", "loop.example/g00656/impl.errUnsure", "errors.errorType"], ifaces := true, apart := false, laid := [("errors.errorType", laid_errors_errorType), ("loop.example/g00656/impl.errNoTime", laid_loop_example_g00656_impl_errNoTime), ("loop.example/g00656/impl.errOutside", laid_loop_example_g00656_impl_errOutside), ("loop.example/g00656/impl.errUnsure", laid_loop_example_g00656_impl_errUnsure)] }
def FnFilterSaid : Prop := fnFilterRow.holds Tryd.pinned (OpenSpec.ofChange fnFilterSpec)

/-- ITS FALSE NEIGHBOUR: 'it returns false'. Refute it at one input. -/
def fnFilterWrong : ChangeSpec := { name := "fnFilter", vars := ["loop.example/g00656/impl.errOutside", "loop.example/g00656/impl.errNoTime", "loop.example/g00656/impl.errUnsure"], fn := fun _ => fun
  | [d, g1, g2, g3] => { results := [.lit (.bool false)], args := [d], vars := [g1, g2, g3] }
  | _ => none }
def FnFilterWrongFalsely : Prop := fnFilterRow.holds Tryd.pinned (OpenSpec.ofChange fnFilterWrong)

/-- 'laws.FnBest': WHATEVER THE INPUT: true; the input reads as it did. -/
def fnBestSpec : ChangeSpec := { name := "fnBest", vars := ["loop.example/g00656/impl.errOutside", "loop.example/g00656/impl.errNoTime", "loop.example/g00656/impl.errUnsure"], fn := fun _ => fun
  | [d, g1, g2, g3] => { results := [.lit (.bool true)], args := [d], vars := [g1, g2, g3] }
  | _ => none }
def fnBestRow : OpenClaim := { program := "ythgamidodkkpbaadoor", sum := "a02cccaec503a815e7eacda9704c4fdeeeb547b426de990b306686f18fa6bcd9", func := "loop.example/g00656/laws.FnBest", spec := "fnBest", inPlace := ["internal/reflectlite.ValueOf", "(internal/reflectlite.Value).Type", "(internal/reflectlite.Value).IsNil", "internal/reflectlite.TypeOf", "(internal/reflectlite.Value).Elem", "(internal/reflectlite.Value).Set"], unfollowed := true, recurses := true, named := ["loop.example/g00656/impl.errOutside", "loop.example/g00656/impl.errNoTime", "loop.example/g00656/impl.errUnsure", "errors.errorType"], ifaces := true, apart := false, laid := [("errors.errorType", laid_errors_errorType), ("loop.example/g00656/impl.errNoTime", laid_loop_example_g00656_impl_errNoTime), ("loop.example/g00656/impl.errOutside", laid_loop_example_g00656_impl_errOutside), ("loop.example/g00656/impl.errUnsure", laid_loop_example_g00656_impl_errUnsure)] }
def FnBestSaid : Prop := fnBestRow.holds Tryd.pinned (OpenSpec.ofChange fnBestSpec)

/-- ITS FALSE NEIGHBOUR: 'it returns false'. Refute it at one input. -/
def fnBestWrong : ChangeSpec := { name := "fnBest", vars := ["loop.example/g00656/impl.errOutside", "loop.example/g00656/impl.errNoTime", "loop.example/g00656/impl.errUnsure"], fn := fun _ => fun
  | [d, g1, g2, g3] => { results := [.lit (.bool false)], args := [d], vars := [g1, g2, g3] }
  | _ => none }
def FnBestWrongFalsely : Prop := fnBestRow.holds Tryd.pinned (OpenSpec.ofChange fnBestWrong)

/-- 'laws.FnJitter': WHATEVER THE INPUT: true; the input reads as it did. -/
def fnJitterSpec : ChangeSpec := { name := "fnJitter", vars := ["loop.example/g00656/impl.errOutside", "loop.example/g00656/impl.errNoTime", "loop.example/g00656/impl.errUnsure"], fn := fun _ => fun
  | [d, g1, g2, g3] => { results := [.lit (.bool true)], args := [d], vars := [g1, g2, g3] }
  | _ => none }
def fnJitterRow : OpenClaim := { program := "ythgamidodkkpbaadoor", sum := "a02cccaec503a815e7eacda9704c4fdeeeb547b426de990b306686f18fa6bcd9", func := "loop.example/g00656/laws.FnJitter", spec := "fnJitter", inPlace := ["internal/reflectlite.ValueOf", "(internal/reflectlite.Value).Type", "(internal/reflectlite.Value).IsNil", "internal/reflectlite.TypeOf", "(internal/reflectlite.Value).Elem", "(internal/reflectlite.Value).Set"], unfollowed := true, recurses := true, named := ["loop.example/g00656/impl.errOutside", "loop.example/g00656/impl.errNoTime", "loop.example/g00656/impl.errUnsure", "errors.errorType"], ifaces := true, apart := false, laid := [("errors.errorType", laid_errors_errorType), ("loop.example/g00656/impl.errNoTime", laid_loop_example_g00656_impl_errNoTime), ("loop.example/g00656/impl.errOutside", laid_loop_example_g00656_impl_errOutside), ("loop.example/g00656/impl.errUnsure", laid_loop_example_g00656_impl_errUnsure)] }
def FnJitterSaid : Prop := fnJitterRow.holds Tryd.pinned (OpenSpec.ofChange fnJitterSpec)

/-- ITS FALSE NEIGHBOUR: 'it returns false'. Refute it at one input. -/
def fnJitterWrong : ChangeSpec := { name := "fnJitter", vars := ["loop.example/g00656/impl.errOutside", "loop.example/g00656/impl.errNoTime", "loop.example/g00656/impl.errUnsure"], fn := fun _ => fun
  | [d, g1, g2, g3] => { results := [.lit (.bool false)], args := [d], vars := [g1, g2, g3] }
  | _ => none }
def FnJitterWrongFalsely : Prop := fnJitterRow.holds Tryd.pinned (OpenSpec.ofChange fnJitterWrong)

/-- 'laws.FnFilterLast': WHATEVER THE INPUT: true; the input reads as it did. -/
def fnFilterLastSpec : ChangeSpec := { name := "fnFilterLast", vars := ["loop.example/g00656/impl.errOutside", "loop.example/g00656/impl.errNoTime", "loop.example/g00656/impl.errUnsure"], fn := fun _ => fun
  | [d, g1, g2, g3] => { results := [.lit (.bool true)], args := [d], vars := [g1, g2, g3] }
  | _ => none }
def fnFilterLastRow : OpenClaim := { program := "ythgamidodkkpbaadoor", sum := "a02cccaec503a815e7eacda9704c4fdeeeb547b426de990b306686f18fa6bcd9", func := "loop.example/g00656/laws.FnFilterLast", spec := "fnFilterLast", inPlace := ["internal/reflectlite.ValueOf", "(internal/reflectlite.Value).Type", "(internal/reflectlite.Value).IsNil", "internal/reflectlite.TypeOf", "(internal/reflectlite.Value).Elem", "(internal/reflectlite.Value).Set"], unfollowed := true, recurses := true, named := ["loop.example/g00656/impl.errOutside", "loop.example/g00656/impl.errNoTime", "loop.example/g00656/impl.errUnsure", "errors.errorType"], ifaces := true, apart := false, laid := [("errors.errorType", laid_errors_errorType), ("loop.example/g00656/impl.errNoTime", laid_loop_example_g00656_impl_errNoTime), ("loop.example/g00656/impl.errOutside", laid_loop_example_g00656_impl_errOutside), ("loop.example/g00656/impl.errUnsure", laid_loop_example_g00656_impl_errUnsure)] }
def FnFilterLastSaid : Prop := fnFilterLastRow.holds Tryd.pinned (OpenSpec.ofChange fnFilterLastSpec)

/-- ITS FALSE NEIGHBOUR: 'it returns false'. Refute it at one input. -/
def fnFilterLastWrong : ChangeSpec := { name := "fnFilterLast", vars := ["loop.example/g00656/impl.errOutside", "loop.example/g00656/impl.errNoTime", "loop.example/g00656/impl.errUnsure"], fn := fun _ => fun
  | [d, g1, g2, g3] => { results := [.lit (.bool false)], args := [d], vars := [g1, g2, g3] }
  | _ => none }
def FnFilterLastWrongFalsely : Prop := fnFilterLastRow.holds Tryd.pinned (OpenSpec.ofChange fnFilterLastWrong)

/- THE SECOND FORM. 'bulk': how many values and letters a reading holds, each counted each time it is reached (what is shared counts as often as it is met; a slice's spare places count too). A statement '..UptoSaid' is the law's where the arguments, and the package variables that the reading takes, are together of bulk at most 1048576: NARROWER than '..Said'. Prove '..Said' where nothing that the law and all that it calls make is longer than what came in: it says more and counts as full. Else prove '..UptoSaid'. A law counts once. -/
mutual
def uptoBulk {H : Type} : DataW H → Nat
  | .lit (.string bytes) => bytes.length + 1
  | .lit _ => 1
  | .nil => 1
  | .ptr d => uptoBulk d + 1
  | .slice elems spare => uptoBulkAll elems + uptoBulkAll spare + 1
  | .agg parts => uptoBulkAll parts + 1
  | .iface _ d => uptoBulk d + 1
  | .map entries => uptoBulkEntries entries + 1
  | .held _ => 1
def uptoBulkAll {H : Type} : List (DataW H) → Nat
  | [] => 0
  | d :: r => uptoBulk d + uptoBulkAll r
def uptoBulkEntries {H : Type} : List (Lit × DataW H) → Nat
  | [] => 0
  | x :: r => uptoBulkEntry x + uptoBulkEntries r
def uptoBulkEntry {H : Type} : Lit × DataW H → Nat
  | (.string bytes, d) => bytes.length + uptoBulk d + 1
  | (_, d) => uptoBulk d + 1
 end
def uptoSmall : (H : Type) → List (DataW H) → Bool := fun _ ds => decide (uptoBulkAll ds ≤ 1048576)
def OpenSpec.upto (s : _root_.Go.ChangeSpec) : _root_.Go.OpenSpec := { _root_.Go.OpenSpec.ofChange s with cond := some uptoSmall }

/-- 'laws.FnFilter', WHERE WHAT IT READS IS OF BULK AT MOST 1048576: true; the input reads as it did. -/
def fnFilterUptoRow : OpenClaim := { program := "ythgamidodkkpbaadoor", sum := "a02cccaec503a815e7eacda9704c4fdeeeb547b426de990b306686f18fa6bcd9", func := "loop.example/g00656/laws.FnFilter", spec := "fnFilter", inPlace := ["internal/reflectlite.ValueOf", "(internal/reflectlite.Value).Type", "(internal/reflectlite.Value).IsNil", "internal/reflectlite.TypeOf", "(internal/reflectlite.Value).Elem", "(internal/reflectlite.Value).Set"], unfollowed := true, recurses := true, named := ["loop.example/g00656/impl.errOutside", "loop.example/g00656/impl.errNoTime", "loop.example/g00656/impl.errUnsure", "errors.errorType"], ifaces := true, apart := false, laid := [("errors.errorType", laid_errors_errorType), ("loop.example/g00656/impl.errNoTime", laid_loop_example_g00656_impl_errNoTime), ("loop.example/g00656/impl.errOutside", laid_loop_example_g00656_impl_errOutside), ("loop.example/g00656/impl.errUnsure", laid_loop_example_g00656_impl_errUnsure)], narrowed := true }
def FnFilterUptoSaid : Prop := fnFilterUptoRow.holds Tryd.pinned (OpenSpec.upto fnFilterSpec)

/-- 'laws.FnBest', WHERE WHAT IT READS IS OF BULK AT MOST 1048576: true; the input reads as it did. -/
def fnBestUptoRow : OpenClaim := { program := "ythgamidodkkpbaadoor", sum := "a02cccaec503a815e7eacda9704c4fdeeeb547b426de990b306686f18fa6bcd9", func := "loop.example/g00656/laws.FnBest", spec := "fnBest", inPlace := ["internal/reflectlite.ValueOf", "(internal/reflectlite.Value).Type", "(internal/reflectlite.Value).IsNil", "internal/reflectlite.TypeOf", "(internal/reflectlite.Value).Elem", "(internal/reflectlite.Value).Set"], unfollowed := true, recurses := true, named := ["loop.example/g00656/impl.errOutside", "loop.example/g00656/impl.errNoTime", "loop.example/g00656/impl.errUnsure", "errors.errorType"], ifaces := true, apart := false, laid := [("errors.errorType", laid_errors_errorType), ("loop.example/g00656/impl.errNoTime", laid_loop_example_g00656_impl_errNoTime), ("loop.example/g00656/impl.errOutside", laid_loop_example_g00656_impl_errOutside), ("loop.example/g00656/impl.errUnsure", laid_loop_example_g00656_impl_errUnsure)], narrowed := true }
def FnBestUptoSaid : Prop := fnBestUptoRow.holds Tryd.pinned (OpenSpec.upto fnBestSpec)

/-- 'laws.FnJitter', WHERE WHAT IT READS IS OF BULK AT MOST 1048576: true; the input reads as it did. -/
def fnJitterUptoRow : OpenClaim := { program := "ythgamidodkkpbaadoor", sum := "a02cccaec503a815e7eacda9704c4fdeeeb547b426de990b306686f18fa6bcd9", func := "loop.example/g00656/laws.FnJitter", spec := "fnJitter", inPlace := ["internal/reflectlite.ValueOf", "(internal/reflectlite.Value).Type", "(internal/reflectlite.Value).IsNil", "internal/reflectlite.TypeOf", "(internal/reflectlite.Value).Elem", "(internal/reflectlite.Value).Set"], unfollowed := true, recurses := true, named := ["loop.example/g00656/impl.errOutside", "loop.example/g00656/impl.errNoTime", "loop.example/g00656/impl.errUnsure", "errors.errorType"], ifaces := true, apart := false, laid := [("errors.errorType", laid_errors_errorType), ("loop.example/g00656/impl.errNoTime", laid_loop_example_g00656_impl_errNoTime), ("loop.example/g00656/impl.errOutside", laid_loop_example_g00656_impl_errOutside), ("loop.example/g00656/impl.errUnsure", laid_loop_example_g00656_impl_errUnsure)], narrowed := true }
def FnJitterUptoSaid : Prop := fnJitterUptoRow.holds Tryd.pinned (OpenSpec.upto fnJitterSpec)

/-- 'laws.FnFilterLast', WHERE WHAT IT READS IS OF BULK AT MOST 1048576: true; the input reads as it did. -/
def fnFilterLastUptoRow : OpenClaim := { program := "ythgamidodkkpbaadoor", sum := "a02cccaec503a815e7eacda9704c4fdeeeb547b426de990b306686f18fa6bcd9", func := "loop.example/g00656/laws.FnFilterLast", spec := "fnFilterLast", inPlace := ["internal/reflectlite.ValueOf", "(internal/reflectlite.Value).Type", "(internal/reflectlite.Value).IsNil", "internal/reflectlite.TypeOf", "(internal/reflectlite.Value).Elem", "(internal/reflectlite.Value).Set"], unfollowed := true, recurses := true, named := ["loop.example/g00656/impl.errOutside", "loop.example/g00656/impl.errNoTime", "loop.example/g00656/impl.errUnsure", "errors.errorType"], ifaces := true, apart := false, laid := [("errors.errorType", laid_errors_errorType), ("loop.example/g00656/impl.errNoTime", laid_loop_example_g00656_impl_errNoTime), ("loop.example/g00656/impl.errOutside", laid_loop_example_g00656_impl_errOutside), ("loop.example/g00656/impl.errUnsure", laid_loop_example_g00656_impl_errUnsure)], narrowed := true }
def FnFilterLastUptoSaid : Prop := fnFilterLastUptoRow.holds Tryd.pinned (OpenSpec.upto fnFilterLastSpec)

end Rows
end Go.Proofs.YthgamidodkkpbaaDoor
