/-
  No cell of these rows narrows 'for every input' (looked for: loops, veiled, ifaces, maps, wideKeys, modest, calm, conditions, laid).
  DERIVED. THE GIVEN ROWS OF THIS SEAT. 8 by the template 'for every input the law returns true; each argument reads behind the call as it read before'; 0 by the template 'total and deterministic' (their statements: YtckonbbdeohccaaTotals.lean).
  GIVEN WITH THE SEED: the statements are not yours to turn. If you find one false, say at which input.
  Laid BY PROGRAM, IN A SANDBOX (cutbox-rows.mjs): the forced cells as the released guide's own fill.sh prints them over the translation f1ecbe73161221d3… (all of the seat's roots in one cut). By AI agents, Wed Nov 11 2026. No macro, syntax, notation, axiom, sorry.
-/
import Derived.Test.YtckonbbdeohccaaChecked
import GoSem.Claim
import GoSem.ClaimJoined
import GoSem.ClaimMapViews
import Derived.JoinedTies
import Derived.KernelRfl
namespace Go.Proofs.Ytckonbbdeohccaa
/- THE CELL 'sum', in the pinned program and in every row, IS THE sha256 OF THE DUMP (.gsa) THAT YtckonbbdeohccaaProg.lean LOADS. Nothing in Lean hashes anything: it is a label: what it is worth is what the hold of that sum in a sandbox is worth. -/
noncomputable def Try.pinned : Pinned := { name := "ytckonbbdeohccaa", sum := "f1ecbe73161221d333f29db04d43aebbef39cb7a27dd85120ddce3ba8c31126d", checked := Try.checked }
namespace Rows
def none {H : Type} : Left H := { results := [], args := [] }

/-- 'laws.FnExactCame': WHATEVER THE INPUT: true; the input reads as it did. -/
def fnExactCameSpec : ChangeSpec := { name := "fnExactCame", fn := fun _ => fun
  | [d1, d2, d3] => { results := [.lit (.bool true)], args := [d1, d2, d3] }
  | _ => none }
def fnExactCameRow : OpenClaim := { program := "ytckonbbdeohccaa", sum := "f1ecbe73161221d333f29db04d43aebbef39cb7a27dd85120ddce3ba8c31126d", func := "loop.example/g00656/laws.FnExactCame", spec := "fnExactCame", unfollowed := true, recurses := true, apart := false }
def FnExactCameSaid : Prop := fnExactCameRow.holds Try.pinned (OpenSpec.ofChange fnExactCameSpec)

/-- ITS FALSE NEIGHBOUR: 'it returns false'. Refute it at one input. -/
def fnExactCameWrong : ChangeSpec := { name := "fnExactCame", fn := fun _ => fun
  | [d1, d2, d3] => { results := [.lit (.bool false)], args := [d1, d2, d3] }
  | _ => none }
def FnExactCameWrongFalsely : Prop := fnExactCameRow.holds Try.pinned (OpenSpec.ofChange fnExactCameWrong)

/-- 'laws.FnExactCameAll': WHATEVER THE INPUT: true; the input reads as it did. -/
def fnExactCameAllSpec : ChangeSpec := { name := "fnExactCameAll", fn := fun _ => fun
  | [d1, d2, d3, d4] => { results := [.lit (.bool true)], args := [d1, d2, d3, d4] }
  | _ => none }
def fnExactCameAllRow : OpenClaim := { program := "ytckonbbdeohccaa", sum := "f1ecbe73161221d333f29db04d43aebbef39cb7a27dd85120ddce3ba8c31126d", func := "loop.example/g00656/laws.FnExactCameAll", spec := "fnExactCameAll", unfollowed := true, recurses := true, apart := false }
def FnExactCameAllSaid : Prop := fnExactCameAllRow.holds Try.pinned (OpenSpec.ofChange fnExactCameAllSpec)

/-- ITS FALSE NEIGHBOUR: 'it returns false'. Refute it at one input. -/
def fnExactCameAllWrong : ChangeSpec := { name := "fnExactCameAll", fn := fun _ => fun
  | [d1, d2, d3, d4] => { results := [.lit (.bool false)], args := [d1, d2, d3, d4] }
  | _ => none }
def FnExactCameAllWrongFalsely : Prop := fnExactCameAllRow.holds Try.pinned (OpenSpec.ofChange fnExactCameAllWrong)

/-- 'laws.FnExactForgotten': WHATEVER THE INPUT: true; the input reads as it did. -/
def fnExactForgottenSpec : ChangeSpec := { name := "fnExactForgotten", fn := fun _ => fun
  | [d1, d2] => { results := [.lit (.bool true)], args := [d1, d2] }
  | _ => none }
def fnExactForgottenRow : OpenClaim := { program := "ytckonbbdeohccaa", sum := "f1ecbe73161221d333f29db04d43aebbef39cb7a27dd85120ddce3ba8c31126d", func := "loop.example/g00656/laws.FnExactForgotten", spec := "fnExactForgotten", unfollowed := true, recurses := true, apart := false }
def FnExactForgottenSaid : Prop := fnExactForgottenRow.holds Try.pinned (OpenSpec.ofChange fnExactForgottenSpec)

/-- ITS FALSE NEIGHBOUR: 'it returns false'. Refute it at one input. -/
def fnExactForgottenWrong : ChangeSpec := { name := "fnExactForgotten", fn := fun _ => fun
  | [d1, d2] => { results := [.lit (.bool false)], args := [d1, d2] }
  | _ => none }
def FnExactForgottenWrongFalsely : Prop := fnExactForgottenRow.holds Try.pinned (OpenSpec.ofChange fnExactForgottenWrong)

/-- 'laws.FnCame': WHATEVER THE INPUT: true; the input reads as it did. -/
def fnCameSpec : ChangeSpec := { name := "fnCame", fn := fun _ => fun
  | [d] => { results := [.lit (.bool true)], args := [d] }
  | _ => none }
def fnCameRow : OpenClaim := { program := "ytckonbbdeohccaa", sum := "f1ecbe73161221d333f29db04d43aebbef39cb7a27dd85120ddce3ba8c31126d", func := "loop.example/g00656/laws.FnCame", spec := "fnCame", unfollowed := true, recurses := true, apart := false }
def FnCameSaid : Prop := fnCameRow.holds Try.pinned (OpenSpec.ofChange fnCameSpec)

/-- ITS FALSE NEIGHBOUR: 'it returns false'. Refute it at one input. -/
def fnCameWrong : ChangeSpec := { name := "fnCame", fn := fun _ => fun
  | [d] => { results := [.lit (.bool false)], args := [d] }
  | _ => none }
def FnCameWrongFalsely : Prop := fnCameRow.holds Try.pinned (OpenSpec.ofChange fnCameWrong)

/-- 'laws.FnSlow': WHATEVER THE INPUT: true; the input reads as it did. -/
def fnSlowSpec : ChangeSpec := { name := "fnSlow", fn := fun _ => fun
  | [d] => { results := [.lit (.bool true)], args := [d] }
  | _ => none }
def fnSlowRow : OpenClaim := { program := "ytckonbbdeohccaa", sum := "f1ecbe73161221d333f29db04d43aebbef39cb7a27dd85120ddce3ba8c31126d", func := "loop.example/g00656/laws.FnSlow", spec := "fnSlow", unfollowed := true, recurses := true, apart := false }
def FnSlowSaid : Prop := fnSlowRow.holds Try.pinned (OpenSpec.ofChange fnSlowSpec)

/-- ITS FALSE NEIGHBOUR: 'it returns false'. Refute it at one input. -/
def fnSlowWrong : ChangeSpec := { name := "fnSlow", fn := fun _ => fun
  | [d] => { results := [.lit (.bool false)], args := [d] }
  | _ => none }
def FnSlowWrongFalsely : Prop := fnSlowRow.holds Try.pinned (OpenSpec.ofChange fnSlowWrong)

/-- 'laws.FnCameAll': WHATEVER THE INPUT: true; the input reads as it did. -/
def fnCameAllSpec : ChangeSpec := { name := "fnCameAll", fn := fun _ => fun
  | [d] => { results := [.lit (.bool true)], args := [d] }
  | _ => none }
def fnCameAllRow : OpenClaim := { program := "ytckonbbdeohccaa", sum := "f1ecbe73161221d333f29db04d43aebbef39cb7a27dd85120ddce3ba8c31126d", func := "loop.example/g00656/laws.FnCameAll", spec := "fnCameAll", unfollowed := true, recurses := true, apart := false }
def FnCameAllSaid : Prop := fnCameAllRow.holds Try.pinned (OpenSpec.ofChange fnCameAllSpec)

/-- ITS FALSE NEIGHBOUR: 'it returns false'. Refute it at one input. -/
def fnCameAllWrong : ChangeSpec := { name := "fnCameAll", fn := fun _ => fun
  | [d] => { results := [.lit (.bool false)], args := [d] }
  | _ => none }
def FnCameAllWrongFalsely : Prop := fnCameAllRow.holds Try.pinned (OpenSpec.ofChange fnCameAllWrong)

/-- 'laws.FnForgotten': WHATEVER THE INPUT: true; the input reads as it did. -/
def fnForgottenSpec : ChangeSpec := { name := "fnForgotten", fn := fun _ => fun
  | [d] => { results := [.lit (.bool true)], args := [d] }
  | _ => none }
def fnForgottenRow : OpenClaim := { program := "ytckonbbdeohccaa", sum := "f1ecbe73161221d333f29db04d43aebbef39cb7a27dd85120ddce3ba8c31126d", func := "loop.example/g00656/laws.FnForgotten", spec := "fnForgotten", unfollowed := true, recurses := true, apart := false }
def FnForgottenSaid : Prop := fnForgottenRow.holds Try.pinned (OpenSpec.ofChange fnForgottenSpec)

/-- ITS FALSE NEIGHBOUR: 'it returns false'. Refute it at one input. -/
def fnForgottenWrong : ChangeSpec := { name := "fnForgotten", fn := fun _ => fun
  | [d] => { results := [.lit (.bool false)], args := [d] }
  | _ => none }
def FnForgottenWrongFalsely : Prop := fnForgottenRow.holds Try.pinned (OpenSpec.ofChange fnForgottenWrong)

/-- 'laws.FnRested': WHATEVER THE INPUT: true; the input reads as it did. -/
def fnRestedSpec : ChangeSpec := { name := "fnRested", fn := fun _ => fun
  | [d] => { results := [.lit (.bool true)], args := [d] }
  | _ => none }
def fnRestedRow : OpenClaim := { program := "ytckonbbdeohccaa", sum := "f1ecbe73161221d333f29db04d43aebbef39cb7a27dd85120ddce3ba8c31126d", func := "loop.example/g00656/laws.FnRested", spec := "fnRested", unfollowed := true, recurses := true, apart := false }
def FnRestedSaid : Prop := fnRestedRow.holds Try.pinned (OpenSpec.ofChange fnRestedSpec)

/-- ITS FALSE NEIGHBOUR: 'it returns false'. Refute it at one input. -/
def fnRestedWrong : ChangeSpec := { name := "fnRested", fn := fun _ => fun
  | [d] => { results := [.lit (.bool false)], args := [d] }
  | _ => none }
def FnRestedWrongFalsely : Prop := fnRestedRow.holds Try.pinned (OpenSpec.ofChange fnRestedWrong)

/- THE SECOND FORM. 'bulk': how many values and letters a reading holds, each counted each time it is reached (what is shared counts as often as it is met; a slice's spare places count too). A statement '..UptoSaid' is the law's where the arguments, and the package variables that the reading takes, are together of bulk at most 1048576: NARROWER than '..Said'. Prove '..Said' where nothing that the law and all that it calls make is longer than what came in: it says more and counts as full. Else prove '..UptoSaid'. A law counts once. -/
mutual
def uptoBulk {H : Type} : DataW H → Nat
  | .lit (.string bytes) => bytes.length + 1
  | .lit _ => 1
  | .nil => 1
  | .ptr d => uptoBulk d + 1
  | .slice elems spare => uptoBulkAll elems + uptoBulkAll spare + 1
  | .agg parts => uptoBulkAll parts + 1
  | .iface _ d => uptoBulk d + 1
  | .map entries => uptoBulkEntries entries + 1
  | .held _ => 1
def uptoBulkAll {H : Type} : List (DataW H) → Nat
  | [] => 0
  | d :: r => uptoBulk d + uptoBulkAll r
def uptoBulkEntries {H : Type} : List (Lit × DataW H) → Nat
  | [] => 0
  | x :: r => uptoBulkEntry x + uptoBulkEntries r
def uptoBulkEntry {H : Type} : Lit × DataW H → Nat
  | (.string bytes, d) => bytes.length + uptoBulk d + 1
  | (_, d) => uptoBulk d + 1
 end
def uptoSmall : (H : Type) → List (DataW H) → Bool := fun _ ds => decide (uptoBulkAll ds ≤ 1048576)
def OpenSpec.upto (s : _root_.Go.ChangeSpec) : _root_.Go.OpenSpec := { _root_.Go.OpenSpec.ofChange s with cond := some uptoSmall }

/-- 'laws.FnExactCame', WHERE WHAT IT READS IS OF BULK AT MOST 1048576: true; the input reads as it did. -/
def fnExactCameUptoRow : OpenClaim := { program := "ytckonbbdeohccaa", sum := "f1ecbe73161221d333f29db04d43aebbef39cb7a27dd85120ddce3ba8c31126d", func := "loop.example/g00656/laws.FnExactCame", spec := "fnExactCame", unfollowed := true, recurses := true, apart := false, narrowed := true }
def FnExactCameUptoSaid : Prop := fnExactCameUptoRow.holds Try.pinned (OpenSpec.upto fnExactCameSpec)

/-- 'laws.FnExactCameAll', WHERE WHAT IT READS IS OF BULK AT MOST 1048576: true; the input reads as it did. -/
def fnExactCameAllUptoRow : OpenClaim := { program := "ytckonbbdeohccaa", sum := "f1ecbe73161221d333f29db04d43aebbef39cb7a27dd85120ddce3ba8c31126d", func := "loop.example/g00656/laws.FnExactCameAll", spec := "fnExactCameAll", unfollowed := true, recurses := true, apart := false, narrowed := true }
def FnExactCameAllUptoSaid : Prop := fnExactCameAllUptoRow.holds Try.pinned (OpenSpec.upto fnExactCameAllSpec)

/-- 'laws.FnExactForgotten', WHERE WHAT IT READS IS OF BULK AT MOST 1048576: true; the input reads as it did. -/
def fnExactForgottenUptoRow : OpenClaim := { program := "ytckonbbdeohccaa", sum := "f1ecbe73161221d333f29db04d43aebbef39cb7a27dd85120ddce3ba8c31126d", func := "loop.example/g00656/laws.FnExactForgotten", spec := "fnExactForgotten", unfollowed := true, recurses := true, apart := false, narrowed := true }
def FnExactForgottenUptoSaid : Prop := fnExactForgottenUptoRow.holds Try.pinned (OpenSpec.upto fnExactForgottenSpec)

/-- 'laws.FnCame', WHERE WHAT IT READS IS OF BULK AT MOST 1048576: true; the input reads as it did. -/
def fnCameUptoRow : OpenClaim := { program := "ytckonbbdeohccaa", sum := "f1ecbe73161221d333f29db04d43aebbef39cb7a27dd85120ddce3ba8c31126d", func := "loop.example/g00656/laws.FnCame", spec := "fnCame", unfollowed := true, recurses := true, apart := false, narrowed := true }
def FnCameUptoSaid : Prop := fnCameUptoRow.holds Try.pinned (OpenSpec.upto fnCameSpec)

/-- 'laws.FnSlow', WHERE WHAT IT READS IS OF BULK AT MOST 1048576: true; the input reads as it did. -/
def fnSlowUptoRow : OpenClaim := { program := "ytckonbbdeohccaa", sum := "f1ecbe73161221d333f29db04d43aebbef39cb7a27dd85120ddce3ba8c31126d", func := "loop.example/g00656/laws.FnSlow", spec := "fnSlow", unfollowed := true, recurses := true, apart := false, narrowed := true }
def FnSlowUptoSaid : Prop := fnSlowUptoRow.holds Try.pinned (OpenSpec.upto fnSlowSpec)

/-- 'laws.FnCameAll', WHERE WHAT IT READS IS OF BULK AT MOST 1048576: true; the input reads as it did. -/
def fnCameAllUptoRow : OpenClaim := { program := "ytckonbbdeohccaa", sum := "f1ecbe73161221d333f29db04d43aebbef39cb7a27dd85120ddce3ba8c31126d", func := "loop.example/g00656/laws.FnCameAll", spec := "fnCameAll", unfollowed := true, recurses := true, apart := false, narrowed := true }
def FnCameAllUptoSaid : Prop := fnCameAllUptoRow.holds Try.pinned (OpenSpec.upto fnCameAllSpec)

/-- 'laws.FnForgotten', WHERE WHAT IT READS IS OF BULK AT MOST 1048576: true; the input reads as it did. -/
def fnForgottenUptoRow : OpenClaim := { program := "ytckonbbdeohccaa", sum := "f1ecbe73161221d333f29db04d43aebbef39cb7a27dd85120ddce3ba8c31126d", func := "loop.example/g00656/laws.FnForgotten", spec := "fnForgotten", unfollowed := true, recurses := true, apart := false, narrowed := true }
def FnForgottenUptoSaid : Prop := fnForgottenUptoRow.holds Try.pinned (OpenSpec.upto fnForgottenSpec)

/-- 'laws.FnRested', WHERE WHAT IT READS IS OF BULK AT MOST 1048576: true; the input reads as it did. -/
def fnRestedUptoRow : OpenClaim := { program := "ytckonbbdeohccaa", sum := "f1ecbe73161221d333f29db04d43aebbef39cb7a27dd85120ddce3ba8c31126d", func := "loop.example/g00656/laws.FnRested", spec := "fnRested", unfollowed := true, recurses := true, apart := false, narrowed := true }
def FnRestedUptoSaid : Prop := fnRestedUptoRow.holds Try.pinned (OpenSpec.upto fnRestedSpec)

end Rows
end Go.Proofs.Ytckonbbdeohccaa
