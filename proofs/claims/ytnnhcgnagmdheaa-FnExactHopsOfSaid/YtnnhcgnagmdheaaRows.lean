/-
  No cell of these rows narrows 'for every input' (looked for: loops, veiled, ifaces, maps, wideKeys, modest, calm, conditions, laid).
  DERIVED. THE GIVEN ROWS OF THIS SEAT. 10 by the template 'for every input the law returns true; each argument reads behind the call as it read before'; 0 by the template 'total and deterministic' (their statements: YtnnhcgnagmdheaaTotals.lean).
  GIVEN WITH THE SEED: the statements are not yours to turn. If you find one false, say at which input.
  Laid BY PROGRAM, IN A SANDBOX (cutbox-rows.mjs): the forced cells as the released guide's own fill.sh prints them over the translation 67e75e4a5672c12e… (all of the seat's roots in one cut). By AI agents, Wed Nov 11 2026. No macro, syntax, notation, axiom, sorry.
-/
import Derived.Test.YtnnhcgnagmdheaaChecked
import GoSem.Claim
import GoSem.ClaimJoined
import GoSem.ClaimMapViews
import Derived.JoinedTies
import Derived.KernelRfl
namespace Go.Proofs.Ytnnhcgnagmdheaa
/- THE CELL 'sum', in the pinned program and in every row, IS THE sha256 OF THE DUMP (.gsa) THAT YtnnhcgnagmdheaaProg.lean LOADS. Nothing in Lean hashes anything: it is a label: what it is worth is what the hold of that sum in a sandbox is worth. -/
noncomputable def Try.pinned : Pinned := { name := "ytnnhcgnagmdheaa", sum := "67e75e4a5672c12e411c5d01c2c50b228ae622b4b2a5e970c86308aafb32e0fa", checked := Try.checked }
namespace Rows
def none {H : Type} : Left H := { results := [], args := [] }

/-- 'laws.FnExactNodesOk': WHATEVER THE INPUT: true; the input reads as it did. -/
def fnExactNodesOkSpec : ChangeSpec := { name := "fnExactNodesOk", fn := fun _ => fun
  | [d] => { results := [.lit (.bool true)], args := [d] }
  | _ => none }
def fnExactNodesOkRow : OpenClaim := { program := "ytnnhcgnagmdheaa", sum := "67e75e4a5672c12e411c5d01c2c50b228ae622b4b2a5e970c86308aafb32e0fa", func := "loop.example/g00656/laws.FnExactNodesOk", spec := "fnExactNodesOk", apart := false }
def FnExactNodesOkSaid : Prop := fnExactNodesOkRow.holds Try.pinned (OpenSpec.ofChange fnExactNodesOkSpec)

/-- ITS FALSE NEIGHBOUR: 'it returns false'. Refute it at one input. -/
def fnExactNodesOkWrong : ChangeSpec := { name := "fnExactNodesOk", fn := fun _ => fun
  | [d] => { results := [.lit (.bool false)], args := [d] }
  | _ => none }
def FnExactNodesOkWrongFalsely : Prop := fnExactNodesOkRow.holds Try.pinned (OpenSpec.ofChange fnExactNodesOkWrong)

/-- 'laws.FnExactTickOf': WHATEVER THE INPUT: true; the input reads as it did. -/
def fnExactTickOfSpec : ChangeSpec := { name := "fnExactTickOf", fn := fun _ => fun
  | [d1, d2] => { results := [.lit (.bool true)], args := [d1, d2] }
  | _ => none }
def fnExactTickOfRow : OpenClaim := { program := "ytnnhcgnagmdheaa", sum := "67e75e4a5672c12e411c5d01c2c50b228ae622b4b2a5e970c86308aafb32e0fa", func := "loop.example/g00656/laws.FnExactTickOf", spec := "fnExactTickOf", apart := false }
def FnExactTickOfSaid : Prop := fnExactTickOfRow.holds Try.pinned (OpenSpec.ofChange fnExactTickOfSpec)

/-- ITS FALSE NEIGHBOUR: 'it returns false'. Refute it at one input. -/
def fnExactTickOfWrong : ChangeSpec := { name := "fnExactTickOf", fn := fun _ => fun
  | [d1, d2] => { results := [.lit (.bool false)], args := [d1, d2] }
  | _ => none }
def FnExactTickOfWrongFalsely : Prop := fnExactTickOfRow.holds Try.pinned (OpenSpec.ofChange fnExactTickOfWrong)

/-- 'laws.FnExactRoundOf': WHATEVER THE INPUT: true; the input reads as it did. -/
def fnExactRoundOfSpec : ChangeSpec := { name := "fnExactRoundOf", fn := fun _ => fun
  | [d] => { results := [.lit (.bool true)], args := [d] }
  | _ => none }
def fnExactRoundOfRow : OpenClaim := { program := "ytnnhcgnagmdheaa", sum := "67e75e4a5672c12e411c5d01c2c50b228ae622b4b2a5e970c86308aafb32e0fa", func := "loop.example/g00656/laws.FnExactRoundOf", spec := "fnExactRoundOf", unfollowed := true, recurses := true, leaving := true, apart := false }
def FnExactRoundOfSaid : Prop := fnExactRoundOfRow.holds Try.pinned (OpenSpec.ofChange fnExactRoundOfSpec)

/-- ITS FALSE NEIGHBOUR: 'it returns false'. Refute it at one input. -/
def fnExactRoundOfWrong : ChangeSpec := { name := "fnExactRoundOf", fn := fun _ => fun
  | [d] => { results := [.lit (.bool false)], args := [d] }
  | _ => none }
def FnExactRoundOfWrongFalsely : Prop := fnExactRoundOfRow.holds Try.pinned (OpenSpec.ofChange fnExactRoundOfWrong)

/-- 'laws.FnExactSettled': WHATEVER THE INPUT: true; the input reads as it did. -/
def fnExactSettledSpec : ChangeSpec := { name := "fnExactSettled", fn := fun _ => fun
  | [d] => { results := [.lit (.bool true)], args := [d] }
  | _ => none }
def fnExactSettledRow : OpenClaim := { program := "ytnnhcgnagmdheaa", sum := "67e75e4a5672c12e411c5d01c2c50b228ae622b4b2a5e970c86308aafb32e0fa", func := "loop.example/g00656/laws.FnExactSettled", spec := "fnExactSettled", unfollowed := true, recurses := true, leaving := true, apart := false }
def FnExactSettledSaid : Prop := fnExactSettledRow.holds Try.pinned (OpenSpec.ofChange fnExactSettledSpec)

/-- ITS FALSE NEIGHBOUR: 'it returns false'. Refute it at one input. -/
def fnExactSettledWrong : ChangeSpec := { name := "fnExactSettled", fn := fun _ => fun
  | [d] => { results := [.lit (.bool false)], args := [d] }
  | _ => none }
def FnExactSettledWrongFalsely : Prop := fnExactSettledRow.holds Try.pinned (OpenSpec.ofChange fnExactSettledWrong)

/-- 'laws.FnExactLoops': WHATEVER THE INPUT: true; the input reads as it did. -/
def fnExactLoopsSpec : ChangeSpec := { name := "fnExactLoops", fn := fun _ => fun
  | [d] => { results := [.lit (.bool true)], args := [d] }
  | _ => none }
def fnExactLoopsRow : OpenClaim := { program := "ytnnhcgnagmdheaa", sum := "67e75e4a5672c12e411c5d01c2c50b228ae622b4b2a5e970c86308aafb32e0fa", func := "loop.example/g00656/laws.FnExactLoops", spec := "fnExactLoops", apart := false }
def FnExactLoopsSaid : Prop := fnExactLoopsRow.holds Try.pinned (OpenSpec.ofChange fnExactLoopsSpec)

/-- ITS FALSE NEIGHBOUR: 'it returns false'. Refute it at one input. -/
def fnExactLoopsWrong : ChangeSpec := { name := "fnExactLoops", fn := fun _ => fun
  | [d] => { results := [.lit (.bool false)], args := [d] }
  | _ => none }
def FnExactLoopsWrongFalsely : Prop := fnExactLoopsRow.holds Try.pinned (OpenSpec.ofChange fnExactLoopsWrong)

/-- 'laws.FnExactHopsOf': WHATEVER THE INPUT: true; the input reads as it did. -/
def fnExactHopsOfSpec : ChangeSpec := { name := "fnExactHopsOf", fn := fun _ => fun
  | [d] => { results := [.lit (.bool true)], args := [d] }
  | _ => none }
def fnExactHopsOfRow : OpenClaim := { program := "ytnnhcgnagmdheaa", sum := "67e75e4a5672c12e411c5d01c2c50b228ae622b4b2a5e970c86308aafb32e0fa", func := "loop.example/g00656/laws.FnExactHopsOf", spec := "fnExactHopsOf", apart := false }
def FnExactHopsOfSaid : Prop := fnExactHopsOfRow.holds Try.pinned (OpenSpec.ofChange fnExactHopsOfSpec)

/-- ITS FALSE NEIGHBOUR: 'it returns false'. Refute it at one input. -/
def fnExactHopsOfWrong : ChangeSpec := { name := "fnExactHopsOf", fn := fun _ => fun
  | [d] => { results := [.lit (.bool false)], args := [d] }
  | _ => none }
def FnExactHopsOfWrongFalsely : Prop := fnExactHopsOfRow.holds Try.pinned (OpenSpec.ofChange fnExactHopsOfWrong)

/-- 'laws.FnExactLimiterOk': WHATEVER THE INPUT: true; the input reads as it did. -/
def fnExactLimiterOkSpec : ChangeSpec := { name := "fnExactLimiterOk", fn := fun _ => fun
  | [d] => { results := [.lit (.bool true)], args := [d] }
  | _ => none }
def fnExactLimiterOkRow : OpenClaim := { program := "ytnnhcgnagmdheaa", sum := "67e75e4a5672c12e411c5d01c2c50b228ae622b4b2a5e970c86308aafb32e0fa", func := "loop.example/g00656/laws.FnExactLimiterOk", spec := "fnExactLimiterOk", apart := false }
def FnExactLimiterOkSaid : Prop := fnExactLimiterOkRow.holds Try.pinned (OpenSpec.ofChange fnExactLimiterOkSpec)

/-- ITS FALSE NEIGHBOUR: 'it returns false'. Refute it at one input. -/
def fnExactLimiterOkWrong : ChangeSpec := { name := "fnExactLimiterOk", fn := fun _ => fun
  | [d] => { results := [.lit (.bool false)], args := [d] }
  | _ => none }
def FnExactLimiterOkWrongFalsely : Prop := fnExactLimiterOkRow.holds Try.pinned (OpenSpec.ofChange fnExactLimiterOkWrong)

/-- 'laws.FnExactCame': WHATEVER THE INPUT: true; the input reads as it did. -/
def fnExactCameSpec : ChangeSpec := { name := "fnExactCame", fn := fun _ => fun
  | [d1, d2, d3] => { results := [.lit (.bool true)], args := [d1, d2, d3] }
  | _ => none }
def fnExactCameRow : OpenClaim := { program := "ytnnhcgnagmdheaa", sum := "67e75e4a5672c12e411c5d01c2c50b228ae622b4b2a5e970c86308aafb32e0fa", func := "loop.example/g00656/laws.FnExactCame", spec := "fnExactCame", unfollowed := true, recurses := true, leaving := true, apart := false }
def FnExactCameSaid : Prop := fnExactCameRow.holds Try.pinned (OpenSpec.ofChange fnExactCameSpec)

/-- ITS FALSE NEIGHBOUR: 'it returns false'. Refute it at one input. -/
def fnExactCameWrong : ChangeSpec := { name := "fnExactCame", fn := fun _ => fun
  | [d1, d2, d3] => { results := [.lit (.bool false)], args := [d1, d2, d3] }
  | _ => none }
def FnExactCameWrongFalsely : Prop := fnExactCameRow.holds Try.pinned (OpenSpec.ofChange fnExactCameWrong)

/-- 'laws.FnExactCameAll': WHATEVER THE INPUT: true; the input reads as it did. -/
def fnExactCameAllSpec : ChangeSpec := { name := "fnExactCameAll", fn := fun _ => fun
  | [d1, d2, d3, d4] => { results := [.lit (.bool true)], args := [d1, d2, d3, d4] }
  | _ => none }
def fnExactCameAllRow : OpenClaim := { program := "ytnnhcgnagmdheaa", sum := "67e75e4a5672c12e411c5d01c2c50b228ae622b4b2a5e970c86308aafb32e0fa", func := "loop.example/g00656/laws.FnExactCameAll", spec := "fnExactCameAll", unfollowed := true, recurses := true, leaving := true, apart := false }
def FnExactCameAllSaid : Prop := fnExactCameAllRow.holds Try.pinned (OpenSpec.ofChange fnExactCameAllSpec)

/-- ITS FALSE NEIGHBOUR: 'it returns false'. Refute it at one input. -/
def fnExactCameAllWrong : ChangeSpec := { name := "fnExactCameAll", fn := fun _ => fun
  | [d1, d2, d3, d4] => { results := [.lit (.bool false)], args := [d1, d2, d3, d4] }
  | _ => none }
def FnExactCameAllWrongFalsely : Prop := fnExactCameAllRow.holds Try.pinned (OpenSpec.ofChange fnExactCameAllWrong)

/-- 'laws.FnExactForgotten': WHATEVER THE INPUT: true; the input reads as it did. -/
def fnExactForgottenSpec : ChangeSpec := { name := "fnExactForgotten", fn := fun _ => fun
  | [d1, d2] => { results := [.lit (.bool true)], args := [d1, d2] }
  | _ => none }
def fnExactForgottenRow : OpenClaim := { program := "ytnnhcgnagmdheaa", sum := "67e75e4a5672c12e411c5d01c2c50b228ae622b4b2a5e970c86308aafb32e0fa", func := "loop.example/g00656/laws.FnExactForgotten", spec := "fnExactForgotten", unfollowed := true, recurses := true, leaving := true, apart := false }
def FnExactForgottenSaid : Prop := fnExactForgottenRow.holds Try.pinned (OpenSpec.ofChange fnExactForgottenSpec)

/-- ITS FALSE NEIGHBOUR: 'it returns false'. Refute it at one input. -/
def fnExactForgottenWrong : ChangeSpec := { name := "fnExactForgotten", fn := fun _ => fun
  | [d1, d2] => { results := [.lit (.bool false)], args := [d1, d2] }
  | _ => none }
def FnExactForgottenWrongFalsely : Prop := fnExactForgottenRow.holds Try.pinned (OpenSpec.ofChange fnExactForgottenWrong)

/- THE SECOND FORM. 'bulk': how many values and letters a reading holds, each counted each time it is reached (what is shared counts as often as it is met; a slice's spare places count too). A statement '..UptoSaid' is the law's where the arguments, and the package variables that the reading takes, are together of bulk at most 1048576: NARROWER than '..Said'. Prove '..Said' where nothing that the law and all that it calls make is longer than what came in: it says more and counts as full. Else prove '..UptoSaid'. A law counts once. -/
mutual
def uptoBulk {H : Type} : DataW H → Nat
  | .lit (.string bytes) => bytes.length + 1
  | .lit _ => 1
  | .nil => 1
  | .ptr d => uptoBulk d + 1
  | .slice elems spare => uptoBulkAll elems + uptoBulkAll spare + 1
  | .agg parts => uptoBulkAll parts + 1
  | .iface _ d => uptoBulk d + 1
  | .map entries => uptoBulkEntries entries + 1
  | .held _ => 1
def uptoBulkAll {H : Type} : List (DataW H) → Nat
  | [] => 0
  | d :: r => uptoBulk d + uptoBulkAll r
def uptoBulkEntries {H : Type} : List (Lit × DataW H) → Nat
  | [] => 0
  | x :: r => uptoBulkEntry x + uptoBulkEntries r
def uptoBulkEntry {H : Type} : Lit × DataW H → Nat
  | (.string bytes, d) => bytes.length + uptoBulk d + 1
  | (_, d) => uptoBulk d + 1
 end
def uptoSmall : (H : Type) → List (DataW H) → Bool := fun _ ds => decide (uptoBulkAll ds ≤ 1048576)
def OpenSpec.upto (s : _root_.Go.ChangeSpec) : _root_.Go.OpenSpec := { _root_.Go.OpenSpec.ofChange s with cond := some uptoSmall }

/-- 'laws.FnExactNodesOk', WHERE WHAT IT READS IS OF BULK AT MOST 1048576: true; the input reads as it did. -/
def fnExactNodesOkUptoRow : OpenClaim := { program := "ytnnhcgnagmdheaa", sum := "67e75e4a5672c12e411c5d01c2c50b228ae622b4b2a5e970c86308aafb32e0fa", func := "loop.example/g00656/laws.FnExactNodesOk", spec := "fnExactNodesOk", apart := false, narrowed := true }
def FnExactNodesOkUptoSaid : Prop := fnExactNodesOkUptoRow.holds Try.pinned (OpenSpec.upto fnExactNodesOkSpec)

/-- 'laws.FnExactTickOf', WHERE WHAT IT READS IS OF BULK AT MOST 1048576: true; the input reads as it did. -/
def fnExactTickOfUptoRow : OpenClaim := { program := "ytnnhcgnagmdheaa", sum := "67e75e4a5672c12e411c5d01c2c50b228ae622b4b2a5e970c86308aafb32e0fa", func := "loop.example/g00656/laws.FnExactTickOf", spec := "fnExactTickOf", apart := false, narrowed := true }
def FnExactTickOfUptoSaid : Prop := fnExactTickOfUptoRow.holds Try.pinned (OpenSpec.upto fnExactTickOfSpec)

/-- 'laws.FnExactRoundOf', WHERE WHAT IT READS IS OF BULK AT MOST 1048576: true; the input reads as it did. -/
def fnExactRoundOfUptoRow : OpenClaim := { program := "ytnnhcgnagmdheaa", sum := "67e75e4a5672c12e411c5d01c2c50b228ae622b4b2a5e970c86308aafb32e0fa", func := "loop.example/g00656/laws.FnExactRoundOf", spec := "fnExactRoundOf", unfollowed := true, recurses := true, leaving := true, apart := false, narrowed := true }
def FnExactRoundOfUptoSaid : Prop := fnExactRoundOfUptoRow.holds Try.pinned (OpenSpec.upto fnExactRoundOfSpec)

/-- 'laws.FnExactSettled', WHERE WHAT IT READS IS OF BULK AT MOST 1048576: true; the input reads as it did. -/
def fnExactSettledUptoRow : OpenClaim := { program := "ytnnhcgnagmdheaa", sum := "67e75e4a5672c12e411c5d01c2c50b228ae622b4b2a5e970c86308aafb32e0fa", func := "loop.example/g00656/laws.FnExactSettled", spec := "fnExactSettled", unfollowed := true, recurses := true, leaving := true, apart := false, narrowed := true }
def FnExactSettledUptoSaid : Prop := fnExactSettledUptoRow.holds Try.pinned (OpenSpec.upto fnExactSettledSpec)

/-- 'laws.FnExactLoops', WHERE WHAT IT READS IS OF BULK AT MOST 1048576: true; the input reads as it did. -/
def fnExactLoopsUptoRow : OpenClaim := { program := "ytnnhcgnagmdheaa", sum := "67e75e4a5672c12e411c5d01c2c50b228ae622b4b2a5e970c86308aafb32e0fa", func := "loop.example/g00656/laws.FnExactLoops", spec := "fnExactLoops", apart := false, narrowed := true }
def FnExactLoopsUptoSaid : Prop := fnExactLoopsUptoRow.holds Try.pinned (OpenSpec.upto fnExactLoopsSpec)

/-- 'laws.FnExactHopsOf', WHERE WHAT IT READS IS OF BULK AT MOST 1048576: true; the input reads as it did. -/
def fnExactHopsOfUptoRow : OpenClaim := { program := "ytnnhcgnagmdheaa", sum := "67e75e4a5672c12e411c5d01c2c50b228ae622b4b2a5e970c86308aafb32e0fa", func := "loop.example/g00656/laws.FnExactHopsOf", spec := "fnExactHopsOf", apart := false, narrowed := true }
def FnExactHopsOfUptoSaid : Prop := fnExactHopsOfUptoRow.holds Try.pinned (OpenSpec.upto fnExactHopsOfSpec)

/-- 'laws.FnExactLimiterOk', WHERE WHAT IT READS IS OF BULK AT MOST 1048576: true; the input reads as it did. -/
def fnExactLimiterOkUptoRow : OpenClaim := { program := "ytnnhcgnagmdheaa", sum := "67e75e4a5672c12e411c5d01c2c50b228ae622b4b2a5e970c86308aafb32e0fa", func := "loop.example/g00656/laws.FnExactLimiterOk", spec := "fnExactLimiterOk", apart := false, narrowed := true }
def FnExactLimiterOkUptoSaid : Prop := fnExactLimiterOkUptoRow.holds Try.pinned (OpenSpec.upto fnExactLimiterOkSpec)

/-- 'laws.FnExactCame', WHERE WHAT IT READS IS OF BULK AT MOST 1048576: true; the input reads as it did. -/
def fnExactCameUptoRow : OpenClaim := { program := "ytnnhcgnagmdheaa", sum := "67e75e4a5672c12e411c5d01c2c50b228ae622b4b2a5e970c86308aafb32e0fa", func := "loop.example/g00656/laws.FnExactCame", spec := "fnExactCame", unfollowed := true, recurses := true, leaving := true, apart := false, narrowed := true }
def FnExactCameUptoSaid : Prop := fnExactCameUptoRow.holds Try.pinned (OpenSpec.upto fnExactCameSpec)

/-- 'laws.FnExactCameAll', WHERE WHAT IT READS IS OF BULK AT MOST 1048576: true; the input reads as it did. -/
def fnExactCameAllUptoRow : OpenClaim := { program := "ytnnhcgnagmdheaa", sum := "67e75e4a5672c12e411c5d01c2c50b228ae622b4b2a5e970c86308aafb32e0fa", func := "loop.example/g00656/laws.FnExactCameAll", spec := "fnExactCameAll", unfollowed := true, recurses := true, leaving := true, apart := false, narrowed := true }
def FnExactCameAllUptoSaid : Prop := fnExactCameAllUptoRow.holds Try.pinned (OpenSpec.upto fnExactCameAllSpec)

/-- 'laws.FnExactForgotten', WHERE WHAT IT READS IS OF BULK AT MOST 1048576: true; the input reads as it did. -/
def fnExactForgottenUptoRow : OpenClaim := { program := "ytnnhcgnagmdheaa", sum := "67e75e4a5672c12e411c5d01c2c50b228ae622b4b2a5e970c86308aafb32e0fa", func := "loop.example/g00656/laws.FnExactForgotten", spec := "fnExactForgotten", unfollowed := true, recurses := true, leaving := true, apart := false, narrowed := true }
def FnExactForgottenUptoSaid : Prop := fnExactForgottenUptoRow.holds Try.pinned (OpenSpec.upto fnExactForgottenSpec)

end Rows
end Go.Proofs.Ytnnhcgnagmdheaa
