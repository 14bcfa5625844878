/-
  No cell of these rows narrows 'for every input' (looked for: loops, veiled, ifaces, maps, wideKeys, modest, calm, conditions, laid).
  DERIVED. THE GIVEN ROWS OF THIS SEAT. 9 by the template 'for every input the law returns true; each argument reads behind the call as it read before'; 0 by the template 'total and deterministic' (their statements: YtlabmnfmijbpfaaTotals.lean).
  GIVEN WITH THE SEED: the statements are not yours to turn. If you find one false, say at which input.
  Laid BY PROGRAM, IN A SANDBOX (cutbox-rows.mjs): the forced cells as the released guide's own fill.sh prints them over the translation 1df30f886cd3862b… (all of the seat's roots in one cut). By AI agents, Wed Nov 11 2026. No macro, syntax, notation, axiom, sorry.
-/
import Derived.Test.YtlabmnfmijbpfaaChecked
import GoSem.Claim
import GoSem.ClaimJoined
import GoSem.ClaimMapViews
import Derived.JoinedTies
import Derived.KernelRfl
namespace Go.Proofs.Ytlabmnfmijbpfaa
/- THE CELL 'sum', in the pinned program and in every row, IS THE sha256 OF THE DUMP (.gsa) THAT YtlabmnfmijbpfaaProg.lean LOADS. Nothing in Lean hashes anything: it is a label: what it is worth is what the hold of that sum in a sandbox is worth. -/
noncomputable def Try.pinned : Pinned := { name := "ytlabmnfmijbpfaa", sum := "1df30f886cd3862bee2758bddf5963aa3e05410f05d3f38834923d0dd1fe2b6f", checked := Try.checked }
namespace Rows
def none {H : Type} : Left H := { results := [], args := [] }

/-- 'laws.FnAdjusted': WHATEVER THE INPUT: true; the input reads as it did. -/
def fnAdjustedSpec : ChangeSpec := { name := "fnAdjusted", fn := fun _ => fun
  | [d] => { results := [.lit (.bool true)], args := [d] }
  | _ => none }
def fnAdjustedRow : OpenClaim := { program := "ytlabmnfmijbpfaa", sum := "1df30f886cd3862bee2758bddf5963aa3e05410f05d3f38834923d0dd1fe2b6f", func := "loop.example/g00656/laws.FnAdjusted", spec := "fnAdjusted", unfollowed := true, recurses := true, apart := false }
def FnAdjustedSaid : Prop := fnAdjustedRow.holds Try.pinned (OpenSpec.ofChange fnAdjustedSpec)

/-- ITS FALSE NEIGHBOUR: 'it returns false'. Refute it at one input. -/
def fnAdjustedWrong : ChangeSpec := { name := "fnAdjusted", fn := fun _ => fun
  | [d] => { results := [.lit (.bool false)], args := [d] }
  | _ => none }
def FnAdjustedWrongFalsely : Prop := fnAdjustedRow.holds Try.pinned (OpenSpec.ofChange fnAdjustedWrong)

/-- 'laws.FnSpike': WHATEVER THE INPUT: true; the input reads as it did. -/
def fnSpikeSpec : ChangeSpec := { name := "fnSpike", fn := fun _ => fun
  | [d] => { results := [.lit (.bool true)], args := [d] }
  | _ => none }
def fnSpikeRow : OpenClaim := { program := "ytlabmnfmijbpfaa", sum := "1df30f886cd3862bee2758bddf5963aa3e05410f05d3f38834923d0dd1fe2b6f", func := "loop.example/g00656/laws.FnSpike", spec := "fnSpike", unfollowed := true, recurses := true, apart := false }
def FnSpikeSaid : Prop := fnSpikeRow.holds Try.pinned (OpenSpec.ofChange fnSpikeSpec)

/-- ITS FALSE NEIGHBOUR: 'it returns false'. Refute it at one input. -/
def fnSpikeWrong : ChangeSpec := { name := "fnSpike", fn := fun _ => fun
  | [d] => { results := [.lit (.bool false)], args := [d] }
  | _ => none }
def FnSpikeWrongFalsely : Prop := fnSpikeRow.holds Try.pinned (OpenSpec.ofChange fnSpikeWrong)

/-- 'laws.FnSlewed': WHATEVER THE INPUT: true; the input reads as it did. -/
def fnSlewedSpec : ChangeSpec := { name := "fnSlewed", fn := fun _ => fun
  | [d] => { results := [.lit (.bool true)], args := [d] }
  | _ => none }
def fnSlewedRow : OpenClaim := { program := "ytlabmnfmijbpfaa", sum := "1df30f886cd3862bee2758bddf5963aa3e05410f05d3f38834923d0dd1fe2b6f", func := "loop.example/g00656/laws.FnSlewed", spec := "fnSlewed", apart := false }
def FnSlewedSaid : Prop := fnSlewedRow.holds Try.pinned (OpenSpec.ofChange fnSlewedSpec)

/-- ITS FALSE NEIGHBOUR: 'it returns false'. Refute it at one input. -/
def fnSlewedWrong : ChangeSpec := { name := "fnSlewed", fn := fun _ => fun
  | [d] => { results := [.lit (.bool false)], args := [d] }
  | _ => none }
def FnSlewedWrongFalsely : Prop := fnSlewedRow.holds Try.pinned (OpenSpec.ofChange fnSlewedWrong)

/-- 'laws.FnAllSlewed': WHATEVER THE INPUT: true; the input reads as it did. -/
def fnAllSlewedSpec : ChangeSpec := { name := "fnAllSlewed", fn := fun _ => fun
  | [d] => { results := [.lit (.bool true)], args := [d] }
  | _ => none }
def fnAllSlewedRow : OpenClaim := { program := "ytlabmnfmijbpfaa", sum := "1df30f886cd3862bee2758bddf5963aa3e05410f05d3f38834923d0dd1fe2b6f", func := "loop.example/g00656/laws.FnAllSlewed", spec := "fnAllSlewed", apart := false }
def FnAllSlewedSaid : Prop := fnAllSlewedRow.holds Try.pinned (OpenSpec.ofChange fnAllSlewedSpec)

/-- ITS FALSE NEIGHBOUR: 'it returns false'. Refute it at one input. -/
def fnAllSlewedWrong : ChangeSpec := { name := "fnAllSlewed", fn := fun _ => fun
  | [d] => { results := [.lit (.bool false)], args := [d] }
  | _ => none }
def FnAllSlewedWrongFalsely : Prop := fnAllSlewedRow.holds Try.pinned (OpenSpec.ofChange fnAllSlewedWrong)

/-- 'laws.FnPolls': WHATEVER THE INPUT: true; the input reads as it did. -/
def fnPollsSpec : ChangeSpec := { name := "fnPolls", fn := fun _ => fun
  | [d] => { results := [.lit (.bool true)], args := [d] }
  | _ => none }
def fnPollsRow : OpenClaim := { program := "ytlabmnfmijbpfaa", sum := "1df30f886cd3862bee2758bddf5963aa3e05410f05d3f38834923d0dd1fe2b6f", func := "loop.example/g00656/laws.FnPolls", spec := "fnPolls", unfollowed := true, recurses := true, apart := false }
def FnPollsSaid : Prop := fnPollsRow.holds Try.pinned (OpenSpec.ofChange fnPollsSpec)

/-- ITS FALSE NEIGHBOUR: 'it returns false'. Refute it at one input. -/
def fnPollsWrong : ChangeSpec := { name := "fnPolls", fn := fun _ => fun
  | [d] => { results := [.lit (.bool false)], args := [d] }
  | _ => none }
def FnPollsWrongFalsely : Prop := fnPollsRow.holds Try.pinned (OpenSpec.ofChange fnPollsWrong)

/-- 'laws.FnStepBack': WHATEVER THE INPUT: true; the input reads as it did. -/
def fnStepBackSpec : ChangeSpec := { name := "fnStepBack", fn := fun _ => fun
  | [d] => { results := [.lit (.bool true)], args := [d] }
  | _ => none }
def fnStepBackRow : OpenClaim := { program := "ytlabmnfmijbpfaa", sum := "1df30f886cd3862bee2758bddf5963aa3e05410f05d3f38834923d0dd1fe2b6f", func := "loop.example/g00656/laws.FnStepBack", spec := "fnStepBack", unfollowed := true, recurses := true, apart := false }
def FnStepBackSaid : Prop := fnStepBackRow.holds Try.pinned (OpenSpec.ofChange fnStepBackSpec)

/-- ITS FALSE NEIGHBOUR: 'it returns false'. Refute it at one input. -/
def fnStepBackWrong : ChangeSpec := { name := "fnStepBack", fn := fun _ => fun
  | [d] => { results := [.lit (.bool false)], args := [d] }
  | _ => none }
def FnStepBackWrongFalsely : Prop := fnStepBackRow.holds Try.pinned (OpenSpec.ofChange fnStepBackWrong)

/-- 'laws.FnExactClockOk': WHATEVER THE INPUT: true; the input reads as it did. -/
def fnExactClockOkSpec : ChangeSpec := { name := "fnExactClockOk", fn := fun _ => fun
  | [d] => { results := [.lit (.bool true)], args := [d] }
  | _ => none }
def fnExactClockOkRow : OpenClaim := { program := "ytlabmnfmijbpfaa", sum := "1df30f886cd3862bee2758bddf5963aa3e05410f05d3f38834923d0dd1fe2b6f", func := "loop.example/g00656/laws.FnExactClockOk", spec := "fnExactClockOk", apart := false }
def FnExactClockOkSaid : Prop := fnExactClockOkRow.holds Try.pinned (OpenSpec.ofChange fnExactClockOkSpec)

/-- ITS FALSE NEIGHBOUR: 'it returns false'. Refute it at one input. -/
def fnExactClockOkWrong : ChangeSpec := { name := "fnExactClockOk", fn := fun _ => fun
  | [d] => { results := [.lit (.bool false)], args := [d] }
  | _ => none }
def FnExactClockOkWrongFalsely : Prop := fnExactClockOkRow.holds Try.pinned (OpenSpec.ofChange fnExactClockOkWrong)

/-- 'laws.FnExactAdjusted': WHATEVER THE INPUT: true; the input reads as it did. -/
def fnExactAdjustedSpec : ChangeSpec := { name := "fnExactAdjusted", fn := fun _ => fun
  | [d1, d2, d3] => { results := [.lit (.bool true)], args := [d1, d2, d3] }
  | _ => none }
def fnExactAdjustedRow : OpenClaim := { program := "ytlabmnfmijbpfaa", sum := "1df30f886cd3862bee2758bddf5963aa3e05410f05d3f38834923d0dd1fe2b6f", func := "loop.example/g00656/laws.FnExactAdjusted", spec := "fnExactAdjusted", unfollowed := true, recurses := true, apart := false }
def FnExactAdjustedSaid : Prop := fnExactAdjustedRow.holds Try.pinned (OpenSpec.ofChange fnExactAdjustedSpec)

/-- ITS FALSE NEIGHBOUR: 'it returns false'. Refute it at one input. -/
def fnExactAdjustedWrong : ChangeSpec := { name := "fnExactAdjusted", fn := fun _ => fun
  | [d1, d2, d3] => { results := [.lit (.bool false)], args := [d1, d2, d3] }
  | _ => none }
def FnExactAdjustedWrongFalsely : Prop := fnExactAdjustedRow.holds Try.pinned (OpenSpec.ofChange fnExactAdjustedWrong)

/-- 'laws.FnExactSlewed': WHATEVER THE INPUT: true; the input reads as it did. -/
def fnExactSlewedSpec : ChangeSpec := { name := "fnExactSlewed", fn := fun _ => fun
  | [d1, d2] => { results := [.lit (.bool true)], args := [d1, d2] }
  | _ => none }
def fnExactSlewedRow : OpenClaim := { program := "ytlabmnfmijbpfaa", sum := "1df30f886cd3862bee2758bddf5963aa3e05410f05d3f38834923d0dd1fe2b6f", func := "loop.example/g00656/laws.FnExactSlewed", spec := "fnExactSlewed", apart := false }
def FnExactSlewedSaid : Prop := fnExactSlewedRow.holds Try.pinned (OpenSpec.ofChange fnExactSlewedSpec)

/-- ITS FALSE NEIGHBOUR: 'it returns false'. Refute it at one input. -/
def fnExactSlewedWrong : ChangeSpec := { name := "fnExactSlewed", fn := fun _ => fun
  | [d1, d2] => { results := [.lit (.bool false)], args := [d1, d2] }
  | _ => none }
def FnExactSlewedWrongFalsely : Prop := fnExactSlewedRow.holds Try.pinned (OpenSpec.ofChange fnExactSlewedWrong)

/- THE SECOND FORM. 'bulk': how many values and letters a reading holds, each counted each time it is reached (what is shared counts as often as it is met; a slice's spare places count too). A statement '..UptoSaid' is the law's where the arguments, and the package variables that the reading takes, are together of bulk at most 1048576: NARROWER than '..Said'. Prove '..Said' where nothing that the law and all that it calls make is longer than what came in: it says more and counts as full. Else prove '..UptoSaid'. A law counts once. -/
mutual
def uptoBulk {H : Type} : DataW H → Nat
  | .lit (.string bytes) => bytes.length + 1
  | .lit _ => 1
  | .nil => 1
  | .ptr d => uptoBulk d + 1
  | .slice elems spare => uptoBulkAll elems + uptoBulkAll spare + 1
  | .agg parts => uptoBulkAll parts + 1
  | .iface _ d => uptoBulk d + 1
  | .map entries => uptoBulkEntries entries + 1
  | .held _ => 1
def uptoBulkAll {H : Type} : List (DataW H) → Nat
  | [] => 0
  | d :: r => uptoBulk d + uptoBulkAll r
def uptoBulkEntries {H : Type} : List (Lit × DataW H) → Nat
  | [] => 0
  | x :: r => uptoBulkEntry x + uptoBulkEntries r
def uptoBulkEntry {H : Type} : Lit × DataW H → Nat
  | (.string bytes, d) => bytes.length + uptoBulk d + 1
  | (_, d) => uptoBulk d + 1
 end
def uptoSmall : (H : Type) → List (DataW H) → Bool := fun _ ds => decide (uptoBulkAll ds ≤ 1048576)
def OpenSpec.upto (s : _root_.Go.ChangeSpec) : _root_.Go.OpenSpec := { _root_.Go.OpenSpec.ofChange s with cond := some uptoSmall }

/-- 'laws.FnAdjusted', WHERE WHAT IT READS IS OF BULK AT MOST 1048576: true; the input reads as it did. -/
def fnAdjustedUptoRow : OpenClaim := { program := "ytlabmnfmijbpfaa", sum := "1df30f886cd3862bee2758bddf5963aa3e05410f05d3f38834923d0dd1fe2b6f", func := "loop.example/g00656/laws.FnAdjusted", spec := "fnAdjusted", unfollowed := true, recurses := true, apart := false, narrowed := true }
def FnAdjustedUptoSaid : Prop := fnAdjustedUptoRow.holds Try.pinned (OpenSpec.upto fnAdjustedSpec)

/-- 'laws.FnSpike', WHERE WHAT IT READS IS OF BULK AT MOST 1048576: true; the input reads as it did. -/
def fnSpikeUptoRow : OpenClaim := { program := "ytlabmnfmijbpfaa", sum := "1df30f886cd3862bee2758bddf5963aa3e05410f05d3f38834923d0dd1fe2b6f", func := "loop.example/g00656/laws.FnSpike", spec := "fnSpike", unfollowed := true, recurses := true, apart := false, narrowed := true }
def FnSpikeUptoSaid : Prop := fnSpikeUptoRow.holds Try.pinned (OpenSpec.upto fnSpikeSpec)

/-- 'laws.FnSlewed', WHERE WHAT IT READS IS OF BULK AT MOST 1048576: true; the input reads as it did. -/
def fnSlewedUptoRow : OpenClaim := { program := "ytlabmnfmijbpfaa", sum := "1df30f886cd3862bee2758bddf5963aa3e05410f05d3f38834923d0dd1fe2b6f", func := "loop.example/g00656/laws.FnSlewed", spec := "fnSlewed", apart := false, narrowed := true }
def FnSlewedUptoSaid : Prop := fnSlewedUptoRow.holds Try.pinned (OpenSpec.upto fnSlewedSpec)

/-- 'laws.FnAllSlewed', WHERE WHAT IT READS IS OF BULK AT MOST 1048576: true; the input reads as it did. -/
def fnAllSlewedUptoRow : OpenClaim := { program := "ytlabmnfmijbpfaa", sum := "1df30f886cd3862bee2758bddf5963aa3e05410f05d3f38834923d0dd1fe2b6f", func := "loop.example/g00656/laws.FnAllSlewed", spec := "fnAllSlewed", apart := false, narrowed := true }
def FnAllSlewedUptoSaid : Prop := fnAllSlewedUptoRow.holds Try.pinned (OpenSpec.upto fnAllSlewedSpec)

/-- 'laws.FnPolls', WHERE WHAT IT READS IS OF BULK AT MOST 1048576: true; the input reads as it did. -/
def fnPollsUptoRow : OpenClaim := { program := "ytlabmnfmijbpfaa", sum := "1df30f886cd3862bee2758bddf5963aa3e05410f05d3f38834923d0dd1fe2b6f", func := "loop.example/g00656/laws.FnPolls", spec := "fnPolls", unfollowed := true, recurses := true, apart := false, narrowed := true }
def FnPollsUptoSaid : Prop := fnPollsUptoRow.holds Try.pinned (OpenSpec.upto fnPollsSpec)

/-- 'laws.FnStepBack', WHERE WHAT IT READS IS OF BULK AT MOST 1048576: true; the input reads as it did. -/
def fnStepBackUptoRow : OpenClaim := { program := "ytlabmnfmijbpfaa", sum := "1df30f886cd3862bee2758bddf5963aa3e05410f05d3f38834923d0dd1fe2b6f", func := "loop.example/g00656/laws.FnStepBack", spec := "fnStepBack", unfollowed := true, recurses := true, apart := false, narrowed := true }
def FnStepBackUptoSaid : Prop := fnStepBackUptoRow.holds Try.pinned (OpenSpec.upto fnStepBackSpec)

/-- 'laws.FnExactClockOk', WHERE WHAT IT READS IS OF BULK AT MOST 1048576: true; the input reads as it did. -/
def fnExactClockOkUptoRow : OpenClaim := { program := "ytlabmnfmijbpfaa", sum := "1df30f886cd3862bee2758bddf5963aa3e05410f05d3f38834923d0dd1fe2b6f", func := "loop.example/g00656/laws.FnExactClockOk", spec := "fnExactClockOk", apart := false, narrowed := true }
def FnExactClockOkUptoSaid : Prop := fnExactClockOkUptoRow.holds Try.pinned (OpenSpec.upto fnExactClockOkSpec)

/-- 'laws.FnExactAdjusted', WHERE WHAT IT READS IS OF BULK AT MOST 1048576: true; the input reads as it did. -/
def fnExactAdjustedUptoRow : OpenClaim := { program := "ytlabmnfmijbpfaa", sum := "1df30f886cd3862bee2758bddf5963aa3e05410f05d3f38834923d0dd1fe2b6f", func := "loop.example/g00656/laws.FnExactAdjusted", spec := "fnExactAdjusted", unfollowed := true, recurses := true, apart := false, narrowed := true }
def FnExactAdjustedUptoSaid : Prop := fnExactAdjustedUptoRow.holds Try.pinned (OpenSpec.upto fnExactAdjustedSpec)

/-- 'laws.FnExactSlewed', WHERE WHAT IT READS IS OF BULK AT MOST 1048576: true; the input reads as it did. -/
def fnExactSlewedUptoRow : OpenClaim := { program := "ytlabmnfmijbpfaa", sum := "1df30f886cd3862bee2758bddf5963aa3e05410f05d3f38834923d0dd1fe2b6f", func := "loop.example/g00656/laws.FnExactSlewed", spec := "fnExactSlewed", apart := false, narrowed := true }
def FnExactSlewedUptoSaid : Prop := fnExactSlewedUptoRow.holds Try.pinned (OpenSpec.upto fnExactSlewedSpec)

end Rows
end Go.Proofs.Ytlabmnfmijbpfaa
