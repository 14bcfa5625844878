/-
  No cell of these rows narrows 'for every input' (looked for: loops, veiled, ifaces, maps, wideKeys, modest, calm, conditions, laid).
  DERIVED. THE GIVEN ROWS OF THIS SEAT. 10 by the template 'for every input the law returns true; each argument reads behind the call as it read before'; 0 by the template 'total and deterministic' (their statements: YtecedbhjfpgkmaaTotals.lean).
  GIVEN WITH THE SEED: the statements are not yours to turn. If you find one false, say at which input.
  Laid BY PROGRAM, IN A SANDBOX (cutbox-rows.mjs): the forced cells as the released guide's own fill.sh prints them over the translation 04a497074891c60d… (all of the seat's roots in one cut). By AI agents, Wed Nov 11 2026. No macro, syntax, notation, axiom, sorry.
-/
import Derived.Test.YtecedbhjfpgkmaaChecked
import GoSem.Claim
import GoSem.ClaimJoined
import GoSem.ClaimMapViews
import Derived.JoinedTies
import Derived.KernelRfl
namespace Go.Proofs.Ytecedbhjfpgkmaa
/- THE CELL 'sum', in the pinned program and in every row, IS THE sha256 OF THE DUMP (.gsa) THAT YtecedbhjfpgkmaaProg.lean LOADS. Nothing in Lean hashes anything: it is a label: what it is worth is what the hold of that sum in a sandbox is worth. -/
noncomputable def Try.pinned : Pinned := { name := "ytecedbhjfpgkmaa", sum := "04a497074891c60dfb221868849e156e9aa97198095be2cabfe696cb3ccd7071", checked := Try.checked }
namespace Rows
def none {H : Type} : Left H := { results := [], args := [] }

/-- 'laws.FnExactIntervalOk': WHATEVER THE INPUT: true; the input reads as it did. -/
def fnExactIntervalOkSpec : ChangeSpec := { name := "fnExactIntervalOk", fn := fun _ => fun
  | [d] => { results := [.lit (.bool true)], args := [d] }
  | _ => none }
def fnExactIntervalOkRow : OpenClaim := { program := "ytecedbhjfpgkmaa", sum := "04a497074891c60dfb221868849e156e9aa97198095be2cabfe696cb3ccd7071", func := "loop.example/g00656/laws.FnExactIntervalOk", spec := "fnExactIntervalOk", apart := false }
def FnExactIntervalOkSaid : Prop := fnExactIntervalOkRow.holds Try.pinned (OpenSpec.ofChange fnExactIntervalOkSpec)

/-- ITS FALSE NEIGHBOUR: 'it returns false'. Refute it at one input. -/
def fnExactIntervalOkWrong : ChangeSpec := { name := "fnExactIntervalOk", fn := fun _ => fun
  | [d] => { results := [.lit (.bool false)], args := [d] }
  | _ => none }
def FnExactIntervalOkWrongFalsely : Prop := fnExactIntervalOkRow.holds Try.pinned (OpenSpec.ofChange fnExactIntervalOkWrong)

/-- 'laws.FnExactDepth': WHATEVER THE INPUT: true; the input reads as it did. -/
def fnExactDepthSpec : ChangeSpec := { name := "fnExactDepth", fn := fun _ => fun
  | [d1, d2] => { results := [.lit (.bool true)], args := [d1, d2] }
  | _ => none }
def fnExactDepthRow : OpenClaim := { program := "ytecedbhjfpgkmaa", sum := "04a497074891c60dfb221868849e156e9aa97198095be2cabfe696cb3ccd7071", func := "loop.example/g00656/laws.FnExactDepth", spec := "fnExactDepth", apart := false }
def FnExactDepthSaid : Prop := fnExactDepthRow.holds Try.pinned (OpenSpec.ofChange fnExactDepthSpec)

/-- ITS FALSE NEIGHBOUR: 'it returns false'. Refute it at one input. -/
def fnExactDepthWrong : ChangeSpec := { name := "fnExactDepth", fn := fun _ => fun
  | [d1, d2] => { results := [.lit (.bool false)], args := [d1, d2] }
  | _ => none }
def FnExactDepthWrongFalsely : Prop := fnExactDepthRow.holds Try.pinned (OpenSpec.ofChange fnExactDepthWrong)

/-- 'laws.FnExactAgreed': WHATEVER THE INPUT: true; the input reads as it did. -/
def fnExactAgreedSpec : ChangeSpec := { name := "fnExactAgreed", fn := fun _ => fun
  | [d] => { results := [.lit (.bool true)], args := [d] }
  | _ => none }
def fnExactAgreedRow : OpenClaim := { program := "ytecedbhjfpgkmaa", sum := "04a497074891c60dfb221868849e156e9aa97198095be2cabfe696cb3ccd7071", func := "loop.example/g00656/laws.FnExactAgreed", spec := "fnExactAgreed", inPlace := ["slices.overlaps[loop.example/g00656/impl.edge]"], unfollowed := true, recurses := true, apart := false }
def FnExactAgreedSaid : Prop := fnExactAgreedRow.holds Try.pinned (OpenSpec.ofChange fnExactAgreedSpec)

/-- ITS FALSE NEIGHBOUR: 'it returns false'. Refute it at one input. -/
def fnExactAgreedWrong : ChangeSpec := { name := "fnExactAgreed", fn := fun _ => fun
  | [d] => { results := [.lit (.bool false)], args := [d] }
  | _ => none }
def FnExactAgreedWrongFalsely : Prop := fnExactAgreedRow.holds Try.pinned (OpenSpec.ofChange fnExactAgreedWrong)

/-- 'laws.FnExactChimers': WHATEVER THE INPUT: true; the input reads as it did. -/
def fnExactChimersSpec : ChangeSpec := { name := "fnExactChimers", fn := fun _ => fun
  | [d] => { results := [.lit (.bool true)], args := [d] }
  | _ => none }
def fnExactChimersRow : OpenClaim := { program := "ytecedbhjfpgkmaa", sum := "04a497074891c60dfb221868849e156e9aa97198095be2cabfe696cb3ccd7071", func := "loop.example/g00656/laws.FnExactChimers", spec := "fnExactChimers", inPlace := ["slices.overlaps[loop.example/g00656/impl.edge]"], unfollowed := true, recurses := true, apart := false }
def FnExactChimersSaid : Prop := fnExactChimersRow.holds Try.pinned (OpenSpec.ofChange fnExactChimersSpec)

/-- ITS FALSE NEIGHBOUR: 'it returns false'. Refute it at one input. -/
def fnExactChimersWrong : ChangeSpec := { name := "fnExactChimers", fn := fun _ => fun
  | [d] => { results := [.lit (.bool false)], args := [d] }
  | _ => none }
def FnExactChimersWrongFalsely : Prop := fnExactChimersRow.holds Try.pinned (OpenSpec.ofChange fnExactChimersWrong)

/-- 'laws.FnExactMajority': WHATEVER THE INPUT: true; the input reads as it did. -/
def fnExactMajoritySpec : ChangeSpec := { name := "fnExactMajority", fn := fun _ => fun
  | [d] => { results := [.lit (.bool true)], args := [d] }
  | _ => none }
def fnExactMajorityRow : OpenClaim := { program := "ytecedbhjfpgkmaa", sum := "04a497074891c60dfb221868849e156e9aa97198095be2cabfe696cb3ccd7071", func := "loop.example/g00656/laws.FnExactMajority", spec := "fnExactMajority", inPlace := ["slices.overlaps[loop.example/g00656/impl.edge]"], unfollowed := true, recurses := true, apart := false }
def FnExactMajoritySaid : Prop := fnExactMajorityRow.holds Try.pinned (OpenSpec.ofChange fnExactMajoritySpec)

/-- ITS FALSE NEIGHBOUR: 'it returns false'. Refute it at one input. -/
def fnExactMajorityWrong : ChangeSpec := { name := "fnExactMajority", fn := fun _ => fun
  | [d] => { results := [.lit (.bool false)], args := [d] }
  | _ => none }
def FnExactMajorityWrongFalsely : Prop := fnExactMajorityRow.holds Try.pinned (OpenSpec.ofChange fnExactMajorityWrong)

/-- 'laws.FnAgreed': WHATEVER THE INPUT: true; the input reads as it did. -/
def fnAgreedSpec : ChangeSpec := { name := "fnAgreed", fn := fun _ => fun
  | [d] => { results := [.lit (.bool true)], args := [d] }
  | _ => none }
def fnAgreedRow : OpenClaim := { program := "ytecedbhjfpgkmaa", sum := "04a497074891c60dfb221868849e156e9aa97198095be2cabfe696cb3ccd7071", func := "loop.example/g00656/laws.FnAgreed", spec := "fnAgreed", inPlace := ["slices.overlaps[loop.example/g00656/impl.edge]"], unfollowed := true, recurses := true, apart := false }
def FnAgreedSaid : Prop := fnAgreedRow.holds Try.pinned (OpenSpec.ofChange fnAgreedSpec)

/-- ITS FALSE NEIGHBOUR: 'it returns false'. Refute it at one input. -/
def fnAgreedWrong : ChangeSpec := { name := "fnAgreed", fn := fun _ => fun
  | [d] => { results := [.lit (.bool false)], args := [d] }
  | _ => none }
def FnAgreedWrongFalsely : Prop := fnAgreedRow.holds Try.pinned (OpenSpec.ofChange fnAgreedWrong)

/-- 'laws.FnChimers': WHATEVER THE INPUT: true; the input reads as it did. -/
def fnChimersSpec : ChangeSpec := { name := "fnChimers", fn := fun _ => fun
  | [d] => { results := [.lit (.bool true)], args := [d] }
  | _ => none }
def fnChimersRow : OpenClaim := { program := "ytecedbhjfpgkmaa", sum := "04a497074891c60dfb221868849e156e9aa97198095be2cabfe696cb3ccd7071", func := "loop.example/g00656/laws.FnChimers", spec := "fnChimers", inPlace := ["slices.overlaps[loop.example/g00656/impl.edge]"], unfollowed := true, recurses := true, apart := false }
def FnChimersSaid : Prop := fnChimersRow.holds Try.pinned (OpenSpec.ofChange fnChimersSpec)

/-- ITS FALSE NEIGHBOUR: 'it returns false'. Refute it at one input. -/
def fnChimersWrong : ChangeSpec := { name := "fnChimers", fn := fun _ => fun
  | [d] => { results := [.lit (.bool false)], args := [d] }
  | _ => none }
def FnChimersWrongFalsely : Prop := fnChimersRow.holds Try.pinned (OpenSpec.ofChange fnChimersWrong)

/-- 'laws.FnMoreAgree': WHATEVER THE INPUT: true; the input reads as it did. -/
def fnMoreAgreeSpec : ChangeSpec := { name := "fnMoreAgree", fn := fun _ => fun
  | [d] => { results := [.lit (.bool true)], args := [d] }
  | _ => none }
def fnMoreAgreeRow : OpenClaim := { program := "ytecedbhjfpgkmaa", sum := "04a497074891c60dfb221868849e156e9aa97198095be2cabfe696cb3ccd7071", func := "loop.example/g00656/laws.FnMoreAgree", spec := "fnMoreAgree", inPlace := ["slices.overlaps[loop.example/g00656/impl.edge]"], unfollowed := true, recurses := true, apart := false }
def FnMoreAgreeSaid : Prop := fnMoreAgreeRow.holds Try.pinned (OpenSpec.ofChange fnMoreAgreeSpec)

/-- ITS FALSE NEIGHBOUR: 'it returns false'. Refute it at one input. -/
def fnMoreAgreeWrong : ChangeSpec := { name := "fnMoreAgree", fn := fun _ => fun
  | [d] => { results := [.lit (.bool false)], args := [d] }
  | _ => none }
def FnMoreAgreeWrongFalsely : Prop := fnMoreAgreeRow.holds Try.pinned (OpenSpec.ofChange fnMoreAgreeWrong)

/-- 'laws.FnWider': WHATEVER THE INPUT: true; the input reads as it did. -/
def fnWiderSpec : ChangeSpec := { name := "fnWider", fn := fun _ => fun
  | [d] => { results := [.lit (.bool true)], args := [d] }
  | _ => none }
def fnWiderRow : OpenClaim := { program := "ytecedbhjfpgkmaa", sum := "04a497074891c60dfb221868849e156e9aa97198095be2cabfe696cb3ccd7071", func := "loop.example/g00656/laws.FnWider", spec := "fnWider", inPlace := ["slices.overlaps[loop.example/g00656/impl.edge]"], unfollowed := true, recurses := true, apart := false }
def FnWiderSaid : Prop := fnWiderRow.holds Try.pinned (OpenSpec.ofChange fnWiderSpec)

/-- ITS FALSE NEIGHBOUR: 'it returns false'. Refute it at one input. -/
def fnWiderWrong : ChangeSpec := { name := "fnWider", fn := fun _ => fun
  | [d] => { results := [.lit (.bool false)], args := [d] }
  | _ => none }
def FnWiderWrongFalsely : Prop := fnWiderRow.holds Try.pinned (OpenSpec.ofChange fnWiderWrong)

/-- 'laws.FnAgreedSelf': WHATEVER THE INPUT: true; the input reads as it did. -/
def fnAgreedSelfSpec : ChangeSpec := { name := "fnAgreedSelf", fn := fun _ => fun
  | [d] => { results := [.lit (.bool true)], args := [d] }
  | _ => none }
def fnAgreedSelfRow : OpenClaim := { program := "ytecedbhjfpgkmaa", sum := "04a497074891c60dfb221868849e156e9aa97198095be2cabfe696cb3ccd7071", func := "loop.example/g00656/laws.FnAgreedSelf", spec := "fnAgreedSelf", inPlace := ["slices.overlaps[loop.example/g00656/impl.edge]"], unfollowed := true, recurses := true, apart := false }
def FnAgreedSelfSaid : Prop := fnAgreedSelfRow.holds Try.pinned (OpenSpec.ofChange fnAgreedSelfSpec)

/-- ITS FALSE NEIGHBOUR: 'it returns false'. Refute it at one input. -/
def fnAgreedSelfWrong : ChangeSpec := { name := "fnAgreedSelf", fn := fun _ => fun
  | [d] => { results := [.lit (.bool false)], args := [d] }
  | _ => none }
def FnAgreedSelfWrongFalsely : Prop := fnAgreedSelfRow.holds Try.pinned (OpenSpec.ofChange fnAgreedSelfWrong)

/- THE SECOND FORM. 'bulk': how many values and letters a reading holds, each counted each time it is reached (what is shared counts as often as it is met; a slice's spare places count too). A statement '..UptoSaid' is the law's where the arguments, and the package variables that the reading takes, are together of bulk at most 1048576: NARROWER than '..Said'. Prove '..Said' where nothing that the law and all that it calls make is longer than what came in: it says more and counts as full. Else prove '..UptoSaid'. A law counts once. -/
mutual
def uptoBulk {H : Type} : DataW H → Nat
  | .lit (.string bytes) => bytes.length + 1
  | .lit _ => 1
  | .nil => 1
  | .ptr d => uptoBulk d + 1
  | .slice elems spare => uptoBulkAll elems + uptoBulkAll spare + 1
  | .agg parts => uptoBulkAll parts + 1
  | .iface _ d => uptoBulk d + 1
  | .map entries => uptoBulkEntries entries + 1
  | .held _ => 1
def uptoBulkAll {H : Type} : List (DataW H) → Nat
  | [] => 0
  | d :: r => uptoBulk d + uptoBulkAll r
def uptoBulkEntries {H : Type} : List (Lit × DataW H) → Nat
  | [] => 0
  | x :: r => uptoBulkEntry x + uptoBulkEntries r
def uptoBulkEntry {H : Type} : Lit × DataW H → Nat
  | (.string bytes, d) => bytes.length + uptoBulk d + 1
  | (_, d) => uptoBulk d + 1
 end
def uptoSmall : (H : Type) → List (DataW H) → Bool := fun _ ds => decide (uptoBulkAll ds ≤ 1048576)
def OpenSpec.upto (s : _root_.Go.ChangeSpec) : _root_.Go.OpenSpec := { _root_.Go.OpenSpec.ofChange s with cond := some uptoSmall }

/-- 'laws.FnExactIntervalOk', WHERE WHAT IT READS IS OF BULK AT MOST 1048576: true; the input reads as it did. -/
def fnExactIntervalOkUptoRow : OpenClaim := { program := "ytecedbhjfpgkmaa", sum := "04a497074891c60dfb221868849e156e9aa97198095be2cabfe696cb3ccd7071", func := "loop.example/g00656/laws.FnExactIntervalOk", spec := "fnExactIntervalOk", apart := false, narrowed := true }
def FnExactIntervalOkUptoSaid : Prop := fnExactIntervalOkUptoRow.holds Try.pinned (OpenSpec.upto fnExactIntervalOkSpec)

/-- 'laws.FnExactDepth', WHERE WHAT IT READS IS OF BULK AT MOST 1048576: true; the input reads as it did. -/
def fnExactDepthUptoRow : OpenClaim := { program := "ytecedbhjfpgkmaa", sum := "04a497074891c60dfb221868849e156e9aa97198095be2cabfe696cb3ccd7071", func := "loop.example/g00656/laws.FnExactDepth", spec := "fnExactDepth", apart := false, narrowed := true }
def FnExactDepthUptoSaid : Prop := fnExactDepthUptoRow.holds Try.pinned (OpenSpec.upto fnExactDepthSpec)

/-- 'laws.FnExactAgreed', WHERE WHAT IT READS IS OF BULK AT MOST 1048576: true; the input reads as it did. -/
def fnExactAgreedUptoRow : OpenClaim := { program := "ytecedbhjfpgkmaa", sum := "04a497074891c60dfb221868849e156e9aa97198095be2cabfe696cb3ccd7071", func := "loop.example/g00656/laws.FnExactAgreed", spec := "fnExactAgreed", inPlace := ["slices.overlaps[loop.example/g00656/impl.edge]"], unfollowed := true, recurses := true, apart := false, narrowed := true }
def FnExactAgreedUptoSaid : Prop := fnExactAgreedUptoRow.holds Try.pinned (OpenSpec.upto fnExactAgreedSpec)

/-- 'laws.FnExactChimers', WHERE WHAT IT READS IS OF BULK AT MOST 1048576: true; the input reads as it did. -/
def fnExactChimersUptoRow : OpenClaim := { program := "ytecedbhjfpgkmaa", sum := "04a497074891c60dfb221868849e156e9aa97198095be2cabfe696cb3ccd7071", func := "loop.example/g00656/laws.FnExactChimers", spec := "fnExactChimers", inPlace := ["slices.overlaps[loop.example/g00656/impl.edge]"], unfollowed := true, recurses := true, apart := false, narrowed := true }
def FnExactChimersUptoSaid : Prop := fnExactChimersUptoRow.holds Try.pinned (OpenSpec.upto fnExactChimersSpec)

/-- 'laws.FnExactMajority', WHERE WHAT IT READS IS OF BULK AT MOST 1048576: true; the input reads as it did. -/
def fnExactMajorityUptoRow : OpenClaim := { program := "ytecedbhjfpgkmaa", sum := "04a497074891c60dfb221868849e156e9aa97198095be2cabfe696cb3ccd7071", func := "loop.example/g00656/laws.FnExactMajority", spec := "fnExactMajority", inPlace := ["slices.overlaps[loop.example/g00656/impl.edge]"], unfollowed := true, recurses := true, apart := false, narrowed := true }
def FnExactMajorityUptoSaid : Prop := fnExactMajorityUptoRow.holds Try.pinned (OpenSpec.upto fnExactMajoritySpec)

/-- 'laws.FnAgreed', WHERE WHAT IT READS IS OF BULK AT MOST 1048576: true; the input reads as it did. -/
def fnAgreedUptoRow : OpenClaim := { program := "ytecedbhjfpgkmaa", sum := "04a497074891c60dfb221868849e156e9aa97198095be2cabfe696cb3ccd7071", func := "loop.example/g00656/laws.FnAgreed", spec := "fnAgreed", inPlace := ["slices.overlaps[loop.example/g00656/impl.edge]"], unfollowed := true, recurses := true, apart := false, narrowed := true }
def FnAgreedUptoSaid : Prop := fnAgreedUptoRow.holds Try.pinned (OpenSpec.upto fnAgreedSpec)

/-- 'laws.FnChimers', WHERE WHAT IT READS IS OF BULK AT MOST 1048576: true; the input reads as it did. -/
def fnChimersUptoRow : OpenClaim := { program := "ytecedbhjfpgkmaa", sum := "04a497074891c60dfb221868849e156e9aa97198095be2cabfe696cb3ccd7071", func := "loop.example/g00656/laws.FnChimers", spec := "fnChimers", inPlace := ["slices.overlaps[loop.example/g00656/impl.edge]"], unfollowed := true, recurses := true, apart := false, narrowed := true }
def FnChimersUptoSaid : Prop := fnChimersUptoRow.holds Try.pinned (OpenSpec.upto fnChimersSpec)

/-- 'laws.FnMoreAgree', WHERE WHAT IT READS IS OF BULK AT MOST 1048576: true; the input reads as it did. -/
def fnMoreAgreeUptoRow : OpenClaim := { program := "ytecedbhjfpgkmaa", sum := "04a497074891c60dfb221868849e156e9aa97198095be2cabfe696cb3ccd7071", func := "loop.example/g00656/laws.FnMoreAgree", spec := "fnMoreAgree", inPlace := ["slices.overlaps[loop.example/g00656/impl.edge]"], unfollowed := true, recurses := true, apart := false, narrowed := true }
def FnMoreAgreeUptoSaid : Prop := fnMoreAgreeUptoRow.holds Try.pinned (OpenSpec.upto fnMoreAgreeSpec)

/-- 'laws.FnWider', WHERE WHAT IT READS IS OF BULK AT MOST 1048576: true; the input reads as it did. -/
def fnWiderUptoRow : OpenClaim := { program := "ytecedbhjfpgkmaa", sum := "04a497074891c60dfb221868849e156e9aa97198095be2cabfe696cb3ccd7071", func := "loop.example/g00656/laws.FnWider", spec := "fnWider", inPlace := ["slices.overlaps[loop.example/g00656/impl.edge]"], unfollowed := true, recurses := true, apart := false, narrowed := true }
def FnWiderUptoSaid : Prop := fnWiderUptoRow.holds Try.pinned (OpenSpec.upto fnWiderSpec)

/-- 'laws.FnAgreedSelf', WHERE WHAT IT READS IS OF BULK AT MOST 1048576: true; the input reads as it did. -/
def fnAgreedSelfUptoRow : OpenClaim := { program := "ytecedbhjfpgkmaa", sum := "04a497074891c60dfb221868849e156e9aa97198095be2cabfe696cb3ccd7071", func := "loop.example/g00656/laws.FnAgreedSelf", spec := "fnAgreedSelf", inPlace := ["slices.overlaps[loop.example/g00656/impl.edge]"], unfollowed := true, recurses := true, apart := false, narrowed := true }
def FnAgreedSelfUptoSaid : Prop := fnAgreedSelfUptoRow.holds Try.pinned (OpenSpec.upto fnAgreedSelfSpec)

end Rows
end Go.Proofs.Ytecedbhjfpgkmaa
