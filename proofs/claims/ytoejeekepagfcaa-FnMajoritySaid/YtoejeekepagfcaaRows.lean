/-
  No cell of these rows narrows 'for every input' (looked for: loops, veiled, ifaces, maps, wideKeys, modest, calm, conditions, laid).
  DERIVED. THE GIVEN ROWS OF THIS SEAT. 10 by the template 'for every input the law returns true; each argument reads behind the call as it read before'; 0 by the template 'total and deterministic' (their statements: YtoejeekepagfcaaTotals.lean).
  GIVEN WITH THE SEED: the statements are not yours to turn. If you find one false, say at which input.
  Laid BY PROGRAM, IN A SANDBOX (cutbox-rows.mjs): the forced cells as the released guide's own fill.sh prints them over the translation 52a3feb5f2d0f28f… (all of the seat's roots in one cut). By AI agents, Wed Nov 11 2026. No macro, syntax, notation, axiom, sorry.
-/
import Derived.Test.YtoejeekepagfcaaChecked
import GoSem.Claim
import GoSem.ClaimJoined
import GoSem.ClaimMapViews
import Derived.JoinedTies
import Derived.KernelRfl
namespace Go.Proofs.Ytoejeekepagfcaa
/- THE CELL 'sum', in the pinned program and in every row, IS THE sha256 OF THE DUMP (.gsa) THAT YtoejeekepagfcaaProg.lean LOADS. Nothing in Lean hashes anything: it is a label: what it is worth is what the hold of that sum in a sandbox is worth. -/
noncomputable def Try.pinned : Pinned := { name := "ytoejeekepagfcaa", sum := "52a3feb5f2d0f28f186beee4ebc79eb8f6e239f6a9c3ab9937f80101cad94871", checked := Try.checked }
namespace Rows
def none {H : Type} : Left H := { results := [], args := [] }

/-- 'laws.FnExactAgreed': WHATEVER THE INPUT: true; the input reads as it did. -/
def fnExactAgreedSpec : ChangeSpec := { name := "fnExactAgreed", fn := fun _ => fun
  | [d] => { results := [.lit (.bool true)], args := [d] }
  | _ => none }
def fnExactAgreedRow : OpenClaim := { program := "ytoejeekepagfcaa", sum := "52a3feb5f2d0f28f186beee4ebc79eb8f6e239f6a9c3ab9937f80101cad94871", func := "loop.example/g00656/laws.FnExactAgreed", spec := "fnExactAgreed", inPlace := ["slices.overlaps[loop.example/g00656/impl.edge]"], unfollowed := true, recurses := true, apart := false }
def FnExactAgreedSaid : Prop := fnExactAgreedRow.holds Try.pinned (OpenSpec.ofChange fnExactAgreedSpec)

/-- ITS FALSE NEIGHBOUR: 'it returns false'. Refute it at one input. -/
def fnExactAgreedWrong : ChangeSpec := { name := "fnExactAgreed", fn := fun _ => fun
  | [d] => { results := [.lit (.bool false)], args := [d] }
  | _ => none }
def FnExactAgreedWrongFalsely : Prop := fnExactAgreedRow.holds Try.pinned (OpenSpec.ofChange fnExactAgreedWrong)

/-- 'laws.FnExactChimers': WHATEVER THE INPUT: true; the input reads as it did. -/
def fnExactChimersSpec : ChangeSpec := { name := "fnExactChimers", fn := fun _ => fun
  | [d] => { results := [.lit (.bool true)], args := [d] }
  | _ => none }
def fnExactChimersRow : OpenClaim := { program := "ytoejeekepagfcaa", sum := "52a3feb5f2d0f28f186beee4ebc79eb8f6e239f6a9c3ab9937f80101cad94871", func := "loop.example/g00656/laws.FnExactChimers", spec := "fnExactChimers", inPlace := ["slices.overlaps[loop.example/g00656/impl.edge]"], unfollowed := true, recurses := true, apart := false }
def FnExactChimersSaid : Prop := fnExactChimersRow.holds Try.pinned (OpenSpec.ofChange fnExactChimersSpec)

/-- ITS FALSE NEIGHBOUR: 'it returns false'. Refute it at one input. -/
def fnExactChimersWrong : ChangeSpec := { name := "fnExactChimers", fn := fun _ => fun
  | [d] => { results := [.lit (.bool false)], args := [d] }
  | _ => none }
def FnExactChimersWrongFalsely : Prop := fnExactChimersRow.holds Try.pinned (OpenSpec.ofChange fnExactChimersWrong)

/-- 'laws.FnExactMajority': WHATEVER THE INPUT: true; the input reads as it did. -/
def fnExactMajoritySpec : ChangeSpec := { name := "fnExactMajority", fn := fun _ => fun
  | [d] => { results := [.lit (.bool true)], args := [d] }
  | _ => none }
def fnExactMajorityRow : OpenClaim := { program := "ytoejeekepagfcaa", sum := "52a3feb5f2d0f28f186beee4ebc79eb8f6e239f6a9c3ab9937f80101cad94871", func := "loop.example/g00656/laws.FnExactMajority", spec := "fnExactMajority", inPlace := ["slices.overlaps[loop.example/g00656/impl.edge]"], unfollowed := true, recurses := true, apart := false }
def FnExactMajoritySaid : Prop := fnExactMajorityRow.holds Try.pinned (OpenSpec.ofChange fnExactMajoritySpec)

/-- ITS FALSE NEIGHBOUR: 'it returns false'. Refute it at one input. -/
def fnExactMajorityWrong : ChangeSpec := { name := "fnExactMajority", fn := fun _ => fun
  | [d] => { results := [.lit (.bool false)], args := [d] }
  | _ => none }
def FnExactMajorityWrongFalsely : Prop := fnExactMajorityRow.holds Try.pinned (OpenSpec.ofChange fnExactMajorityWrong)

/-- 'laws.FnAgreed': WHATEVER THE INPUT: true; the input reads as it did. -/
def fnAgreedSpec : ChangeSpec := { name := "fnAgreed", fn := fun _ => fun
  | [d] => { results := [.lit (.bool true)], args := [d] }
  | _ => none }
def fnAgreedRow : OpenClaim := { program := "ytoejeekepagfcaa", sum := "52a3feb5f2d0f28f186beee4ebc79eb8f6e239f6a9c3ab9937f80101cad94871", func := "loop.example/g00656/laws.FnAgreed", spec := "fnAgreed", inPlace := ["slices.overlaps[loop.example/g00656/impl.edge]"], unfollowed := true, recurses := true, apart := false }
def FnAgreedSaid : Prop := fnAgreedRow.holds Try.pinned (OpenSpec.ofChange fnAgreedSpec)

/-- ITS FALSE NEIGHBOUR: 'it returns false'. Refute it at one input. -/
def fnAgreedWrong : ChangeSpec := { name := "fnAgreed", fn := fun _ => fun
  | [d] => { results := [.lit (.bool false)], args := [d] }
  | _ => none }
def FnAgreedWrongFalsely : Prop := fnAgreedRow.holds Try.pinned (OpenSpec.ofChange fnAgreedWrong)

/-- 'laws.FnChimers': WHATEVER THE INPUT: true; the input reads as it did. -/
def fnChimersSpec : ChangeSpec := { name := "fnChimers", fn := fun _ => fun
  | [d] => { results := [.lit (.bool true)], args := [d] }
  | _ => none }
def fnChimersRow : OpenClaim := { program := "ytoejeekepagfcaa", sum := "52a3feb5f2d0f28f186beee4ebc79eb8f6e239f6a9c3ab9937f80101cad94871", func := "loop.example/g00656/laws.FnChimers", spec := "fnChimers", inPlace := ["slices.overlaps[loop.example/g00656/impl.edge]"], unfollowed := true, recurses := true, apart := false }
def FnChimersSaid : Prop := fnChimersRow.holds Try.pinned (OpenSpec.ofChange fnChimersSpec)

/-- ITS FALSE NEIGHBOUR: 'it returns false'. Refute it at one input. -/
def fnChimersWrong : ChangeSpec := { name := "fnChimers", fn := fun _ => fun
  | [d] => { results := [.lit (.bool false)], args := [d] }
  | _ => none }
def FnChimersWrongFalsely : Prop := fnChimersRow.holds Try.pinned (OpenSpec.ofChange fnChimersWrong)

/-- 'laws.FnMajority': WHATEVER THE INPUT: true; the input reads as it did. -/
def fnMajoritySpec : ChangeSpec := { name := "fnMajority", fn := fun _ => fun
  | [d] => { results := [.lit (.bool true)], args := [d] }
  | _ => none }
def fnMajorityRow : OpenClaim := { program := "ytoejeekepagfcaa", sum := "52a3feb5f2d0f28f186beee4ebc79eb8f6e239f6a9c3ab9937f80101cad94871", func := "loop.example/g00656/laws.FnMajority", spec := "fnMajority", inPlace := ["slices.overlaps[loop.example/g00656/impl.edge]"], unfollowed := true, recurses := true, apart := false }
def FnMajoritySaid : Prop := fnMajorityRow.holds Try.pinned (OpenSpec.ofChange fnMajoritySpec)

/-- ITS FALSE NEIGHBOUR: 'it returns false'. Refute it at one input. -/
def fnMajorityWrong : ChangeSpec := { name := "fnMajority", fn := fun _ => fun
  | [d] => { results := [.lit (.bool false)], args := [d] }
  | _ => none }
def FnMajorityWrongFalsely : Prop := fnMajorityRow.holds Try.pinned (OpenSpec.ofChange fnMajorityWrong)

/-- 'laws.FnMoreAgree': WHATEVER THE INPUT: true; the input reads as it did. -/
def fnMoreAgreeSpec : ChangeSpec := { name := "fnMoreAgree", fn := fun _ => fun
  | [d] => { results := [.lit (.bool true)], args := [d] }
  | _ => none }
def fnMoreAgreeRow : OpenClaim := { program := "ytoejeekepagfcaa", sum := "52a3feb5f2d0f28f186beee4ebc79eb8f6e239f6a9c3ab9937f80101cad94871", func := "loop.example/g00656/laws.FnMoreAgree", spec := "fnMoreAgree", inPlace := ["slices.overlaps[loop.example/g00656/impl.edge]"], unfollowed := true, recurses := true, apart := false }
def FnMoreAgreeSaid : Prop := fnMoreAgreeRow.holds Try.pinned (OpenSpec.ofChange fnMoreAgreeSpec)

/-- ITS FALSE NEIGHBOUR: 'it returns false'. Refute it at one input. -/
def fnMoreAgreeWrong : ChangeSpec := { name := "fnMoreAgree", fn := fun _ => fun
  | [d] => { results := [.lit (.bool false)], args := [d] }
  | _ => none }
def FnMoreAgreeWrongFalsely : Prop := fnMoreAgreeRow.holds Try.pinned (OpenSpec.ofChange fnMoreAgreeWrong)

/-- 'laws.FnAgreedSelf': WHATEVER THE INPUT: true; the input reads as it did. -/
def fnAgreedSelfSpec : ChangeSpec := { name := "fnAgreedSelf", fn := fun _ => fun
  | [d] => { results := [.lit (.bool true)], args := [d] }
  | _ => none }
def fnAgreedSelfRow : OpenClaim := { program := "ytoejeekepagfcaa", sum := "52a3feb5f2d0f28f186beee4ebc79eb8f6e239f6a9c3ab9937f80101cad94871", func := "loop.example/g00656/laws.FnAgreedSelf", spec := "fnAgreedSelf", inPlace := ["slices.overlaps[loop.example/g00656/impl.edge]"], unfollowed := true, recurses := true, apart := false }
def FnAgreedSelfSaid : Prop := fnAgreedSelfRow.holds Try.pinned (OpenSpec.ofChange fnAgreedSelfSpec)

/-- ITS FALSE NEIGHBOUR: 'it returns false'. Refute it at one input. -/
def fnAgreedSelfWrong : ChangeSpec := { name := "fnAgreedSelf", fn := fun _ => fun
  | [d] => { results := [.lit (.bool false)], args := [d] }
  | _ => none }
def FnAgreedSelfWrongFalsely : Prop := fnAgreedSelfRow.holds Try.pinned (OpenSpec.ofChange fnAgreedSelfWrong)

/-- 'laws.FnIntervalOrder': WHATEVER THE INPUT: true; the input reads as it did. -/
def fnIntervalOrderSpec : ChangeSpec := { name := "fnIntervalOrder", fn := fun _ => fun
  | [d] => { results := [.lit (.bool true)], args := [d] }
  | _ => none }
def fnIntervalOrderRow : OpenClaim := { program := "ytoejeekepagfcaa", sum := "52a3feb5f2d0f28f186beee4ebc79eb8f6e239f6a9c3ab9937f80101cad94871", func := "loop.example/g00656/laws.FnIntervalOrder", spec := "fnIntervalOrder", inPlace := ["slices.overlaps[loop.example/g00656/impl.edge]"], unfollowed := true, recurses := true, apart := false }
def FnIntervalOrderSaid : Prop := fnIntervalOrderRow.holds Try.pinned (OpenSpec.ofChange fnIntervalOrderSpec)

/-- ITS FALSE NEIGHBOUR: 'it returns false'. Refute it at one input. -/
def fnIntervalOrderWrong : ChangeSpec := { name := "fnIntervalOrder", fn := fun _ => fun
  | [d] => { results := [.lit (.bool false)], args := [d] }
  | _ => none }
def FnIntervalOrderWrongFalsely : Prop := fnIntervalOrderRow.holds Try.pinned (OpenSpec.ofChange fnIntervalOrderWrong)

/-- 'laws.FnWider': WHATEVER THE INPUT: true; the input reads as it did. -/
def fnWiderSpec : ChangeSpec := { name := "fnWider", fn := fun _ => fun
  | [d] => { results := [.lit (.bool true)], args := [d] }
  | _ => none }
def fnWiderRow : OpenClaim := { program := "ytoejeekepagfcaa", sum := "52a3feb5f2d0f28f186beee4ebc79eb8f6e239f6a9c3ab9937f80101cad94871", func := "loop.example/g00656/laws.FnWider", spec := "fnWider", inPlace := ["slices.overlaps[loop.example/g00656/impl.edge]"], unfollowed := true, recurses := true, apart := false }
def FnWiderSaid : Prop := fnWiderRow.holds Try.pinned (OpenSpec.ofChange fnWiderSpec)

/-- ITS FALSE NEIGHBOUR: 'it returns false'. Refute it at one input. -/
def fnWiderWrong : ChangeSpec := { name := "fnWider", fn := fun _ => fun
  | [d] => { results := [.lit (.bool false)], args := [d] }
  | _ => none }
def FnWiderWrongFalsely : Prop := fnWiderRow.holds Try.pinned (OpenSpec.ofChange fnWiderWrong)

/- THE SECOND FORM. 'bulk': how many values and letters a reading holds, each counted each time it is reached (what is shared counts as often as it is met; a slice's spare places count too). A statement '..UptoSaid' is the law's where the arguments, and the package variables that the reading takes, are together of bulk at most 1048576: NARROWER than '..Said'. Prove '..Said' where nothing that the law and all that it calls make is longer than what came in: it says more and counts as full. Else prove '..UptoSaid'. A law counts once. -/
mutual
def uptoBulk {H : Type} : DataW H → Nat
  | .lit (.string bytes) => bytes.length + 1
  | .lit _ => 1
  | .nil => 1
  | .ptr d => uptoBulk d + 1
  | .slice elems spare => uptoBulkAll elems + uptoBulkAll spare + 1
  | .agg parts => uptoBulkAll parts + 1
  | .iface _ d => uptoBulk d + 1
  | .map entries => uptoBulkEntries entries + 1
  | .held _ => 1
def uptoBulkAll {H : Type} : List (DataW H) → Nat
  | [] => 0
  | d :: r => uptoBulk d + uptoBulkAll r
def uptoBulkEntries {H : Type} : List (Lit × DataW H) → Nat
  | [] => 0
  | x :: r => uptoBulkEntry x + uptoBulkEntries r
def uptoBulkEntry {H : Type} : Lit × DataW H → Nat
  | (.string bytes, d) => bytes.length + uptoBulk d + 1
  | (_, d) => uptoBulk d + 1
 end
def uptoSmall : (H : Type) → List (DataW H) → Bool := fun _ ds => decide (uptoBulkAll ds ≤ 1048576)
def OpenSpec.upto (s : _root_.Go.ChangeSpec) : _root_.Go.OpenSpec := { _root_.Go.OpenSpec.ofChange s with cond := some uptoSmall }

/-- 'laws.FnExactAgreed', WHERE WHAT IT READS IS OF BULK AT MOST 1048576: true; the input reads as it did. -/
def fnExactAgreedUptoRow : OpenClaim := { program := "ytoejeekepagfcaa", sum := "52a3feb5f2d0f28f186beee4ebc79eb8f6e239f6a9c3ab9937f80101cad94871", func := "loop.example/g00656/laws.FnExactAgreed", spec := "fnExactAgreed", inPlace := ["slices.overlaps[loop.example/g00656/impl.edge]"], unfollowed := true, recurses := true, apart := false, narrowed := true }
def FnExactAgreedUptoSaid : Prop := fnExactAgreedUptoRow.holds Try.pinned (OpenSpec.upto fnExactAgreedSpec)

/-- 'laws.FnExactChimers', WHERE WHAT IT READS IS OF BULK AT MOST 1048576: true; the input reads as it did. -/
def fnExactChimersUptoRow : OpenClaim := { program := "ytoejeekepagfcaa", sum := "52a3feb5f2d0f28f186beee4ebc79eb8f6e239f6a9c3ab9937f80101cad94871", func := "loop.example/g00656/laws.FnExactChimers", spec := "fnExactChimers", inPlace := ["slices.overlaps[loop.example/g00656/impl.edge]"], unfollowed := true, recurses := true, apart := false, narrowed := true }
def FnExactChimersUptoSaid : Prop := fnExactChimersUptoRow.holds Try.pinned (OpenSpec.upto fnExactChimersSpec)

/-- 'laws.FnExactMajority', WHERE WHAT IT READS IS OF BULK AT MOST 1048576: true; the input reads as it did. -/
def fnExactMajorityUptoRow : OpenClaim := { program := "ytoejeekepagfcaa", sum := "52a3feb5f2d0f28f186beee4ebc79eb8f6e239f6a9c3ab9937f80101cad94871", func := "loop.example/g00656/laws.FnExactMajority", spec := "fnExactMajority", inPlace := ["slices.overlaps[loop.example/g00656/impl.edge]"], unfollowed := true, recurses := true, apart := false, narrowed := true }
def FnExactMajorityUptoSaid : Prop := fnExactMajorityUptoRow.holds Try.pinned (OpenSpec.upto fnExactMajoritySpec)

/-- 'laws.FnAgreed', WHERE WHAT IT READS IS OF BULK AT MOST 1048576: true; the input reads as it did. -/
def fnAgreedUptoRow : OpenClaim := { program := "ytoejeekepagfcaa", sum := "52a3feb5f2d0f28f186beee4ebc79eb8f6e239f6a9c3ab9937f80101cad94871", func := "loop.example/g00656/laws.FnAgreed", spec := "fnAgreed", inPlace := ["slices.overlaps[loop.example/g00656/impl.edge]"], unfollowed := true, recurses := true, apart := false, narrowed := true }
def FnAgreedUptoSaid : Prop := fnAgreedUptoRow.holds Try.pinned (OpenSpec.upto fnAgreedSpec)

/-- 'laws.FnChimers', WHERE WHAT IT READS IS OF BULK AT MOST 1048576: true; the input reads as it did. -/
def fnChimersUptoRow : OpenClaim := { program := "ytoejeekepagfcaa", sum := "52a3feb5f2d0f28f186beee4ebc79eb8f6e239f6a9c3ab9937f80101cad94871", func := "loop.example/g00656/laws.FnChimers", spec := "fnChimers", inPlace := ["slices.overlaps[loop.example/g00656/impl.edge]"], unfollowed := true, recurses := true, apart := false, narrowed := true }
def FnChimersUptoSaid : Prop := fnChimersUptoRow.holds Try.pinned (OpenSpec.upto fnChimersSpec)

/-- 'laws.FnMajority', WHERE WHAT IT READS IS OF BULK AT MOST 1048576: true; the input reads as it did. -/
def fnMajorityUptoRow : OpenClaim := { program := "ytoejeekepagfcaa", sum := "52a3feb5f2d0f28f186beee4ebc79eb8f6e239f6a9c3ab9937f80101cad94871", func := "loop.example/g00656/laws.FnMajority", spec := "fnMajority", inPlace := ["slices.overlaps[loop.example/g00656/impl.edge]"], unfollowed := true, recurses := true, apart := false, narrowed := true }
def FnMajorityUptoSaid : Prop := fnMajorityUptoRow.holds Try.pinned (OpenSpec.upto fnMajoritySpec)

/-- 'laws.FnMoreAgree', WHERE WHAT IT READS IS OF BULK AT MOST 1048576: true; the input reads as it did. -/
def fnMoreAgreeUptoRow : OpenClaim := { program := "ytoejeekepagfcaa", sum := "52a3feb5f2d0f28f186beee4ebc79eb8f6e239f6a9c3ab9937f80101cad94871", func := "loop.example/g00656/laws.FnMoreAgree", spec := "fnMoreAgree", inPlace := ["slices.overlaps[loop.example/g00656/impl.edge]"], unfollowed := true, recurses := true, apart := false, narrowed := true }
def FnMoreAgreeUptoSaid : Prop := fnMoreAgreeUptoRow.holds Try.pinned (OpenSpec.upto fnMoreAgreeSpec)

/-- 'laws.FnAgreedSelf', WHERE WHAT IT READS IS OF BULK AT MOST 1048576: true; the input reads as it did. -/
def fnAgreedSelfUptoRow : OpenClaim := { program := "ytoejeekepagfcaa", sum := "52a3feb5f2d0f28f186beee4ebc79eb8f6e239f6a9c3ab9937f80101cad94871", func := "loop.example/g00656/laws.FnAgreedSelf", spec := "fnAgreedSelf", inPlace := ["slices.overlaps[loop.example/g00656/impl.edge]"], unfollowed := true, recurses := true, apart := false, narrowed := true }
def FnAgreedSelfUptoSaid : Prop := fnAgreedSelfUptoRow.holds Try.pinned (OpenSpec.upto fnAgreedSelfSpec)

/-- 'laws.FnIntervalOrder', WHERE WHAT IT READS IS OF BULK AT MOST 1048576: true; the input reads as it did. -/
def fnIntervalOrderUptoRow : OpenClaim := { program := "ytoejeekepagfcaa", sum := "52a3feb5f2d0f28f186beee4ebc79eb8f6e239f6a9c3ab9937f80101cad94871", func := "loop.example/g00656/laws.FnIntervalOrder", spec := "fnIntervalOrder", inPlace := ["slices.overlaps[loop.example/g00656/impl.edge]"], unfollowed := true, recurses := true, apart := false, narrowed := true }
def FnIntervalOrderUptoSaid : Prop := fnIntervalOrderUptoRow.holds Try.pinned (OpenSpec.upto fnIntervalOrderSpec)

/-- 'laws.FnWider', WHERE WHAT IT READS IS OF BULK AT MOST 1048576: true; the input reads as it did. -/
def fnWiderUptoRow : OpenClaim := { program := "ytoejeekepagfcaa", sum := "52a3feb5f2d0f28f186beee4ebc79eb8f6e239f6a9c3ab9937f80101cad94871", func := "loop.example/g00656/laws.FnWider", spec := "fnWider", inPlace := ["slices.overlaps[loop.example/g00656/impl.edge]"], unfollowed := true, recurses := true, apart := false, narrowed := true }
def FnWiderUptoSaid : Prop := fnWiderUptoRow.holds Try.pinned (OpenSpec.upto fnWiderSpec)

end Rows
end Go.Proofs.Ytoejeekepagfcaa
