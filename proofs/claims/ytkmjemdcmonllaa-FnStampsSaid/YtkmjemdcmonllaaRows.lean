/-
  No cell of these rows narrows 'for every input' (looked for: loops, veiled, ifaces, maps, wideKeys, modest, calm, conditions, laid).
  DERIVED. THE GIVEN ROWS OF THIS SEAT. 17 by the template 'for every input the law returns true; each argument reads behind the call as it read before'; 0 by the template 'total and deterministic' (their statements: YtkmjemdcmonllaaTotals.lean).
  GIVEN WITH THE SEED: the statements are not yours to turn. If you find one false, say at which input.
  Laid BY PROGRAM, IN A SANDBOX (cutbox-rows.mjs): the forced cells as the released guide's own fill.sh prints them over the translation cde38d97fb211c0e… (all of the seat's roots in one cut). By AI agents, Wed Nov 11 2026. No macro, syntax, notation, axiom, sorry.
-/
import Derived.Test.YtkmjemdcmonllaaChecked
import GoSem.Claim
import GoSem.ClaimJoined
import GoSem.ClaimMapViews
import Derived.JoinedTies
import Derived.KernelRfl
namespace Go.Proofs.Ytkmjemdcmonllaa
/- THE CELL 'sum', in the pinned program and in every row, IS THE sha256 OF THE DUMP (.gsa) THAT YtkmjemdcmonllaaProg.lean LOADS. Nothing in Lean hashes anything: it is a label: what it is worth is what the hold of that sum in a sandbox is worth. -/
noncomputable def Try.pinned : Pinned := { name := "ytkmjemdcmonllaa", sum := "cde38d97fb211c0e56a6c0e5cdba0d8a55713ae9699c96dbfb5f3a319374e83f", checked := Try.checked }
namespace Rows
def none {H : Type} : Left H := { results := [], args := [] }

/-- 'laws.FnStamps': WHATEVER THE INPUT: true; the input reads as it did. -/
def fnStampsSpec : ChangeSpec := { name := "fnStamps", fn := fun _ => fun
  | [d] => { results := [.lit (.bool true)], args := [d] }
  | _ => none }
def fnStampsRow : OpenClaim := { program := "ytkmjemdcmonllaa", sum := "cde38d97fb211c0e56a6c0e5cdba0d8a55713ae9699c96dbfb5f3a319374e83f", func := "loop.example/g00656/laws.FnStamps", spec := "fnStamps", unfollowed := true, recurses := true, apart := false }
def FnStampsSaid : Prop := fnStampsRow.holds Try.pinned (OpenSpec.ofChange fnStampsSpec)

/-- ITS FALSE NEIGHBOUR: 'it returns false'. Refute it at one input. -/
def fnStampsWrong : ChangeSpec := { name := "fnStamps", fn := fun _ => fun
  | [d] => { results := [.lit (.bool false)], args := [d] }
  | _ => none }
def FnStampsWrongFalsely : Prop := fnStampsRow.holds Try.pinned (OpenSpec.ofChange fnStampsWrong)

/-- 'laws.FnStampOrder': WHATEVER THE INPUT: true; the input reads as it did. -/
def fnStampOrderSpec : ChangeSpec := { name := "fnStampOrder", fn := fun _ => fun
  | [d] => { results := [.lit (.bool true)], args := [d] }
  | _ => none }
def fnStampOrderRow : OpenClaim := { program := "ytkmjemdcmonllaa", sum := "cde38d97fb211c0e56a6c0e5cdba0d8a55713ae9699c96dbfb5f3a319374e83f", func := "loop.example/g00656/laws.FnStampOrder", spec := "fnStampOrder", unfollowed := true, recurses := true, apart := false }
def FnStampOrderSaid : Prop := fnStampOrderRow.holds Try.pinned (OpenSpec.ofChange fnStampOrderSpec)

/-- ITS FALSE NEIGHBOUR: 'it returns false'. Refute it at one input. -/
def fnStampOrderWrong : ChangeSpec := { name := "fnStampOrder", fn := fun _ => fun
  | [d] => { results := [.lit (.bool false)], args := [d] }
  | _ => none }
def FnStampOrderWrongFalsely : Prop := fnStampOrderRow.holds Try.pinned (OpenSpec.ofChange fnStampOrderWrong)

/-- 'laws.FnShorts': WHATEVER THE INPUT: true; the input reads as it did. -/
def fnShortsSpec : ChangeSpec := { name := "fnShorts", fn := fun _ => fun
  | [d] => { results := [.lit (.bool true)], args := [d] }
  | _ => none }
def fnShortsRow : OpenClaim := { program := "ytkmjemdcmonllaa", sum := "cde38d97fb211c0e56a6c0e5cdba0d8a55713ae9699c96dbfb5f3a319374e83f", func := "loop.example/g00656/laws.FnShorts", spec := "fnShorts", unfollowed := true, recurses := true, apart := false }
def FnShortsSaid : Prop := fnShortsRow.holds Try.pinned (OpenSpec.ofChange fnShortsSpec)

/-- ITS FALSE NEIGHBOUR: 'it returns false'. Refute it at one input. -/
def fnShortsWrong : ChangeSpec := { name := "fnShorts", fn := fun _ => fun
  | [d] => { results := [.lit (.bool false)], args := [d] }
  | _ => none }
def FnShortsWrongFalsely : Prop := fnShortsRow.holds Try.pinned (OpenSpec.ofChange fnShortsWrong)

/-- 'laws.FnPackets': WHATEVER THE INPUT: true; the input reads as it did. -/
def fnPacketsSpec : ChangeSpec := { name := "fnPackets", fn := fun _ => fun
  | [d] => { results := [.lit (.bool true)], args := [d] }
  | _ => none }
def fnPacketsRow : OpenClaim := { program := "ytkmjemdcmonllaa", sum := "cde38d97fb211c0e56a6c0e5cdba0d8a55713ae9699c96dbfb5f3a319374e83f", func := "loop.example/g00656/laws.FnPackets", spec := "fnPackets", unfollowed := true, recurses := true, apart := false }
def FnPacketsSaid : Prop := fnPacketsRow.holds Try.pinned (OpenSpec.ofChange fnPacketsSpec)

/-- ITS FALSE NEIGHBOUR: 'it returns false'. Refute it at one input. -/
def fnPacketsWrong : ChangeSpec := { name := "fnPackets", fn := fun _ => fun
  | [d] => { results := [.lit (.bool false)], args := [d] }
  | _ => none }
def FnPacketsWrongFalsely : Prop := fnPacketsRow.holds Try.pinned (OpenSpec.ofChange fnPacketsWrong)

/-- 'laws.FnAnswers': WHATEVER THE INPUT: true; the input reads as it did. -/
def fnAnswersSpec : ChangeSpec := { name := "fnAnswers", fn := fun _ => fun
  | [d] => { results := [.lit (.bool true)], args := [d] }
  | _ => none }
def fnAnswersRow : OpenClaim := { program := "ytkmjemdcmonllaa", sum := "cde38d97fb211c0e56a6c0e5cdba0d8a55713ae9699c96dbfb5f3a319374e83f", func := "loop.example/g00656/laws.FnAnswers", spec := "fnAnswers", apart := false }
def FnAnswersSaid : Prop := fnAnswersRow.holds Try.pinned (OpenSpec.ofChange fnAnswersSpec)

/-- ITS FALSE NEIGHBOUR: 'it returns false'. Refute it at one input. -/
def fnAnswersWrong : ChangeSpec := { name := "fnAnswers", fn := fun _ => fun
  | [d] => { results := [.lit (.bool false)], args := [d] }
  | _ => none }
def FnAnswersWrongFalsely : Prop := fnAnswersRow.holds Try.pinned (OpenSpec.ofChange fnAnswersWrong)

/-- 'laws.FnShortMore': WHATEVER THE INPUT: true; the input reads as it did. -/
def fnShortMoreSpec : ChangeSpec := { name := "fnShortMore", fn := fun _ => fun
  | [d] => { results := [.lit (.bool true)], args := [d] }
  | _ => none }
def fnShortMoreRow : OpenClaim := { program := "ytkmjemdcmonllaa", sum := "cde38d97fb211c0e56a6c0e5cdba0d8a55713ae9699c96dbfb5f3a319374e83f", func := "loop.example/g00656/laws.FnShortMore", spec := "fnShortMore", unfollowed := true, recurses := true, apart := false }
def FnShortMoreSaid : Prop := fnShortMoreRow.holds Try.pinned (OpenSpec.ofChange fnShortMoreSpec)

/-- ITS FALSE NEIGHBOUR: 'it returns false'. Refute it at one input. -/
def fnShortMoreWrong : ChangeSpec := { name := "fnShortMore", fn := fun _ => fun
  | [d] => { results := [.lit (.bool false)], args := [d] }
  | _ => none }
def FnShortMoreWrongFalsely : Prop := fnShortMoreRow.holds Try.pinned (OpenSpec.ofChange fnShortMoreWrong)

/-- 'laws.FnExactSecondsOf': WHATEVER THE INPUT: true; the input reads as it did. -/
def fnExactSecondsOfSpec : ChangeSpec := { name := "fnExactSecondsOf", fn := fun _ => fun
  | [d] => { results := [.lit (.bool true)], args := [d] }
  | _ => none }
def fnExactSecondsOfRow : OpenClaim := { program := "ytkmjemdcmonllaa", sum := "cde38d97fb211c0e56a6c0e5cdba0d8a55713ae9699c96dbfb5f3a319374e83f", func := "loop.example/g00656/laws.FnExactSecondsOf", spec := "fnExactSecondsOf", apart := false }
def FnExactSecondsOfSaid : Prop := fnExactSecondsOfRow.holds Try.pinned (OpenSpec.ofChange fnExactSecondsOfSpec)

/-- ITS FALSE NEIGHBOUR: 'it returns false'. Refute it at one input. -/
def fnExactSecondsOfWrong : ChangeSpec := { name := "fnExactSecondsOf", fn := fun _ => fun
  | [d] => { results := [.lit (.bool false)], args := [d] }
  | _ => none }
def FnExactSecondsOfWrongFalsely : Prop := fnExactSecondsOfRow.holds Try.pinned (OpenSpec.ofChange fnExactSecondsOfWrong)

/-- 'laws.FnExactStampBytes': WHATEVER THE INPUT: true; the input reads as it did. -/
def fnExactStampBytesSpec : ChangeSpec := { name := "fnExactStampBytes", fn := fun _ => fun
  | [d] => { results := [.lit (.bool true)], args := [d] }
  | _ => none }
def fnExactStampBytesRow : OpenClaim := { program := "ytkmjemdcmonllaa", sum := "cde38d97fb211c0e56a6c0e5cdba0d8a55713ae9699c96dbfb5f3a319374e83f", func := "loop.example/g00656/laws.FnExactStampBytes", spec := "fnExactStampBytes", unfollowed := true, recurses := true, apart := false }
def FnExactStampBytesSaid : Prop := fnExactStampBytesRow.holds Try.pinned (OpenSpec.ofChange fnExactStampBytesSpec)

/-- ITS FALSE NEIGHBOUR: 'it returns false'. Refute it at one input. -/
def fnExactStampBytesWrong : ChangeSpec := { name := "fnExactStampBytes", fn := fun _ => fun
  | [d] => { results := [.lit (.bool false)], args := [d] }
  | _ => none }
def FnExactStampBytesWrongFalsely : Prop := fnExactStampBytesRow.holds Try.pinned (OpenSpec.ofChange fnExactStampBytesWrong)

/-- 'laws.FnExactReadStamp': WHATEVER THE INPUT: true; the input reads as it did. -/
def fnExactReadStampSpec : ChangeSpec := { name := "fnExactReadStamp", fn := fun _ => fun
  | [d] => { results := [.lit (.bool true)], args := [d] }
  | _ => none }
def fnExactReadStampRow : OpenClaim := { program := "ytkmjemdcmonllaa", sum := "cde38d97fb211c0e56a6c0e5cdba0d8a55713ae9699c96dbfb5f3a319374e83f", func := "loop.example/g00656/laws.FnExactReadStamp", spec := "fnExactReadStamp", unfollowed := true, recurses := true, apart := false }
def FnExactReadStampSaid : Prop := fnExactReadStampRow.holds Try.pinned (OpenSpec.ofChange fnExactReadStampSpec)

/-- ITS FALSE NEIGHBOUR: 'it returns false'. Refute it at one input. -/
def fnExactReadStampWrong : ChangeSpec := { name := "fnExactReadStamp", fn := fun _ => fun
  | [d] => { results := [.lit (.bool false)], args := [d] }
  | _ => none }
def FnExactReadStampWrongFalsely : Prop := fnExactReadStampRow.holds Try.pinned (OpenSpec.ofChange fnExactReadStampWrong)

/-- 'laws.FnExactShortBytes': WHATEVER THE INPUT: true; the input reads as it did. -/
def fnExactShortBytesSpec : ChangeSpec := { name := "fnExactShortBytes", fn := fun _ => fun
  | [d] => { results := [.lit (.bool true)], args := [d] }
  | _ => none }
def fnExactShortBytesRow : OpenClaim := { program := "ytkmjemdcmonllaa", sum := "cde38d97fb211c0e56a6c0e5cdba0d8a55713ae9699c96dbfb5f3a319374e83f", func := "loop.example/g00656/laws.FnExactShortBytes", spec := "fnExactShortBytes", unfollowed := true, recurses := true, apart := false }
def FnExactShortBytesSaid : Prop := fnExactShortBytesRow.holds Try.pinned (OpenSpec.ofChange fnExactShortBytesSpec)

/-- ITS FALSE NEIGHBOUR: 'it returns false'. Refute it at one input. -/
def fnExactShortBytesWrong : ChangeSpec := { name := "fnExactShortBytes", fn := fun _ => fun
  | [d] => { results := [.lit (.bool false)], args := [d] }
  | _ => none }
def FnExactShortBytesWrongFalsely : Prop := fnExactShortBytesRow.holds Try.pinned (OpenSpec.ofChange fnExactShortBytesWrong)

/-- 'laws.FnExactReadShort': WHATEVER THE INPUT: true; the input reads as it did. -/
def fnExactReadShortSpec : ChangeSpec := { name := "fnExactReadShort", fn := fun _ => fun
  | [d] => { results := [.lit (.bool true)], args := [d] }
  | _ => none }
def fnExactReadShortRow : OpenClaim := { program := "ytkmjemdcmonllaa", sum := "cde38d97fb211c0e56a6c0e5cdba0d8a55713ae9699c96dbfb5f3a319374e83f", func := "loop.example/g00656/laws.FnExactReadShort", spec := "fnExactReadShort", apart := false }
def FnExactReadShortSaid : Prop := fnExactReadShortRow.holds Try.pinned (OpenSpec.ofChange fnExactReadShortSpec)

/-- ITS FALSE NEIGHBOUR: 'it returns false'. Refute it at one input. -/
def fnExactReadShortWrong : ChangeSpec := { name := "fnExactReadShort", fn := fun _ => fun
  | [d] => { results := [.lit (.bool false)], args := [d] }
  | _ => none }
def FnExactReadShortWrongFalsely : Prop := fnExactReadShortRow.holds Try.pinned (OpenSpec.ofChange fnExactReadShortWrong)

/-- 'laws.FnExactPacketOk': WHATEVER THE INPUT: true; the input reads as it did. -/
def fnExactPacketOkSpec : ChangeSpec := { name := "fnExactPacketOk", fn := fun _ => fun
  | [d] => { results := [.lit (.bool true)], args := [d] }
  | _ => none }
def fnExactPacketOkRow : OpenClaim := { program := "ytkmjemdcmonllaa", sum := "cde38d97fb211c0e56a6c0e5cdba0d8a55713ae9699c96dbfb5f3a319374e83f", func := "loop.example/g00656/laws.FnExactPacketOk", spec := "fnExactPacketOk", apart := false }
def FnExactPacketOkSaid : Prop := fnExactPacketOkRow.holds Try.pinned (OpenSpec.ofChange fnExactPacketOkSpec)

/-- ITS FALSE NEIGHBOUR: 'it returns false'. Refute it at one input. -/
def fnExactPacketOkWrong : ChangeSpec := { name := "fnExactPacketOk", fn := fun _ => fun
  | [d] => { results := [.lit (.bool false)], args := [d] }
  | _ => none }
def FnExactPacketOkWrongFalsely : Prop := fnExactPacketOkRow.holds Try.pinned (OpenSpec.ofChange fnExactPacketOkWrong)

/-- 'laws.FnExactPacketBytes': WHATEVER THE INPUT: true; the input reads as it did. -/
def fnExactPacketBytesSpec : ChangeSpec := { name := "fnExactPacketBytes", fn := fun _ => fun
  | [d] => { results := [.lit (.bool true)], args := [d] }
  | _ => none }
def fnExactPacketBytesRow : OpenClaim := { program := "ytkmjemdcmonllaa", sum := "cde38d97fb211c0e56a6c0e5cdba0d8a55713ae9699c96dbfb5f3a319374e83f", func := "loop.example/g00656/laws.FnExactPacketBytes", spec := "fnExactPacketBytes", unfollowed := true, recurses := true, apart := false }
def FnExactPacketBytesSaid : Prop := fnExactPacketBytesRow.holds Try.pinned (OpenSpec.ofChange fnExactPacketBytesSpec)

/-- ITS FALSE NEIGHBOUR: 'it returns false'. Refute it at one input. -/
def fnExactPacketBytesWrong : ChangeSpec := { name := "fnExactPacketBytes", fn := fun _ => fun
  | [d] => { results := [.lit (.bool false)], args := [d] }
  | _ => none }
def FnExactPacketBytesWrongFalsely : Prop := fnExactPacketBytesRow.holds Try.pinned (OpenSpec.ofChange fnExactPacketBytesWrong)

/-- 'laws.FnExactReadPacket': WHATEVER THE INPUT: true; the input reads as it did. -/
def fnExactReadPacketSpec : ChangeSpec := { name := "fnExactReadPacket", fn := fun _ => fun
  | [d] => { results := [.lit (.bool true)], args := [d] }
  | _ => none }
def fnExactReadPacketRow : OpenClaim := { program := "ytkmjemdcmonllaa", sum := "cde38d97fb211c0e56a6c0e5cdba0d8a55713ae9699c96dbfb5f3a319374e83f", func := "loop.example/g00656/laws.FnExactReadPacket", spec := "fnExactReadPacket", unfollowed := true, recurses := true, apart := false }
def FnExactReadPacketSaid : Prop := fnExactReadPacketRow.holds Try.pinned (OpenSpec.ofChange fnExactReadPacketSpec)

/-- ITS FALSE NEIGHBOUR: 'it returns false'. Refute it at one input. -/
def fnExactReadPacketWrong : ChangeSpec := { name := "fnExactReadPacket", fn := fun _ => fun
  | [d] => { results := [.lit (.bool false)], args := [d] }
  | _ => none }
def FnExactReadPacketWrongFalsely : Prop := fnExactReadPacketRow.holds Try.pinned (OpenSpec.ofChange fnExactReadPacketWrong)

/-- 'laws.FnExactAsked': WHATEVER THE INPUT: true; the input reads as it did. -/
def fnExactAskedSpec : ChangeSpec := { name := "fnExactAsked", fn := fun _ => fun
  | [d1, d2] => { results := [.lit (.bool true)], args := [d1, d2] }
  | _ => none }
def fnExactAskedRow : OpenClaim := { program := "ytkmjemdcmonllaa", sum := "cde38d97fb211c0e56a6c0e5cdba0d8a55713ae9699c96dbfb5f3a319374e83f", func := "loop.example/g00656/laws.FnExactAsked", spec := "fnExactAsked", apart := false }
def FnExactAskedSaid : Prop := fnExactAskedRow.holds Try.pinned (OpenSpec.ofChange fnExactAskedSpec)

/-- ITS FALSE NEIGHBOUR: 'it returns false'. Refute it at one input. -/
def fnExactAskedWrong : ChangeSpec := { name := "fnExactAsked", fn := fun _ => fun
  | [d1, d2] => { results := [.lit (.bool false)], args := [d1, d2] }
  | _ => none }
def FnExactAskedWrongFalsely : Prop := fnExactAskedRow.holds Try.pinned (OpenSpec.ofChange fnExactAskedWrong)

/-- 'laws.FnExactAnswered': WHATEVER THE INPUT: true; the input reads as it did. -/
def fnExactAnsweredSpec : ChangeSpec := { name := "fnExactAnswered", fn := fun _ => fun
  | [d1, d2, d3, d4] => { results := [.lit (.bool true)], args := [d1, d2, d3, d4] }
  | _ => none }
def fnExactAnsweredRow : OpenClaim := { program := "ytkmjemdcmonllaa", sum := "cde38d97fb211c0e56a6c0e5cdba0d8a55713ae9699c96dbfb5f3a319374e83f", func := "loop.example/g00656/laws.FnExactAnswered", spec := "fnExactAnswered", apart := false }
def FnExactAnsweredSaid : Prop := fnExactAnsweredRow.holds Try.pinned (OpenSpec.ofChange fnExactAnsweredSpec)

/-- ITS FALSE NEIGHBOUR: 'it returns false'. Refute it at one input. -/
def fnExactAnsweredWrong : ChangeSpec := { name := "fnExactAnswered", fn := fun _ => fun
  | [d1, d2, d3, d4] => { results := [.lit (.bool false)], args := [d1, d2, d3, d4] }
  | _ => none }
def FnExactAnsweredWrongFalsely : Prop := fnExactAnsweredRow.holds Try.pinned (OpenSpec.ofChange fnExactAnsweredWrong)

/-- 'laws.FnExactFits': WHATEVER THE INPUT: true; the input reads as it did. -/
def fnExactFitsSpec : ChangeSpec := { name := "fnExactFits", fn := fun _ => fun
  | [d1, d2] => { results := [.lit (.bool true)], args := [d1, d2] }
  | _ => none }
def fnExactFitsRow : OpenClaim := { program := "ytkmjemdcmonllaa", sum := "cde38d97fb211c0e56a6c0e5cdba0d8a55713ae9699c96dbfb5f3a319374e83f", func := "loop.example/g00656/laws.FnExactFits", spec := "fnExactFits", apart := false }
def FnExactFitsSaid : Prop := fnExactFitsRow.holds Try.pinned (OpenSpec.ofChange fnExactFitsSpec)

/-- ITS FALSE NEIGHBOUR: 'it returns false'. Refute it at one input. -/
def fnExactFitsWrong : ChangeSpec := { name := "fnExactFits", fn := fun _ => fun
  | [d1, d2] => { results := [.lit (.bool false)], args := [d1, d2] }
  | _ => none }
def FnExactFitsWrongFalsely : Prop := fnExactFitsRow.holds Try.pinned (OpenSpec.ofChange fnExactFitsWrong)

/- THE SECOND FORM. 'bulk': how many values and letters a reading holds, each counted each time it is reached (what is shared counts as often as it is met; a slice's spare places count too). A statement '..UptoSaid' is the law's where the arguments, and the package variables that the reading takes, are together of bulk at most 1048576: NARROWER than '..Said'. Prove '..Said' where nothing that the law and all that it calls make is longer than what came in: it says more and counts as full. Else prove '..UptoSaid'. A law counts once. -/
mutual
def uptoBulk {H : Type} : DataW H → Nat
  | .lit (.string bytes) => bytes.length + 1
  | .lit _ => 1
  | .nil => 1
  | .ptr d => uptoBulk d + 1
  | .slice elems spare => uptoBulkAll elems + uptoBulkAll spare + 1
  | .agg parts => uptoBulkAll parts + 1
  | .iface _ d => uptoBulk d + 1
  | .map entries => uptoBulkEntries entries + 1
  | .held _ => 1
def uptoBulkAll {H : Type} : List (DataW H) → Nat
  | [] => 0
  | d :: r => uptoBulk d + uptoBulkAll r
def uptoBulkEntries {H : Type} : List (Lit × DataW H) → Nat
  | [] => 0
  | x :: r => uptoBulkEntry x + uptoBulkEntries r
def uptoBulkEntry {H : Type} : Lit × DataW H → Nat
  | (.string bytes, d) => bytes.length + uptoBulk d + 1
  | (_, d) => uptoBulk d + 1
 end
def uptoSmall : (H : Type) → List (DataW H) → Bool := fun _ ds => decide (uptoBulkAll ds ≤ 1048576)
def OpenSpec.upto (s : _root_.Go.ChangeSpec) : _root_.Go.OpenSpec := { _root_.Go.OpenSpec.ofChange s with cond := some uptoSmall }

/-- 'laws.FnStamps', WHERE WHAT IT READS IS OF BULK AT MOST 1048576: true; the input reads as it did. -/
def fnStampsUptoRow : OpenClaim := { program := "ytkmjemdcmonllaa", sum := "cde38d97fb211c0e56a6c0e5cdba0d8a55713ae9699c96dbfb5f3a319374e83f", func := "loop.example/g00656/laws.FnStamps", spec := "fnStamps", unfollowed := true, recurses := true, apart := false, narrowed := true }
def FnStampsUptoSaid : Prop := fnStampsUptoRow.holds Try.pinned (OpenSpec.upto fnStampsSpec)

/-- 'laws.FnStampOrder', WHERE WHAT IT READS IS OF BULK AT MOST 1048576: true; the input reads as it did. -/
def fnStampOrderUptoRow : OpenClaim := { program := "ytkmjemdcmonllaa", sum := "cde38d97fb211c0e56a6c0e5cdba0d8a55713ae9699c96dbfb5f3a319374e83f", func := "loop.example/g00656/laws.FnStampOrder", spec := "fnStampOrder", unfollowed := true, recurses := true, apart := false, narrowed := true }
def FnStampOrderUptoSaid : Prop := fnStampOrderUptoRow.holds Try.pinned (OpenSpec.upto fnStampOrderSpec)

/-- 'laws.FnShorts', WHERE WHAT IT READS IS OF BULK AT MOST 1048576: true; the input reads as it did. -/
def fnShortsUptoRow : OpenClaim := { program := "ytkmjemdcmonllaa", sum := "cde38d97fb211c0e56a6c0e5cdba0d8a55713ae9699c96dbfb5f3a319374e83f", func := "loop.example/g00656/laws.FnShorts", spec := "fnShorts", unfollowed := true, recurses := true, apart := false, narrowed := true }
def FnShortsUptoSaid : Prop := fnShortsUptoRow.holds Try.pinned (OpenSpec.upto fnShortsSpec)

/-- 'laws.FnPackets', WHERE WHAT IT READS IS OF BULK AT MOST 1048576: true; the input reads as it did. -/
def fnPacketsUptoRow : OpenClaim := { program := "ytkmjemdcmonllaa", sum := "cde38d97fb211c0e56a6c0e5cdba0d8a55713ae9699c96dbfb5f3a319374e83f", func := "loop.example/g00656/laws.FnPackets", spec := "fnPackets", unfollowed := true, recurses := true, apart := false, narrowed := true }
def FnPacketsUptoSaid : Prop := fnPacketsUptoRow.holds Try.pinned (OpenSpec.upto fnPacketsSpec)

/-- 'laws.FnAnswers', WHERE WHAT IT READS IS OF BULK AT MOST 1048576: true; the input reads as it did. -/
def fnAnswersUptoRow : OpenClaim := { program := "ytkmjemdcmonllaa", sum := "cde38d97fb211c0e56a6c0e5cdba0d8a55713ae9699c96dbfb5f3a319374e83f", func := "loop.example/g00656/laws.FnAnswers", spec := "fnAnswers", apart := false, narrowed := true }
def FnAnswersUptoSaid : Prop := fnAnswersUptoRow.holds Try.pinned (OpenSpec.upto fnAnswersSpec)

/-- 'laws.FnShortMore', WHERE WHAT IT READS IS OF BULK AT MOST 1048576: true; the input reads as it did. -/
def fnShortMoreUptoRow : OpenClaim := { program := "ytkmjemdcmonllaa", sum := "cde38d97fb211c0e56a6c0e5cdba0d8a55713ae9699c96dbfb5f3a319374e83f", func := "loop.example/g00656/laws.FnShortMore", spec := "fnShortMore", unfollowed := true, recurses := true, apart := false, narrowed := true }
def FnShortMoreUptoSaid : Prop := fnShortMoreUptoRow.holds Try.pinned (OpenSpec.upto fnShortMoreSpec)

/-- 'laws.FnExactSecondsOf', WHERE WHAT IT READS IS OF BULK AT MOST 1048576: true; the input reads as it did. -/
def fnExactSecondsOfUptoRow : OpenClaim := { program := "ytkmjemdcmonllaa", sum := "cde38d97fb211c0e56a6c0e5cdba0d8a55713ae9699c96dbfb5f3a319374e83f", func := "loop.example/g00656/laws.FnExactSecondsOf", spec := "fnExactSecondsOf", apart := false, narrowed := true }
def FnExactSecondsOfUptoSaid : Prop := fnExactSecondsOfUptoRow.holds Try.pinned (OpenSpec.upto fnExactSecondsOfSpec)

/-- 'laws.FnExactStampBytes', WHERE WHAT IT READS IS OF BULK AT MOST 1048576: true; the input reads as it did. -/
def fnExactStampBytesUptoRow : OpenClaim := { program := "ytkmjemdcmonllaa", sum := "cde38d97fb211c0e56a6c0e5cdba0d8a55713ae9699c96dbfb5f3a319374e83f", func := "loop.example/g00656/laws.FnExactStampBytes", spec := "fnExactStampBytes", unfollowed := true, recurses := true, apart := false, narrowed := true }
def FnExactStampBytesUptoSaid : Prop := fnExactStampBytesUptoRow.holds Try.pinned (OpenSpec.upto fnExactStampBytesSpec)

/-- 'laws.FnExactReadStamp', WHERE WHAT IT READS IS OF BULK AT MOST 1048576: true; the input reads as it did. -/
def fnExactReadStampUptoRow : OpenClaim := { program := "ytkmjemdcmonllaa", sum := "cde38d97fb211c0e56a6c0e5cdba0d8a55713ae9699c96dbfb5f3a319374e83f", func := "loop.example/g00656/laws.FnExactReadStamp", spec := "fnExactReadStamp", unfollowed := true, recurses := true, apart := false, narrowed := true }
def FnExactReadStampUptoSaid : Prop := fnExactReadStampUptoRow.holds Try.pinned (OpenSpec.upto fnExactReadStampSpec)

/-- 'laws.FnExactShortBytes', WHERE WHAT IT READS IS OF BULK AT MOST 1048576: true; the input reads as it did. -/
def fnExactShortBytesUptoRow : OpenClaim := { program := "ytkmjemdcmonllaa", sum := "cde38d97fb211c0e56a6c0e5cdba0d8a55713ae9699c96dbfb5f3a319374e83f", func := "loop.example/g00656/laws.FnExactShortBytes", spec := "fnExactShortBytes", unfollowed := true, recurses := true, apart := false, narrowed := true }
def FnExactShortBytesUptoSaid : Prop := fnExactShortBytesUptoRow.holds Try.pinned (OpenSpec.upto fnExactShortBytesSpec)

/-- 'laws.FnExactReadShort', WHERE WHAT IT READS IS OF BULK AT MOST 1048576: true; the input reads as it did. -/
def fnExactReadShortUptoRow : OpenClaim := { program := "ytkmjemdcmonllaa", sum := "cde38d97fb211c0e56a6c0e5cdba0d8a55713ae9699c96dbfb5f3a319374e83f", func := "loop.example/g00656/laws.FnExactReadShort", spec := "fnExactReadShort", apart := false, narrowed := true }
def FnExactReadShortUptoSaid : Prop := fnExactReadShortUptoRow.holds Try.pinned (OpenSpec.upto fnExactReadShortSpec)

/-- 'laws.FnExactPacketOk', WHERE WHAT IT READS IS OF BULK AT MOST 1048576: true; the input reads as it did. -/
def fnExactPacketOkUptoRow : OpenClaim := { program := "ytkmjemdcmonllaa", sum := "cde38d97fb211c0e56a6c0e5cdba0d8a55713ae9699c96dbfb5f3a319374e83f", func := "loop.example/g00656/laws.FnExactPacketOk", spec := "fnExactPacketOk", apart := false, narrowed := true }
def FnExactPacketOkUptoSaid : Prop := fnExactPacketOkUptoRow.holds Try.pinned (OpenSpec.upto fnExactPacketOkSpec)

/-- 'laws.FnExactPacketBytes', WHERE WHAT IT READS IS OF BULK AT MOST 1048576: true; the input reads as it did. -/
def fnExactPacketBytesUptoRow : OpenClaim := { program := "ytkmjemdcmonllaa", sum := "cde38d97fb211c0e56a6c0e5cdba0d8a55713ae9699c96dbfb5f3a319374e83f", func := "loop.example/g00656/laws.FnExactPacketBytes", spec := "fnExactPacketBytes", unfollowed := true, recurses := true, apart := false, narrowed := true }
def FnExactPacketBytesUptoSaid : Prop := fnExactPacketBytesUptoRow.holds Try.pinned (OpenSpec.upto fnExactPacketBytesSpec)

/-- 'laws.FnExactReadPacket', WHERE WHAT IT READS IS OF BULK AT MOST 1048576: true; the input reads as it did. -/
def fnExactReadPacketUptoRow : OpenClaim := { program := "ytkmjemdcmonllaa", sum := "cde38d97fb211c0e56a6c0e5cdba0d8a55713ae9699c96dbfb5f3a319374e83f", func := "loop.example/g00656/laws.FnExactReadPacket", spec := "fnExactReadPacket", unfollowed := true, recurses := true, apart := false, narrowed := true }
def FnExactReadPacketUptoSaid : Prop := fnExactReadPacketUptoRow.holds Try.pinned (OpenSpec.upto fnExactReadPacketSpec)

/-- 'laws.FnExactAsked', WHERE WHAT IT READS IS OF BULK AT MOST 1048576: true; the input reads as it did. -/
def fnExactAskedUptoRow : OpenClaim := { program := "ytkmjemdcmonllaa", sum := "cde38d97fb211c0e56a6c0e5cdba0d8a55713ae9699c96dbfb5f3a319374e83f", func := "loop.example/g00656/laws.FnExactAsked", spec := "fnExactAsked", apart := false, narrowed := true }
def FnExactAskedUptoSaid : Prop := fnExactAskedUptoRow.holds Try.pinned (OpenSpec.upto fnExactAskedSpec)

/-- 'laws.FnExactAnswered', WHERE WHAT IT READS IS OF BULK AT MOST 1048576: true; the input reads as it did. -/
def fnExactAnsweredUptoRow : OpenClaim := { program := "ytkmjemdcmonllaa", sum := "cde38d97fb211c0e56a6c0e5cdba0d8a55713ae9699c96dbfb5f3a319374e83f", func := "loop.example/g00656/laws.FnExactAnswered", spec := "fnExactAnswered", apart := false, narrowed := true }
def FnExactAnsweredUptoSaid : Prop := fnExactAnsweredUptoRow.holds Try.pinned (OpenSpec.upto fnExactAnsweredSpec)

/-- 'laws.FnExactFits', WHERE WHAT IT READS IS OF BULK AT MOST 1048576: true; the input reads as it did. -/
def fnExactFitsUptoRow : OpenClaim := { program := "ytkmjemdcmonllaa", sum := "cde38d97fb211c0e56a6c0e5cdba0d8a55713ae9699c96dbfb5f3a319374e83f", func := "loop.example/g00656/laws.FnExactFits", spec := "fnExactFits", apart := false, narrowed := true }
def FnExactFitsUptoSaid : Prop := fnExactFitsUptoRow.holds Try.pinned (OpenSpec.upto fnExactFitsSpec)

end Rows
end Go.Proofs.Ytkmjemdcmonllaa
