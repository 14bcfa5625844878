/- A slice of nodes that came in. -/
import Derived.Test.YtnnhcgnagmdheaaNdTo
namespace Go.Proofs.Ytnnhcgnagmdheaa
open Go.ChangeShapes Go.WideShapes Go.ChangeAt Go.RowKit
set_option linter.unusedVariables false
set_option linter.unusedSimpArgs false

set_option maxRecDepth 100000 in
theorem open_nds {H : Type} {enc : TypeId × Value → H} {w : World} {held : Bool} {r : Reach} {b0 : Nat} {v : Value} {d : DataW H} {q : List MemPlace}
    (hv : Value.okWide Try.prog w r b0 22 v) (h : DataW.Trod enc Try.prog w 0 (fun _ => true) held 22 v d q) :
    ∃ (x : Option Addr) (len cap : Nat) (l : List Nd), v = .slice x len cap ∧ (Hid (len = l.length) ∧ len ≤ cap ∧ cap ≤ maxLen ∧ Nds w.heap.size w x l) := by
  obtain ⟨x, len, cap, l, rfl, hl, hr, hc, hm⟩ := open_nodes (enc := enc) Try.underlying22 Try.underlying68 (by kernel_rfl) ⟨⟨rfl, rfl, rfl, rfl⟩, by kernel_rfl, by kernel_rfl, by kernel_rfl, by kernel_rfl⟩ Try.underlying4 Try.underlying29 Try.underlying2 (by kernel_rfl) Try.underlying2 Try.underlying2 hv h
  exact ⟨x, len, cap, l, rfl, Lib.hid hl, hc, hm, hr⟩
end Go.Proofs.Ytnnhcgnagmdheaa
