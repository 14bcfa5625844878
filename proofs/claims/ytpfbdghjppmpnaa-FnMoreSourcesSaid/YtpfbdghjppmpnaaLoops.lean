/- Does somebody go round for ever: of the program and of the reference. -/
import Derived.Test.YtpfbdghjppmpnaaLoopsMath
import Derived.Test.YtpfbdghjppmpnaaNdOkI
import Derived.Test.YtpfbdghjppmpnaaNdOkS
namespace Go.Proofs.Ytpfbdghjppmpnaa
open Go.ChangeShapes Go.WideShapes Go.ChangeAt Go.RowKit Go.Sort
set_option linter.unusedVariables false
set_option linter.unusedSimpArgs false

/-- Whom the node at this place follows, in memory. -/
theorem Nds.ref_ {w : World} {x : Option Addr} {l : List Nd} (h : Nds w.heap.size w x l) {a : Int} (h0 : 0 ≤ a) (h1 : a < l.length) : ∃ (j : Nat) (b off : Nat), a = (j : Int) ∧ j < l.length ∧ x = some ⟨b, off, none⟩ ∧ w.cell? ⟨b, off + j * 4 + 2, none⟩ = some (.int .i64 (refAt l a)) := by
  obtain ⟨v, hv⟩ := getN (l := l) (k := a.toNat) (by omega)
  obtain ⟨b, off, px, pc, rfl, _, c0, c1, c2, c3, _⟩ := h.at_ hv
  exact ⟨a.toNat, b, off, by omega, by omega, rfl, by rw [refAt_of hv]; exact c2⟩
end Go.Proofs.Ytpfbdghjppmpnaa
