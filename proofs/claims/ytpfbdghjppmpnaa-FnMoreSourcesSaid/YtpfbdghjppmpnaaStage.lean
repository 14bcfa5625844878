/- A stage: the program's own copy of a list of nodes. -/
import Derived.Test.YtpfbdghjppmpnaaNdRow
import Derived.Test.YtpfbdghjppmpnaaNdMark
import Derived.Deep.Cut
namespace Go.Proofs.Ytpfbdghjppmpnaa
open Go.ChangeShapes Go.WideShapes Go.ChangeAt Go.RowKit
set_option linter.unusedVariables false
set_option linter.unusedSimpArgs false

theorem grownSet (w : World) (b k : Nat) (v : Value) : w.grownBy (w.setCell ⟨b, k, none⟩ v) (some b) :=
  ⟨rfl, rfl, rfl, by rw [World.size_setCell]; exact Nat.le_refl _, fun j hj hne => by
    have : b ≠ j := fun e => hne (by rw [e])
    simp [World.setCell, Array.getElem?_modify, this]⟩
theorem grownAlloc (w : World) (o : Obj) : w.grownBy (w.alloc o) none := grown_of_below (below_new w o)
theorem cells_np_new (w : World) (e : Np) (t : TypeId) : ∀ j z, e.cells[j]? = some z → (w.alloc (.cells #[.bool e.v.src, .slice e.px e.v.peers.length e.pc, .int .i64 e.v.ref, .int .i64 e.v.str] t)).cell? ((⟨w.heap.size, 0, none⟩ : Addr).add j) = some z := by
  intro j z hz
  match j, hz with
  | 0, hz => simp [Np.cells] at hz; subst hz; simp [Addr.add]
  | 1, hz => simp [Np.cells] at hz; subst hz; simp [Addr.add]
  | 2, hz => simp [Np.cells] at hz; subst hz; simp [Addr.add]
  | 3, hz => simp [Np.cells] at hz; subst hz; simp [Addr.add]
  | j + 4, hz => simp [Np.cells] at hz
theorem own_lowerN {w : World} {base base' : Nat} {e : TypeId} {size : Nat} {v : Value} {n : Nat} {xs : List Value} (h : w.ownsRow base e size v n xs) (hb : base' ≤ base) : w.ownsRow base' e size v n xs := by
  refine ⟨h.1, ?_⟩
  rcases h.2 with h | ⟨g, c, cur, h, h1, r⟩
  · exact .inl h
  · exact .inr ⟨g, c, cur, h, by omega, r⟩
end Go.Proofs.Ytpfbdghjppmpnaa
