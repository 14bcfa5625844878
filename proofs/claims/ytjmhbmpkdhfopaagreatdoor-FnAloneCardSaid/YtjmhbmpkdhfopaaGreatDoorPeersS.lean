/- Lists of peers copied and held against each other. -/
import Derived.Test.YtjmhbmpkdhfopaaGreatDoorPeersL
namespace Go.Proofs.YtjmhbmpkdhfopaaGreatDoor
open Go.ChangeShapes Go.WideShapes Go.ChangeAt Go.RowKit
set_option linter.unusedVariables false
set_option linter.unusedSimpArgs false

theorem getP {α : Type} {l : List α} {k : Nat} (h : k < l.length) : ∃ v, l[k]? = some v := ⟨l[k], List.getElem?_eq_getElem h⟩
theorem takeP {α : Type} {l : List α} {k : Nat} {v : α} (h : l[k]? = some v) : l.take (k + 1) = l.take k ++ [v] := by
  rw [List.take_add_one, h]; rfl

/-- A copy of these: a slice of the call's own. -/
def FreshPrs (n : Nat) (W : World) (l : List Pr) : Ending → World → Prop := fun e w' => ∃ g, e = .returned (.slice (some ⟨g, 0, none⟩) n n) ∧ PrTab n w' g l ∧ W.heap.size ≤ g ∧ Below W.heap.size W w'

theorem prs_two {W : World} {B : Nat} {b off b' off' k : Nat} {l l' : List Pr} {u v : Pr} (h : Prs B W (some ⟨b, off, none⟩) l) (h' : Prs B W (some ⟨b', off', none⟩) l') (hu : l[k]? = some u) (hv : l'[k]? = some v) :
    (W.cell? ⟨b, off + k * 6, none⟩ = some (.int .i64 u.id) ∧ W.cell? ⟨b, off + k * 6 + 1, none⟩ = some (.int .i64 u.str) ∧ W.cell? ⟨b, off + k * 6 + 2, none⟩ = some (.int .i64 u.s.off) ∧ W.cell? ⟨b, off + k * 6 + 3, none⟩ = some (.int .i64 u.s.delay) ∧ W.cell? ⟨b, off + k * 6 + 4, none⟩ = some (.int .i64 u.s.disp) ∧ W.cell? ⟨b, off + k * 6 + 5, none⟩ = some (.int .i64 u.s.at_)) ∧ W.cell? ⟨b', off' + k * 6, none⟩ = some (.int .i64 v.id) ∧ W.cell? ⟨b', off' + k * 6 + 1, none⟩ = some (.int .i64 v.str) ∧ W.cell? ⟨b', off' + k * 6 + 2, none⟩ = some (.int .i64 v.s.off) ∧ W.cell? ⟨b', off' + k * 6 + 3, none⟩ = some (.int .i64 v.s.delay) ∧ W.cell? ⟨b', off' + k * 6 + 4, none⟩ = some (.int .i64 v.s.disp) ∧ W.cell? ⟨b', off' + k * 6 + 5, none⟩ = some (.int .i64 v.s.at_) := by
  obtain ⟨c, o, e, _, c0⟩ := h.at_ hu
  obtain ⟨c', o', e', _, c0'⟩ := h'.at_ hv
  simp only [Option.some.injEq, Addr.mk.injEq] at e e'
  obtain ⟨rfl, rfl, _⟩ := e
  obtain ⟨rfl, rfl, _⟩ := e'
  exact ⟨c0, c0'⟩

end Go.Proofs.YtjmhbmpkdhfopaaGreatDoor
