/- Lists of samples in memory: what the exact laws do to them: copied, held against each other. -/
import Derived.Test.YthgamidodkkpbaaDoorSmRow
import Derived.Test.YthgamidodkkpbaaDoorFilS
import Derived.Deep.RegionHeld3
namespace Go.Proofs.YthgamidodkkpbaaDoor
open Go.ChangeShapes Go.WideShapes Go.ChangeAt Go.RowKit Go.Sort
set_option linter.unusedVariables false
set_option linter.unusedSimpArgs false

def Sm.ofRow : List Int → Sm
  | [a, b, c, d] => ⟨a, b, c, d⟩
  | _ => ⟨0, 0, 0, 0⟩
def SmTab (m : Nat) (w : World) (g : Nat) (l : List Sm) : Prop := TabAt Sm.row 4 m 26 w g l
theorem SmTab.sms {m g : Nat} {w : World} {l : List Sm} (h : SmTab m w g l) : Sms w.heap.size w (some ⟨g, 0, none⟩) l := TabAt.rows h
theorem SmTab.next {m g : Nat} {w w' : World} {l : List Sm} (h : SmTab m w g l) (hb : Below w.heap.size w w') : SmTab m w' g l := TabAt.next h hb
theorem SmTab.room {m g : Nat} {w : World} {l : List Sm} (h : SmTab m w g l) {k : Nat} (hk : k < m) : ((∃ u, w.cell? ⟨g, k * 4, none⟩ = some u) ∧ (∃ u, w.cell? ⟨g, k * 4 + 1, none⟩ = some u) ∧ (∃ u, w.cell? ⟨g, k * 4 + 2, none⟩ = some u) ∧ (∃ u, w.cell? ⟨g, k * 4 + 3, none⟩ = some u)) ∧ w.frozen? ⟨g, k * 4, none⟩ = false ∧ w.frozen? ⟨g, k * 4 + 1, none⟩ = false ∧ w.frozen? ⟨g, k * 4 + 2, none⟩ = false ∧ w.frozen? ⟨g, k * 4 + 3, none⟩ = false :=
  ⟨⟨(TabAt.room h (by omega)).1, (TabAt.room h (by omega)).1, (TabAt.room h (by omega)).1, (TabAt.room h (by omega)).1⟩, (TabAt.room h (by omega)).2, (TabAt.room h (by omega)).2, (TabAt.room h (by omega)).2, (TabAt.room h (by omega)).2⟩
theorem SmTab.put {m g : Nat} {w : World} {l : List Sm} (h : SmTab m w g l) (hk : l.length < m) (v : Sm) :
    SmTab m ((((w.setCell ⟨g, l.length * 4, none⟩ (.int .i64 v.off)).setCell ⟨g, l.length * 4 + 1, none⟩ (.int .i64 v.delay)).setCell ⟨g, l.length * 4 + 2, none⟩ (.int .i64 v.disp)).setCell ⟨g, l.length * 4 + 3, none⟩ (.int .i64 v.at_)) g (l ++ [v]) := by
  obtain ⟨cur, h1, h2, h3, h4⟩ := h
  refine ⟨_, heap_set (heap_set (heap_set (heap_set h1 _ _) _ _) _ _) _ _, by simp [h2], by simp; omega, fun i u j z hi hj => ?_⟩
  simp only [Array.getElem?_setIfInBounds, Array.size_setIfInBounds]
  rcases Nat.lt_or_ge i l.length with hl | hl
  · rw [List.getElem?_append_left hl] at hi
    have hj2 : j < 4 := (List.getElem?_eq_some_iff.1 hj).1
    rw [if_neg (by omega), if_neg (by omega), if_neg (by omega), if_neg (by omega)]
    exact h4 i u j z hi hj
  · have e : i = l.length := by
      have := (List.getElem?_eq_some_iff.1 hi).1
      simp at this
      omega
    subst e
    simp at hi
    subst hi
    match j, hj with
    | 0, hj =>
      simp [Sm.row] at hj
      subst hj
      rw [if_neg (by omega), if_neg (by omega), if_neg (by omega), if_pos (by omega), if_pos (by omega)]
    | 1, hj =>
      simp [Sm.row] at hj
      subst hj
      rw [if_neg (by omega), if_neg (by omega), if_pos (by omega), if_pos (by omega)]
    | 2, hj =>
      simp [Sm.row] at hj
      subst hj
      rw [if_neg (by omega), if_pos (by omega), if_pos (by omega)]
    | 3, hj =>
      simp [Sm.row] at hj
      subst hj
      rw [if_pos (by omega), if_pos (by omega)]
    | j + 4, hj => simp [Sm.row] at hj

/-- A copy of these: a slice of the call's own. -/
def FreshSms (n : Nat) (W : World) (l : List Sm) : Ending → World → Prop := fun e w' => ∃ g, e = .returned (.slice (some ⟨g, 0, none⟩) n n) ∧ SmTab n w' g l ∧ W.heap.size ≤ g ∧ Below W.heap.size W w'

end Go.Proofs.YthgamidodkkpbaaDoor
