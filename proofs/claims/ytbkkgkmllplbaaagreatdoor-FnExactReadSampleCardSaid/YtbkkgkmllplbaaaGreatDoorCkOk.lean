/- The program's small words on clocks, and ClockOk: the program's way and the reference's. -/
import Derived.Test.YtbkkgkmllplbaaaGreatDoorCk
namespace Go.Proofs.YtbkkgkmllplbaaaGreatDoor
open Go.ChangeShapes Go.WideShapes Go.ChangeAt Go.RowKit
set_option linter.unusedVariables false
set_option linter.unusedSimpArgs false

theorem ret_num {a b : Int} (h : a = b) : Ending.returned (.int .i64 a) = Ending.returned (.int .i64 b) := by rw [h]

theorem list5 {α : Type} (l : List α) (h : l.length = 5) : ∃ a b c d e, l = [a, b, c, d, e] :=
  match l, h with
  | [a, b, c, d, e], _ => ⟨a, b, c, d, e, rfl⟩

theorem ck_cells {W : World} {b : Nat} {T : TypeId} {q : Ck} (h : W.heap[b]? = some (.cells #[.int .i64 q.st, .int .i64 q.off, .int .i64 q.fr, .int .i64 q.poll, .int .i64 q.calm] T)) : W.cell? ⟨b, 0, none⟩ = some (.int .i64 q.st) ∧ W.cell? ⟨b, 1, none⟩ = some (.int .i64 q.off) ∧ W.cell? ⟨b, 2, none⟩ = some (.int .i64 q.fr) ∧ W.cell? ⟨b, 3, none⟩ = some (.int .i64 q.poll) ∧ W.cell? ⟨b, 4, none⟩ = some (.int .i64 q.calm) := by
  simp [World.cell?, h]
theorem ck_thaw {W : World} {b : Nat} {T : TypeId} {q : Ck} (h : W.heap[b]? = some (.cells #[.int .i64 q.st, .int .i64 q.off, .int .i64 q.fr, .int .i64 q.poll, .int .i64 q.calm] T)) : W.frozen? ⟨b, 0, none⟩ = false ∧ W.frozen? ⟨b, 1, none⟩ = false ∧ W.frozen? ⟨b, 2, none⟩ = false ∧ W.frozen? ⟨b, 3, none⟩ = false ∧ W.frozen? ⟨b, 4, none⟩ = false := by
  refine ⟨?_, ?_, ?_, ?_, ?_⟩ <;> simp [World.frozen?, h]
theorem ck_put {W : World} {b : Nat} {T : TypeId} {q : Ck} (h : W.heap[b]? = some (.cells #[.int .i64 q.st, .int .i64 q.off, .int .i64 q.fr, .int .i64 q.poll, .int .i64 q.calm] T)) (r : Ck) :
    (((((W.setCell ⟨b, 0, none⟩ (.int .i64 r.st)).setCell ⟨b, 1, none⟩ (.int .i64 r.off)).setCell ⟨b, 2, none⟩ (.int .i64 r.fr)).setCell ⟨b, 3, none⟩ (.int .i64 r.poll)).setCell ⟨b, 4, none⟩ (.int .i64 r.calm)).heap[b]? = some (.cells #[.int .i64 r.st, .int .i64 r.off, .int .i64 r.fr, .int .i64 r.poll, .int .i64 r.calm] T) := by
  simp [World.setCell, Array.getElem?_modify, h]
theorem ck_other {W : World} {b k : Nat} {o : Obj} (h : W.heap[k]? = some o) (hne : b ≠ k) (r : Ck) : (((((W.setCell ⟨b, 0, none⟩ (.int .i64 r.st)).setCell ⟨b, 1, none⟩ (.int .i64 r.off)).setCell ⟨b, 2, none⟩ (.int .i64 r.fr)).setCell ⟨b, 3, none⟩ (.int .i64 r.poll)).setCell ⟨b, 4, none⟩ (.int .i64 r.calm)).heap[k]? = some o := by
  simp [World.setCell, Array.getElem?_modify, hne, h]
theorem below_set {w W : World} {b : Nat} (h : Below w.heap.size w W) (hb : w.heap.size ≤ b) (o : Nat) (v : Value) : Below w.heap.size w (W.setCell ⟨b, o, none⟩ v) := h.setCell hb v
end Go.Proofs.YtbkkgkmllplbaaaGreatDoor
