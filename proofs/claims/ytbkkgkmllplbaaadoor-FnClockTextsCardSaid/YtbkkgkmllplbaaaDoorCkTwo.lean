/- Two boxes of clocks, laid one behind the other: the argument's and the result's. -/
import Derived.Test.YtbkkgkmllplbaaaDoorCkOk
namespace Go.Proofs.YtbkkgkmllplbaaaDoor
open Go.ChangeShapes Go.WideShapes Go.ChangeAt Go.RowKit
set_option linter.unusedVariables false
set_option linter.unusedSimpArgs false

/-- In w1, grown out of w, there lie the argument's box and behind it the result's. -/
structure Two (w w1 : World) (c z : Ck) : Prop where
  one : w1.heap[w.heap.size]? = some (.cells #[.int .i64 c.st, .int .i64 c.off, .int .i64 c.fr, .int .i64 c.poll, .int .i64 c.calm] 25)
  two : w1.heap[w.heap.size + 1]? = some (.cells #[.int .i64 z.st, .int .i64 z.off, .int .i64 z.fr, .int .i64 z.poll, .int .i64 z.calm] 25)
  grown : Below w.heap.size w w1

theorem Two.new (w : World) (c z : Ck) : Two w ((w.alloc (.cells #[.int .i64 c.st, .int .i64 c.off, .int .i64 c.fr, .int .i64 c.poll, .int .i64 c.calm] 25)).alloc (.cells #[.int .i64 z.st, .int .i64 z.off, .int .i64 z.fr, .int .i64 z.poll, .int .i64 z.calm] 25)) c z :=
  ⟨blk_alloc (blk_new w _) _, by have := blk_new (w.alloc (.cells #[.int .i64 c.st, .int .i64 c.off, .int .i64 c.fr, .int .i64 c.poll, .int .i64 c.calm] 25)) (.cells #[.int .i64 z.st, .int .i64 z.off, .int .i64 z.fr, .int .i64 z.poll, .int .i64 z.calm] 25); simpa only [World.size_alloc] using this, by go_grown⟩
theorem Two.next {w w1 w2 : World} {c z : Ck} (h : Two w w1 c z) (hb : Below w1.heap.size w1 w2) : Two w w2 c z :=
  ⟨blk_next hb h.one, blk_next hb h.two, grow_next h.grown hb⟩
theorem Two.drew {w w1 : World} {c z : Ck} (h : Two w w1 c z) : Two w w1.drew c z := ⟨h.one, h.two, below_drewR h.grown⟩
theorem Two.alloc {w w1 : World} {c z : Ck} (h : Two w w1 c z) (o : Obj) : Two w (w1.alloc o) c z := ⟨blk_alloc h.one o, blk_alloc h.two o, h.grown.alloc (by have := h.grown.size; omega) o⟩
theorem Two.lt {w w1 : World} {c z : Ck} (h : Two w w1 c z) : w.heap.size + 1 < w1.heap.size ∧ w.heap.size < w1.heap.size := ⟨(Array.getElem?_eq_some_iff.1 h.two).1, (Array.getElem?_eq_some_iff.1 h.one).1⟩
theorem Two.put1 {w w1 : World} {c z : Ck} (h : Two w w1 c z) (v : Ck) (W : World) (hW : W = (((((w1.setCell ⟨w.heap.size, 0, none⟩ (.int .i64 v.st)).setCell ⟨w.heap.size, 1, none⟩ (.int .i64 v.off)).setCell ⟨w.heap.size, 2, none⟩ (.int .i64 v.fr)).setCell ⟨w.heap.size, 3, none⟩ (.int .i64 v.poll)).setCell ⟨w.heap.size, 4, none⟩ (.int .i64 v.calm))) : Two w W v z :=
  ⟨by rw [hW]; exact ck_put h.one v, by rw [hW]; exact ck_other h.two (by omega) v, by
    rw [hW]
    repeat (refine below_set ?_ (by omega) _ _)
    exact h.grown⟩
theorem Two.put2 {w w1 : World} {c z : Ck} (h : Two w w1 c z) (v : Ck) (W : World) (hW : W = (((((w1.setCell ⟨w.heap.size + 1, 0, none⟩ (.int .i64 v.st)).setCell ⟨w.heap.size + 1, 1, none⟩ (.int .i64 v.off)).setCell ⟨w.heap.size + 1, 2, none⟩ (.int .i64 v.fr)).setCell ⟨w.heap.size + 1, 3, none⟩ (.int .i64 v.poll)).setCell ⟨w.heap.size + 1, 4, none⟩ (.int .i64 v.calm))) : Two w W c v :=
  ⟨by rw [hW]; exact ck_other h.one (by omega) v, by rw [hW]; exact ck_put h.two v, by
    rw [hW]
    repeat (refine below_set ?_ (by omega) _ _)
    exact h.grown⟩
theorem Two.other {w w1 : World} {c z : Ck} (h : Two w w1 c z) {b : Nat} (hb : w.heap.size + 1 < b) (v : Ck) : Two w (((((w1.setCell ⟨b, 0, none⟩ (.int .i64 v.st)).setCell ⟨b, 1, none⟩ (.int .i64 v.off)).setCell ⟨b, 2, none⟩ (.int .i64 v.fr)).setCell ⟨b, 3, none⟩ (.int .i64 v.poll)).setCell ⟨b, 4, none⟩ (.int .i64 v.calm)) c z :=
  ⟨ck_other h.one (by omega) v, ck_other h.two (by omega) v, by
    repeat (refine below_set ?_ (by omega) _ _)
    exact h.grown⟩
theorem Two.set1 {w w1 : World} {c z : Ck} (h : Two w w1 c z) : (∀ n, Two w (w1.setCell ⟨w.heap.size, 0, none⟩ (.int .i64 n)) ⟨n, c.off, c.fr, c.poll, c.calm⟩ z) ∧ (∀ n, Two w (w1.setCell ⟨w.heap.size, 1, none⟩ (.int .i64 n)) ⟨c.st, n, c.fr, c.poll, c.calm⟩ z) ∧
    (∀ n, Two w (w1.setCell ⟨w.heap.size, 2, none⟩ (.int .i64 n)) ⟨c.st, c.off, n, c.poll, c.calm⟩ z) ∧ (∀ n, Two w (w1.setCell ⟨w.heap.size, 3, none⟩ (.int .i64 n)) ⟨c.st, c.off, c.fr, n, c.calm⟩ z) ∧ (∀ n, Two w (w1.setCell ⟨w.heap.size, 4, none⟩ (.int .i64 n)) ⟨c.st, c.off, c.fr, c.poll, n⟩ z) := by
  have h1 := h.one
  have h2 := h.two
  refine ⟨fun n => ⟨?_, ?_, below_set h.grown (by omega) _ _⟩, fun n => ⟨?_, ?_, below_set h.grown (by omega) _ _⟩, fun n => ⟨?_, ?_, below_set h.grown (by omega) _ _⟩, fun n => ⟨?_, ?_, below_set h.grown (by omega) _ _⟩, fun n => ⟨?_, ?_, below_set h.grown (by omega) _ _⟩⟩ <;>
    simp [World.setCell, Array.getElem?_modify, h1, h2]
theorem Two.cells {w w1 : World} {c z : Ck} (h : Two w w1 c z) : (w1.cell? ⟨w.heap.size, 0, none⟩ = some (.int .i64 c.st) ∧ w1.cell? ⟨w.heap.size, 1, none⟩ = some (.int .i64 c.off) ∧ w1.cell? ⟨w.heap.size, 2, none⟩ = some (.int .i64 c.fr) ∧ w1.cell? ⟨w.heap.size, 3, none⟩ = some (.int .i64 c.poll) ∧ w1.cell? ⟨w.heap.size, 4, none⟩ = some (.int .i64 c.calm)) ∧ (w1.frozen? ⟨w.heap.size, 0, none⟩ = false ∧ w1.frozen? ⟨w.heap.size, 1, none⟩ = false ∧ w1.frozen? ⟨w.heap.size, 2, none⟩ = false ∧ w1.frozen? ⟨w.heap.size, 3, none⟩ = false ∧ w1.frozen? ⟨w.heap.size, 4, none⟩ = false) ∧ (w1.cell? ⟨w.heap.size + 1, 0, none⟩ = some (.int .i64 z.st) ∧ w1.cell? ⟨w.heap.size + 1, 1, none⟩ = some (.int .i64 z.off) ∧ w1.cell? ⟨w.heap.size + 1, 2, none⟩ = some (.int .i64 z.fr) ∧ w1.cell? ⟨w.heap.size + 1, 3, none⟩ = some (.int .i64 z.poll) ∧ w1.cell? ⟨w.heap.size + 1, 4, none⟩ = some (.int .i64 z.calm)) ∧ (w1.frozen? ⟨w.heap.size + 1, 0, none⟩ = false ∧ w1.frozen? ⟨w.heap.size + 1, 1, none⟩ = false ∧ w1.frozen? ⟨w.heap.size + 1, 2, none⟩ = false ∧ w1.frozen? ⟨w.heap.size + 1, 3, none⟩ = false ∧ w1.frozen? ⟨w.heap.size + 1, 4, none⟩ = false) :=
  ⟨ck_cells h.one, ck_thaw h.one, ck_cells h.two, ck_thaw h.two⟩
/-- The result's box behind its last store. -/
theorem Two.fin {w w1 : World} {c z : Ck} (h : Two w w1 c z) (v : Ck) (W : World) (hW : W = (((((w1.setCell ⟨w.heap.size + 1, 0, none⟩ (.int .i64 v.st)).setCell ⟨w.heap.size + 1, 1, none⟩ (.int .i64 v.off)).setCell ⟨w.heap.size + 1, 2, none⟩ (.int .i64 v.fr)).setCell ⟨w.heap.size + 1, 3, none⟩ (.int .i64 v.poll)).setCell ⟨w.heap.size + 1, 4, none⟩ (.int .i64 v.calm))) : (W.cell? ⟨w.heap.size + 1, 0, none⟩ = some (.int .i64 v.st) ∧ W.cell? ⟨w.heap.size + 1, 1, none⟩ = some (.int .i64 v.off) ∧ W.cell? ⟨w.heap.size + 1, 2, none⟩ = some (.int .i64 v.fr) ∧ W.cell? ⟨w.heap.size + 1, 3, none⟩ = some (.int .i64 v.poll) ∧ W.cell? ⟨w.heap.size + 1, 4, none⟩ = some (.int .i64 v.calm)) ∧ Below w.heap.size w W :=
  ⟨ck_cells (h.put2 v W hW).two, (h.put2 v W hW).grown⟩
end Go.Proofs.YtbkkgkmllplbaaaDoor
