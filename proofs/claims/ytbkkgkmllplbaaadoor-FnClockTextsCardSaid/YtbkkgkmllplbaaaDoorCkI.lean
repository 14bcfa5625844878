/- The program's Adjusted and Slewed by a clock's numbers. -/
import Derived.Test.YtbkkgkmllplbaaaDoorCkOk
import Derived.Deep.RegionWith
import Derived.Deep.RegionHeld3
import Derived.Lib.Hide
import Derived.IntWalk
import Derived.Deep.Cut
namespace Go.Proofs.YtbkkgkmllplbaaaDoor
open Go.ChangeShapes Go.WideShapes Go.ChangeAt Go.RowKit
set_option linter.unusedVariables false
set_option linter.unusedSimpArgs false

theorem ret_ck {x0 x1 x2 x3 x4 : Int} {b : Ck} (h : (⟨x0, x1, x2, x3, x4⟩ : Ck) = b) : Ending.returned (.agg #[.int .i64 x0, .int .i64 x1, .int .i64 x2, .int .i64 x3, .int .i64 x4]) = .returned (.agg #[.int .i64 b.st, .int .i64 b.off, .int .i64 b.fr, .int .i64 b.poll, .int .i64 b.calm]) := by
  rw [← h]

def calmedV (c : Ck) : Ck := if c.calm < 3 then ⟨c.st, c.off, c.fr, c.poll, c.calm + 1⟩ else ⟨c.st, c.off, c.fr, min (c.poll + 1) 10, 0⟩

theorem run_store_func (P : Program) (w : World) (a : Addr) (m : Mode) (f : Fn) (xs ys : Array Value) : (store a (.func f xs ys) m).run P w = stored P w a (.func f xs ys) m := run_store P w a _ m rfl
attribute [local go_sem] run_store_func

theorem unB_dec {n b : Int} {r : Bool} (h0 : 0 ≤ b) (h1 : b ≤ 4611686018427387904) (h : unB n b = r) (w : World) :
    Calls Tryd.prog 34 #[.int .i64 n, .int .i64 b] w fun e w' => e = .returned (.bool r) ∧ w = w' := h ▸ isUnder_c n b h0 h1 w

/-- Poll and Calm, the program's way. -/
theorem polled_of (c : Ck) (o : Int) : (unB o 10000 = false ∧ polled c o = ⟨c.st, c.off, c.fr, max (c.poll - 1) 4, 0⟩) ∨ (unB o 10000 = true ∧ unB o 1000 = true ∧ polled c o = calmedV c) ∨ (unB o 10000 = true ∧ unB o 1000 = false ∧ polled c o = c) := by
  unfold polled calmedV
  cases h : unB o 10000 with
  | false => exact .inl ⟨rfl, by simp⟩
  | true =>
    cases h2 : unB o 1000 with
    | true => exact .inr (.inl ⟨rfl, rfl, by simp⟩)
    | false => exact .inr (.inr ⟨rfl, rfl, by simp⟩)

end Go.Proofs.YtbkkgkmllplbaaaDoor
