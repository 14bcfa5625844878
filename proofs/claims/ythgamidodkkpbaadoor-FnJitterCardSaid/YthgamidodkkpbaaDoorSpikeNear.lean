/- What is no spike stays none when it is nearer: at all drawn filters and samples. -/
import Derived.Test.YthgamidodkkpbaaDoorFilDraws
import Derived.Test.YthgamidodkkpbaaDoorFilOthS
import Derived.Test.YthgamidodkkpbaaDoorTie
import Derived.Test.YthgamidodkkpbaaDoorCards
namespace Go.Proofs.YthgamidodkkpbaaDoor
open Go.ChangeShapes Go.WideShapes Go.ChangeAt Go.RowKit
set_option linter.unusedVariables false
set_option linter.unusedSimpArgs false

theorem drawPopcorn_c (x : Option Addr) (n cap : Nat) (w : World) (hc : Code w.heap.size w (.slice x n cap) n) (hn : n ≤ 1048576) : Calls Tryd.prog 20 #[.slice x n cap] w (AnySmsS w) := by
  have b0 : Below w.heap.size w (w.alloc (.cells #[.int .i64 0, .int .i64 0, .int .i64 0, .int .i64 0] 26)) := below_new _ _
  have R0 := blk_new w (.cells #[.int .i64 0, .int .i64 0, .int .i64 0, .int .i64 0] 26)
  have HD := Lib.hid (drawFilterAdd_c x n cap _ (hc.next b0) hn)
  go_enter Tryd.func20, Tryd.ntmps20
  go_wp2_with fail
  refine HD.out.mono ?_
  rintro e w1 ⟨g, off, c, m, l, s, rfl, hm, hm8, hmc, hcm, hgw, hS, hb1⟩
  rw [World.size_alloc] at hgw
  have HM := Lib.hid hm
  clear hm
  have b1 := grow_next b0 hb1
  have R1 := blk_next hb1 R0
  obtain ⟨r0, r1, r2, r3⟩ := sample_cells (q := ⟨0, 0, 0, 0⟩) R1
  obtain ⟨f0, f1, f2, f3⟩ := sample_thaw (q := ⟨0, 0, 0, 0⟩) R1
  obtain ⟨x0, x1, x2, x3⟩ := sample_cells (sample_put (q := ⟨0, 0, 0, 0⟩) R1 s)
  have G := below_put (below_put (below_put (below_put b1 (b := w.heap.size) (Nat.le_refl _) 0 (.int .i64 s.off)) (b := w.heap.size) (Nat.le_refl _) 1 (.int .i64 s.delay)) (b := w.heap.size) (Nat.le_refl _) 2 (.int .i64 s.disp)) (b := w.heap.size) (Nat.le_refl _) 3 (.int .i64 s.at_)
  have S5 := hS.keepG (grown_set (grown_set (grown_set (grown_set (World.grownBy.refl w1 (some w.heap.size)) 0 (.int .i64 s.off)) 1 (.int .i64 s.delay)) 2 (.int .i64 s.disp)) 3 (.int .i64 s.at_)) (fun e => by simp only [Option.some.injEq] at e; omega)
  go_wp2_with fail
  try simp only [Exit.inBlock, Exit.then]
  refine bodyPost_ret (by simp [results, Tryd.results20, go_sem, x0, x1, x2, x3, r0, r1, r2, r3]; try rfl) rfl ?_
  exact ⟨g, off, c, m, l, s, rfl, HM.out, hm8, hmc, hcm, by omega, S5, G⟩
end Go.Proofs.YthgamidodkkpbaaDoor
