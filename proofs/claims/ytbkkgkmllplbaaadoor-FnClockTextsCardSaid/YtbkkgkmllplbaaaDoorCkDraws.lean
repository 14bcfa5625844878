/- What the laws on clocks draw; nothing that lay has turned. -/
import Derived.Test.YtbkkgkmllplbaaaDoorCkDraw
namespace Go.Proofs.YtbkkgkmllplbaaaDoor
open Go.ChangeShapes Go.WideShapes Go.ChangeAt Go.RowKit
set_option linter.unusedVariables false
set_option linter.unusedSimpArgs false

theorem rd_drewn {w : World} {a : Nat} (h : Rd w a) : Rd w.drew a := h.kept (row := none) ⟨rfl, rfl, rfl, Nat.le_refl _, fun _ _ _ => rfl⟩ (by simp)
theorem below_fin {w W : World} {k : Nat} (g : Below w.heap.size w W) (hk : w.heap.size ≤ k) (v : Ck) : Below w.heap.size w (((((W.setCell ⟨k, 0, none⟩ (.int .i64 v.st)).setCell ⟨k, 1, none⟩ (.int .i64 v.off)).setCell ⟨k, 2, none⟩ (.int .i64 v.fr)).setCell ⟨k, 3, none⟩ (.int .i64 v.poll)).setCell ⟨k, 4, none⟩ (.int .i64 v.calm)) := by
  repeat (refine below_set ?_ (by omega) _ _)
  exact g

theorem drawClockOk_c (x : Option Addr) (n cap : Nat) (w : World) (hc : Code w.heap.size w (.slice x n cap) n) (hn : n ≤ 1048576) : Calls Tryd.prog 28 #[.slice x n cap] w
    (fun e w' => ∃ c : Ck, e = .returned (.agg #[.int .i64 c.st, .int .i64 c.off, .int .i64 c.fr, .int .i64 c.poll, .int .i64 c.calm]) ∧ Below w.heap.size w w') := by
  have hc0 := hc.next (w' := w.alloc (.cells #[.int .i64 Ck.zero.st, .int .i64 Ck.zero.off, .int .i64 Ck.zero.fr, .int .i64 Ck.zero.poll, .int .i64 Ck.zero.calm] 25)) (by go_grown)
  dsimp only [Ck.zero] at hc0
  go_enter Tryd.func28, Tryd.ntmps28
  go_wp2_with fail
  refine (open_c x n cap _).mono ?_
  rintro e w1 ⟨rfl, rfl⟩
  have hr1 := rd_open hc0 hn
  simp only [World.size_alloc] at hr1
  have hZ1 := blk_alloc (blk_new w (.cells #[.int .i64 Ck.zero.st, .int .i64 Ck.zero.off, .int .i64 Ck.zero.fr, .int .i64 Ck.zero.poll, .int .i64 Ck.zero.calm] 25)) (.cells #[.slice x n cap, .int .i64 0] 71)
  dsimp only [Ck.zero] at hZ1
  have g1 : Below w.heap.size w ((w.alloc (.cells #[.int .i64 0, .int .i64 0, .int .i64 0, .int .i64 0, .int .i64 0] 25)).alloc (.cells #[.slice x n cap, .int .i64 0] 71)) := by go_grown
  go_wp2_with fail
  refine (clock_c _ _ hr1).mono ?_
  rintro e w2 ⟨c, rfl, hr2, hg2⟩
  have hZ2 := rd_blk hg2 hZ1 (by omega)
  have g2 := grown_below g1 hg2 (by omega)
  clear hr1 hZ1 g1 hr2 hg2 hc hc0
  have Z := ck_cells (q := ⟨0, 0, 0, 0, 0⟩) hZ2
  have V := ck_thaw (q := ⟨0, 0, 0, 0, 0⟩) hZ2
  have F := ck_cells (ck_put (q := ⟨0, 0, 0, 0, 0⟩) hZ2 c)
  have G := below_fin g2 (Nat.le_refl _) c
  dsimp only at Z F
  clear hZ2 g2
  go_wp2_with fail
  refine bodyPost_ret (by simp [results, Tryd.results28, go_sem, F]; try rfl) rfl ?_
  exact ⟨c, rfl, G⟩


end Go.Proofs.YtbkkgkmllplbaaaDoor
