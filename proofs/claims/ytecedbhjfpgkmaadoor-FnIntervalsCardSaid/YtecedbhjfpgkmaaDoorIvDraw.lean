/- What is drawn for one interval: some sample, some interval; nothing that lay has turned. -/
import Derived.Test.YtecedbhjfpgkmaaDoorDraw3
import Derived.Test.YtecedbhjfpgkmaaDoorIvOf
namespace Go.Proofs.YtecedbhjfpgkmaaDoor
open Go.ChangeShapes Go.WideShapes Go.ChangeAt Go.RowKit
set_option linter.unusedVariables false
set_option linter.unusedSimpArgs false

/-- Some interval; nothing that lay has turned. -/
def AnyIv (w : World) : Ending → World → Prop := fun e w' => ∃ i : Iv, e = .returned (.agg #[.int .i64 i.lo, .int .i64 i.hi]) ∧ Below w.heap.size w w'

theorem drawIntervalOf_c (x : Option Addr) (n cap : Nat) (w : World) (hc : Code w.heap.size w (.slice x n cap) n) (hn : n ≤ 1048576) : Calls Tryd.prog 10 #[.slice x n cap] w (AnySm w) := by
  have Z := blk_new w (.cells #[.int .i64 0, .int .i64 0, .int .i64 0, .int .i64 0] 28)
  have g0 : Below w.heap.size w (w.alloc (.cells #[.int .i64 0, .int .i64 0, .int .i64 0, .int .i64 0] 28)) := by go_grown
  have hc0 := hc.next g0
  go_enter Tryd.func10, Tryd.ntmps10
  go_wp2_with fail
  refine (drawSampleOk_c x n cap _ hc0 hn).mono ?_
  rintro e w1 ⟨s, rfl, hb1⟩
  have Z1 := blk_next hb1 Z
  have g1 := grow_next g0 hb1
  obtain ⟨Z0, Z1', Z2, Z3⟩ := sample_cells (q := ⟨0, 0, 0, 0⟩) Z1
  obtain ⟨Y0, Y1, Y2, Y3⟩ := sample_thaw (q := ⟨0, 0, 0, 0⟩) Z1
  obtain ⟨q0, q1, q2, q3⟩ := sample_cells (sample_put (q := ⟨0, 0, 0, 0⟩) Z1 s)
  have G : Below w.heap.size w ((((w1.setCell ⟨w.heap.size, 0, none⟩ (.int .i64 s.off)).setCell ⟨w.heap.size, 1, none⟩ (.int .i64 s.delay)).setCell ⟨w.heap.size, 2, none⟩ (.int .i64 s.disp)).setCell ⟨w.heap.size, 3, none⟩ (.int .i64 s.at_)) := by
    repeat (refine below_put ?_ (by omega) _ _)
    exact g1
  dsimp only at Z0 Z1' Z2 Z3
  go_wp2_with fail
  try simp only [Exit.inBlock, Exit.then]
  refine bodyPost_ret (by simp [results, Tryd.results10, go_sem, q0, q1, q2, q3]; try rfl) rfl ?_
  exact ⟨s, rfl, G⟩

set_option maxHeartbeats 1000000 in
theorem drawIntervalOk_c (x : Option Addr) (n cap : Nat) (w : World) (hc : Code w.heap.size w (.slice x n cap) n) (hn : n ≤ 1048576) : Calls Tryd.prog 11 #[.slice x n cap] w (AnyIv w) := by
  have hc0 := hc.next (w' := w.alloc (.cells #[.int .i64 0, .int .i64 0] 25)) (by go_grown)
  go_enter Tryd.func11, Tryd.ntmps11
  go_wp2_with fail
  refine (open_c x n cap _).mono ?_
  rintro e w1 ⟨rfl, rfl⟩
  have hr1 := rd_open hc0 hn
  simp only [World.size_alloc] at hr1
  have hZ1 := blk_alloc (blk_new w (.cells #[.int .i64 0, .int .i64 0] 25)) (.cells #[.slice x n cap, .int .i64 0] 52)
  have g1 : Below w.heap.size w ((w.alloc (.cells #[.int .i64 0, .int .i64 0] 25)).alloc (.cells #[.slice x n cap, .int .i64 0] 52)) := by go_grown
  go_wp2_with fail
  refine (off_c _ (-4000000000000) 4000000000000 (by omega) (by omega) (by omega) _ hr1).mono ?_
  rintro e w2 ⟨a, a0, a1, rfl, hr2, hg2⟩
  have hZ2 := rd_block hg2 hZ1 (by omega)
  have g2 := grown_below g1 hg2 (by omega)
  go_wp2_with fail
  refine (below_c _ 9 8 (by omega) (by omega) (by omega) _ hr2).mono ?_
  rintro e w3 ⟨t, t0, t1, rfl, hr3, hg3⟩
  have hZ3 := rd_block hg3 hZ2 (by omega)
  have g3 := grown_below g2 hg3 (by omega)
  obtain ⟨z0, z1⟩ := iv_cells (q := ⟨0, 0⟩) hZ3
  obtain ⟨y0, y1⟩ := iv_thaw (q := ⟨0, 0⟩) hZ3
  dsimp only at z0 z1
  go_wp2_with fail
  have K := fun b => iv_cells (iv_put (q := ⟨0, 0⟩) hZ3 ⟨a, b⟩)
  have G : ∀ b, Below w.heap.size w ((w3.setCell ⟨w.heap.size, 0, none⟩ (.int .i64 a)).setCell ⟨w.heap.size, 1, none⟩ (.int .i64 b)) := fun b => by
    repeat (refine below_put ?_ (by omega) _ _)
    exact g3
  refine bodyPost_ret (by simp [results, Tryd.results11, go_sem, K]; try rfl) rfl ?_
  exact ⟨⟨_, _⟩, rfl, G _⟩
end Go.Proofs.YtecedbhjfpgkmaaDoor
