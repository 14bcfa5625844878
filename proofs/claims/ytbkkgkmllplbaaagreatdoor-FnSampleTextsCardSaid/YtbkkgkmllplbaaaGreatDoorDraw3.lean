/- What is drawn for chapter 3: some sample, four times, a sample and a time; nothing that lay has turned. -/
import Derived.Test.YtbkkgkmllplbaaaGreatDoorSampleDraw
namespace Go.Proofs.YtbkkgkmllplbaaaGreatDoor
open Go.ChangeShapes Go.WideShapes Go.ChangeAt Go.RowKit
set_option linter.unusedVariables false
set_option linter.unusedSimpArgs false

/-- Some sample; nothing that lay has turned. -/
def AnySm (w : World) : Ending → World → Prop := fun e w' => ∃ s : Sm, e = .returned (.agg #[.int .i64 s.off, .int .i64 s.delay, .int .i64 s.disp, .int .i64 s.at_]) ∧ Below w.heap.size w w'

theorem rd_block {w w' : World} {a k : Nat} {o : Obj} (hg : w.grownBy w' (some a)) (h : w.heap[k]? = some o) (hne : k ≠ a) : w'.heap[k]? = some o :=
  (hg.block k (Array.getElem?_eq_some_iff.1 h).1 (fun e => by simp only [Option.some.injEq] at e; omega)).trans h

set_option maxHeartbeats 2000000 in
theorem drawSampleOk_c (x : Option Addr) (n cap : Nat) (w : World) (hc : Code w.heap.size w (.slice x n cap) n) (hn : n ≤ 1048576) : Calls Tryz.prog 16 #[.slice x n cap] w (AnySm w) := by
  have hc0 := hc.next (w' := w.alloc (.cells #[.int .i64 0, .int .i64 0, .int .i64 0, .int .i64 0] 23)) (by go_grown)
  go_enter Tryz.func16, Tryz.ntmps16
  go_wp2_with fail
  refine (open_c x n cap _).mono ?_
  rintro e w1 ⟨rfl, rfl⟩
  have hr1 := rd_open hc0 hn
  simp only [World.size_alloc] at hr1
  have hZ1 := blk_alloc (blk_new w (.cells #[.int .i64 0, .int .i64 0, .int .i64 0, .int .i64 0] 23)) (.cells #[.slice x n cap, .int .i64 0] 59)
  have g1 : Below w.heap.size w ((w.alloc (.cells #[.int .i64 0, .int .i64 0, .int .i64 0, .int .i64 0] 23)).alloc (.cells #[.slice x n cap, .int .i64 0] 59)) := by go_grown
  go_wp2_with fail
  refine (below_c _ 1073741824 1073741823 (by omega) (by omega) (by omega) _ hr1).mono ?_
  rintro e w2 ⟨t, t0, t1, rfl, hr2, hg2⟩
  have hZ2 := rd_block hg2 hZ1 (by omega)
  have g2 := grown_below g1 hg2 (by omega)
  go_wp2_with fail
  refine (sample_c _ _ _ hr2).mono ?_
  rintro e w3 ⟨s, rfl, rfl, hr3, hg3⟩
  have hZ3 := rd_block hg3 hZ2 (by omega)
  have g3 := grown_below g2 hg3 (by omega)
  go_wp2_with fail
  have hr3' := hr3.kept (World.grownBy_alloc w3 (.cells #[.int .i64 s.off, .int .i64 s.delay, .int .i64 s.disp, .int .i64 s.at_] 23) none) (by simp)
  have hP3 := blk_new w3 (.cells #[.int .i64 s.off, .int .i64 s.delay, .int .i64 s.disp, .int .i64 s.at_] 23)
  have hZ3' := blk_alloc hZ3 (.cells #[.int .i64 s.off, .int .i64 s.delay, .int .i64 s.disp, .int .i64 s.at_] 23)
  have s3 := g3.size
  have l3 : w.heap.size + 1 < w3.heap.size := by
    obtain ⟨_, _, _, hb, _⟩ := hr3
    exact (Array.getElem?_eq_some_iff.1 hb).1
  refine (once_c _ 6 (by omega) (by omega) _ hr3').mono ?_
  rintro e w4 ⟨b, rfl, hr4, hg4⟩
  have hZ4 := rd_block hg4 hZ3' (by omega)
  have hP4 := rd_block hg4 hP3 (by omega)
  have g4 := grown_below (g3.alloc (by omega) (.cells #[.int .i64 s.off, .int .i64 s.delay, .int .i64 s.disp, .int .i64 s.at_] 23)) hg4 (by omega)
  cases b with
  | false =>
    obtain ⟨Z0, Z1, Z2, Z3⟩ := sample_cells (q := ⟨0, 0, 0, 0⟩) hZ4
    obtain ⟨Y0, Y1, Y2, Y3⟩ := sample_thaw (q := ⟨0, 0, 0, 0⟩) hZ4
    obtain ⟨C0, C1, C2, C3⟩ := sample_cells hP4
    go_wp2_with fail
    obtain ⟨q0, q1, q2, q3⟩ := sample_cells (sample_put (q := ⟨0, 0, 0, 0⟩) hZ4 s)
    have G : Below w.heap.size w ((((w4.setCell ⟨w.heap.size, 0, none⟩ (.int .i64 s.off)).setCell ⟨w.heap.size, 1, none⟩ (.int .i64 s.delay)).setCell ⟨w.heap.size, 2, none⟩ (.int .i64 s.disp)).setCell ⟨w.heap.size, 3, none⟩ (.int .i64 s.at_)) := by
      repeat (refine below_put ?_ (by omega) _ _)
      exact g4
    try simp only [Exit.inBlock, Exit.then]
    refine bodyPost_ret (by simp [results, Tryz.results16, go_sem, q0, q1, q2, q3]; try rfl) rfl ?_
    exact ⟨s, rfl, G⟩
  | true =>
    go_wp2_with fail
    refine (off_c _ 0 16000000 (by omega) (by omega) (by omega) _ hr4).mono ?_
    rintro e w5 ⟨u, u0, u1, rfl, hr5, hg5⟩
    have hZ5 := rd_block hg5 hZ4 (by omega)
    have hP5 := rd_block hg5 hP4 (by omega)
    have g5 := grown_below g4 hg5 (by omega)
    have hZ6 : (w5.setCell ⟨w3.heap.size, 2, none⟩ (.int .i64 u)).heap[w.heap.size]? = some (.cells #[.int .i64 0, .int .i64 0, .int .i64 0, .int .i64 0] 23) := by
      have : w3.heap.size ≠ w.heap.size := by omega
      simp [World.setCell, Array.getElem?_modify, this, hZ5]
    have hP6 : (w5.setCell ⟨w3.heap.size, 2, none⟩ (.int .i64 u)).heap[w3.heap.size]? = some (.cells #[.int .i64 s.off, .int .i64 s.delay, .int .i64 u, .int .i64 s.at_] 23) := by
      simp [World.setCell, Array.getElem?_modify, hP5]
    obtain ⟨Z0, Z1, Z2, Z3⟩ := sample_cells (q := ⟨0, 0, 0, 0⟩) hZ6
    obtain ⟨Y0, Y1, Y2, Y3⟩ := sample_thaw (q := ⟨0, 0, 0, 0⟩) hZ6
    obtain ⟨C0, C1, C2, C3⟩ := sample_cells (q := ⟨s.off, s.delay, u, s.at_⟩) hP6
    have B0 := (sample_cells hP5).2.2.1
    have D0 := (sample_thaw hP5).2.2.1
    dsimp only at C0 C1 C2 C3
    go_wp2_with fail
    obtain ⟨q0, q1, q2, q3⟩ := sample_cells (sample_put (q := ⟨0, 0, 0, 0⟩) hZ6 ⟨s.off, s.delay, u, s.at_⟩)
    dsimp only at q0 q1 q2 q3
    have G : Below w.heap.size w (((((w5.setCell ⟨w3.heap.size, 2, none⟩ (.int .i64 u)).setCell ⟨w.heap.size, 0, none⟩ (.int .i64 s.off)).setCell ⟨w.heap.size, 1, none⟩ (.int .i64 s.delay)).setCell ⟨w.heap.size, 2, none⟩ (.int .i64 u)).setCell ⟨w.heap.size, 3, none⟩ (.int .i64 s.at_)) := by
      repeat (refine below_put ?_ (by omega) _ _)
      exact g5
    try simp only [Exit.inBlock, Exit.then]
    refine bodyPost_ret (by simp [results, Tryz.results16, go_sem, q0, q1, q2, q3]; try rfl) rfl ?_
    exact ⟨⟨s.off, s.delay, u, s.at_⟩, rfl, G⟩

end Go.Proofs.YtbkkgkmllplbaaaGreatDoor
