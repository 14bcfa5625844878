/- What is drawn for Aged: a sample and a time; nothing that lay has turned. -/
import Derived.Test.YtbabkpcefpacpaaDoorDraw3
import Derived.Deep.RegionHeld3
namespace Go.Proofs.YtbabkpcefpacpaaDoor
open Go.ChangeShapes Go.WideShapes Go.ChangeAt Go.RowKit
set_option linter.unusedVariables false
set_option linter.unusedSimpArgs false

theorem below_drew1 {B : Nat} {a w : World} (h : Below B a w) : Below B a w.drew := h.trans ⟨rfl, rfl, rfl, Nat.le_refl _, fun _ _ => rfl⟩
theorem put_other {W : World} {b k : Nat} {o : Obj} (h : W.heap[k]? = some o) (hne : b ≠ k) (v0 v1 v2 v3 : Value) :
    ((((W.setCell ⟨b, 0, none⟩ v0).setCell ⟨b, 1, none⟩ v1).setCell ⟨b, 2, none⟩ v2).setCell ⟨b, 3, none⟩ v3).heap[k]? = some o := by
  simp [World.setCell, Array.getElem?_modify, hne, h]
theorem rd_drew1 {w : World} {a : Nat} (h : Rd w a) : Rd w.drew a := h.kept (row := none) ⟨rfl, rfl, rfl, Nat.le_refl _, fun _ _ _ => rfl⟩ (by simp)

set_option maxHeartbeats 8000000 in
theorem drawAged_c (x : Option Addr) (n cap : Nat) (w : World) (hc : Code w.heap.size w (.slice x n cap) n) (hn : n ≤ 1048576) : Calls Tryd.prog 28 #[.slice x n cap] w
    (fun e w' => ∃ (s : Sm) (t : Int), e = .returned (.tuple #[.agg #[.int .i64 s.off, .int .i64 s.delay, .int .i64 s.disp, .int .i64 s.at_], .int .i64 t]) ∧ Below w.heap.size w w') := by
  have hc0 := hc.next (w' := w.alloc (.cells #[.int .i64 0, .int .i64 0, .int .i64 0, .int .i64 0] 25)) (by go_grown)
  go_enter Tryd.func28, Tryd.ntmps28
  go_wp2_with fail
  refine (open_c x n cap _).mono ?_
  rintro e w1 ⟨rfl, rfl⟩
  have hr1 := rd_open hc0 hn
  simp only [World.size_alloc] at hr1
  have hZ1 := blk_alloc (blk_new w (.cells #[.int .i64 0, .int .i64 0, .int .i64 0, .int .i64 0] 25)) (.cells #[.slice x n cap, .int .i64 0] 74)
  have g1 : Below w.heap.size w ((w.alloc (.cells #[.int .i64 0, .int .i64 0, .int .i64 0, .int .i64 0] 25)).alloc (.cells #[.slice x n cap, .int .i64 0] 74)) := by go_grown
  go_wp2_with fail
  refine (below_c _ 1073741824 1073741823 (by omega) (by omega) (by omega) _ hr1).mono ?_
  rintro e w2 ⟨t, t0, t1, rfl, hr2, hg2⟩
  have hZ2 := rd_block hg2 hZ1 (by omega)
  have g2 := grown_below g1 hg2 (by omega)
  go_wp2_with fail
  refine (sample_c _ _ _ hr2).mono ?_
  rintro e w3 ⟨s, rfl, rfl, hr3, hg3⟩
  have hZ3 := rd_block hg3 hZ2 (by omega)
  have g3 := grown_below g2 hg3 (by omega)
  go_wp2_with fail
  have hr3' := hr3.kept (World.grownBy_alloc w3 (.cells #[.int .i64 s.off, .int .i64 s.delay, .int .i64 s.disp, .int .i64 s.at_] 25) none) (by simp)
  have hP3 := blk_new w3 (.cells #[.int .i64 s.off, .int .i64 s.delay, .int .i64 s.disp, .int .i64 s.at_] 25)
  have hZ3' := blk_alloc hZ3 (.cells #[.int .i64 s.off, .int .i64 s.delay, .int .i64 s.disp, .int .i64 s.at_] 25)
  have s3 := g3.size
  have l3 : w.heap.size + 1 < w3.heap.size := by
    obtain ⟨_, _, _, hb, _⟩ := hr3
    exact (Array.getElem?_eq_some_iff.1 hb).1
  refine (once_c _ 6 (by omega) (by omega) _ hr3').mono ?_
  rintro e w4 ⟨b, rfl, hr4, hg4⟩
  have hZ4 := rd_block hg4 hZ3' (by omega)
  have hP4 := rd_block hg4 hP3 (by omega)
  have g4 := grown_below (g3.alloc (by omega) (.cells #[.int .i64 s.off, .int .i64 s.delay, .int .i64 s.disp, .int .i64 s.at_] 25)) hg4 (by omega)
  obtain ⟨C0, C1, C2, C3⟩ := sample_cells hP4
  have hr4d := rd_drew1 hr4
  have hZ4d : w4.drew.heap[w.heap.size]? = some (.cells #[.int .i64 0, .int .i64 0, .int .i64 0, .int .i64 0] 25) := hZ4
  have hP4d : w4.drew.heap[w3.heap.size]? = some (.cells #[.int .i64 s.off, .int .i64 s.delay, .int .i64 s.disp, .int .i64 s.at_] 25) := hP4
  have g4d := below_drew1 g4
  have hne : w.heap.size ≠ w3.heap.size := by omega
  cases b with
  | true =>
    have HT := Lib.hid (time_c _ _ hr4d)
    clear hr1 hr2 hr3 hr3' hZ1 hZ2 hZ3 hZ3' hP3 hg2 hg3 hg4 g1 g2 g3 hc hc0
    go_wp2_with fail
    go_region_held3 (fun w' => w'.cell? ⟨w3.heap.size, 0, none⟩ = some (.int .i64 s.off) ∧ w'.cell? ⟨w3.heap.size, 1, none⟩ = some (.int .i64 s.delay) ∧ w'.cell? ⟨w3.heap.size, 2, none⟩ = some (.int .i64 s.disp) ∧ w'.cell? ⟨w3.heap.size, 3, none⟩ = some (.int .i64 s.at_)) (first | exact sample_cells (put_other hP5 (by omega) _ _ _ _) | exact sample_cells hP5 | exact sample_cells hP4d | exact sample_cells hP4)
      (first
        | (go_at_call 48; refine HT.out.mono ?_; rintro e w5 ⟨u, u0, u1, rfl, hr5, hg5⟩; have hZ5 := rd_block hg5 hZ4d (by omega); have hP5 := rd_block hg5 hP4d (by omega); obtain ⟨Z0, Z1, Z2, Z3⟩ := sample_cells (q := ⟨0, 0, 0, 0⟩) hZ5; obtain ⟨Y0, Y1, Y2, Y3⟩ := sample_thaw (q := ⟨0, 0, 0, 0⟩) hZ5))
    go_wp2_with fail
    obtain ⟨q0, q1, q2, q3⟩ := sample_cells (sample_put (q := ⟨0, 0, 0, 0⟩) hZ5 s)
    have G : Below w.heap.size w ((((w5.setCell ⟨w.heap.size, 0, none⟩ (.int .i64 s.off)).setCell ⟨w.heap.size, 1, none⟩ (.int .i64 s.delay)).setCell ⟨w.heap.size, 2, none⟩ (.int .i64 s.disp)).setCell ⟨w.heap.size, 3, none⟩ (.int .i64 s.at_)) := by
      repeat (refine below_put ?_ (by omega) _ _)
      exact grown_below g4d hg5 (by omega)
    try simp only [Exit.inBlock, Exit.then]
    refine bodyPost_ret (by simp [results, Tryd.results28, go_sem, q0, q1, q2, q3]; try rfl) rfl ?_
    exact ⟨s, u, rfl, G⟩
  | false =>
    have HB := Lib.hid (below_c _ 268435456 268435455 (by omega) (by omega) (by omega) _ hr4d)
    clear hr1 hr2 hr3 hr3' hZ1 hZ2 hZ3 hZ3' hP3 hg2 hg3 hg4 g1 g2 g3 hc hc0
    go_wp2_with fail
    go_region_held3 (fun w' => w'.cell? ⟨w3.heap.size, 0, none⟩ = some (.int .i64 s.off) ∧ w'.cell? ⟨w3.heap.size, 1, none⟩ = some (.int .i64 s.delay) ∧ w'.cell? ⟨w3.heap.size, 2, none⟩ = some (.int .i64 s.disp) ∧ w'.cell? ⟨w3.heap.size, 3, none⟩ = some (.int .i64 s.at_)) (first | exact sample_cells (put_other hP5 (by omega) _ _ _ _) | exact sample_cells hP5 | exact sample_cells hP4d | exact sample_cells hP4)
      (first
        | (go_at_call 46; refine HB.out.mono ?_; rintro e w5 ⟨u, u0, u1, rfl, hr5, hg5⟩; have hZ5 := rd_block hg5 hZ4d (by omega); have hP5 := rd_block hg5 hP4d (by omega); obtain ⟨Z0, Z1, Z2, Z3⟩ := sample_cells (q := ⟨0, 0, 0, 0⟩) hZ5; obtain ⟨Y0, Y1, Y2, Y3⟩ := sample_thaw (q := ⟨0, 0, 0, 0⟩) hZ5))
    all_goals
      go_wp2_with fail
      obtain ⟨q0, q1, q2, q3⟩ := sample_cells (sample_put (q := ⟨0, 0, 0, 0⟩) hZ5 s)
      have G : Below w.heap.size w ((((w5.setCell ⟨w.heap.size, 0, none⟩ (.int .i64 s.off)).setCell ⟨w.heap.size, 1, none⟩ (.int .i64 s.delay)).setCell ⟨w.heap.size, 2, none⟩ (.int .i64 s.disp)).setCell ⟨w.heap.size, 3, none⟩ (.int .i64 s.at_)) := by
        repeat (refine below_put ?_ (by omega) _ _)
        exact grown_below g4d hg5 (by omega)
      try simp only [Exit.inBlock, Exit.then]
      refine bodyPost_ret (by simp [results, Tryd.results28, go_sem, q0, q1, q2, q3]; try rfl) rfl ?_
      exact ⟨s, _, rfl, G⟩
end Go.Proofs.YtbabkpcefpacpaaDoor
