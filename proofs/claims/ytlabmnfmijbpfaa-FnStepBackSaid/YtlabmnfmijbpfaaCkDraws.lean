/- What the laws on clocks draw; nothing that lay has turned. -/
import Derived.Test.YtlabmnfmijbpfaaCkDraw
namespace Go.Proofs.Ytlabmnfmijbpfaa
open Go.ChangeShapes Go.WideShapes Go.ChangeAt Go.RowKit
set_option linter.unusedVariables false
set_option linter.unusedSimpArgs false

theorem rd_drewn {w : World} {a : Nat} (h : Rd w a) : Rd w.drew a := h.kept (row := none) ⟨rfl, rfl, rfl, Nat.le_refl _, fun _ _ _ => rfl⟩ (by simp)
theorem below_fin {w W : World} {k : Nat} (g : Below w.heap.size w W) (hk : w.heap.size ≤ k) (v : Ck) : Below w.heap.size w (((((W.setCell ⟨k, 0, none⟩ (.int .i64 v.st)).setCell ⟨k, 1, none⟩ (.int .i64 v.off)).setCell ⟨k, 2, none⟩ (.int .i64 v.fr)).setCell ⟨k, 3, none⟩ (.int .i64 v.poll)).setCell ⟨k, 4, none⟩ (.int .i64 v.calm)) := by
  repeat (refine below_set ?_ (by omega) _ _)
  exact g

theorem drawClockOk_c (x : Option Addr) (n cap : Nat) (w : World) (hc : Code w.heap.size w (.slice x n cap) n) (hn : n ≤ 1048576) : Calls Try.prog 16 #[.slice x n cap] w
    (fun e w' => ∃ c : Ck, e = .returned (.agg #[.int .i64 c.st, .int .i64 c.off, .int .i64 c.fr, .int .i64 c.poll, .int .i64 c.calm]) ∧ Below w.heap.size w w') := by
  have hc0 := hc.next (w' := w.alloc (.cells #[.int .i64 Ck.zero.st, .int .i64 Ck.zero.off, .int .i64 Ck.zero.fr, .int .i64 Ck.zero.poll, .int .i64 Ck.zero.calm] 25)) (by go_grown)
  dsimp only [Ck.zero] at hc0
  go_enter Try.func16, Try.ntmps16
  go_wp2_with fail
  refine (open_c x n cap _).mono ?_
  rintro e w1 ⟨rfl, rfl⟩
  have hr1 := rd_open hc0 hn
  simp only [World.size_alloc] at hr1
  have hZ1 := blk_alloc (blk_new w (.cells #[.int .i64 Ck.zero.st, .int .i64 Ck.zero.off, .int .i64 Ck.zero.fr, .int .i64 Ck.zero.poll, .int .i64 Ck.zero.calm] 25)) (.cells #[.slice x n cap, .int .i64 0] 58)
  dsimp only [Ck.zero] at hZ1
  have g1 : Below w.heap.size w ((w.alloc (.cells #[.int .i64 0, .int .i64 0, .int .i64 0, .int .i64 0, .int .i64 0] 25)).alloc (.cells #[.slice x n cap, .int .i64 0] 58)) := by go_grown
  go_wp2_with fail
  refine (clock_c _ _ hr1).mono ?_
  rintro e w2 ⟨c, rfl, hr2, hg2⟩
  have hZ2 := rd_blk hg2 hZ1 (by omega)
  have g2 := grown_below g1 hg2 (by omega)
  clear hr1 hZ1 g1 hr2 hg2 hc hc0
  have Z := ck_cells (q := ⟨0, 0, 0, 0, 0⟩) hZ2
  have V := ck_thaw (q := ⟨0, 0, 0, 0, 0⟩) hZ2
  have F := ck_cells (ck_put (q := ⟨0, 0, 0, 0, 0⟩) hZ2 c)
  have G := below_fin g2 (Nat.le_refl _) c
  dsimp only at Z F
  clear hZ2 g2
  go_wp2_with fail
  refine bodyPost_ret (by simp [results, Try.results16, go_sem, F]; try rfl) rfl ?_
  exact ⟨c, rfl, G⟩

set_option maxHeartbeats 2000000 in
theorem drawSlewed_c (x : Option Addr) (n cap : Nat) (w : World) (hc : Code w.heap.size w (.slice x n cap) n) (hn : n ≤ 1048576) : Calls Try.prog 20 #[.slice x n cap] w
    (fun e w' => ∃ (c : Ck) (g : Int), 0 ≤ g ∧ g ≤ 399 ∧ e = .returned (.tuple #[.agg #[.int .i64 c.st, .int .i64 c.off, .int .i64 c.fr, .int .i64 c.poll, .int .i64 c.calm], .int .i64 g]) ∧ Below w.heap.size w w') := by
  have hc0 := hc.next (w' := w.alloc (.cells #[.int .i64 Ck.zero.st, .int .i64 Ck.zero.off, .int .i64 Ck.zero.fr, .int .i64 Ck.zero.poll, .int .i64 Ck.zero.calm] 25)) (by go_grown)
  dsimp only [Ck.zero] at hc0
  go_enter Try.func20, Try.ntmps20
  go_wp2_with fail
  refine (open_c x n cap _).mono ?_
  rintro e w1 ⟨rfl, rfl⟩
  have hr1 := rd_open hc0 hn
  simp only [World.size_alloc] at hr1
  have hZ1 := blk_alloc (blk_new w (.cells #[.int .i64 Ck.zero.st, .int .i64 Ck.zero.off, .int .i64 Ck.zero.fr, .int .i64 Ck.zero.poll, .int .i64 Ck.zero.calm] 25)) (.cells #[.slice x n cap, .int .i64 0] 58)
  dsimp only [Ck.zero] at hZ1
  have g1 : Below w.heap.size w ((w.alloc (.cells #[.int .i64 0, .int .i64 0, .int .i64 0, .int .i64 0, .int .i64 0] 25)).alloc (.cells #[.slice x n cap, .int .i64 0] 58)) := by go_grown
  go_wp2_with fail
  refine (clock_c _ _ hr1).mono ?_
  rintro e w2 ⟨c, rfl, hr2, hg2⟩
  have hZ2 := rd_blk hg2 hZ1 (by omega)
  have g2 := grown_below g1 hg2 (by omega)
  have l2 : w.heap.size + 1 < w2.heap.size := by
    obtain ⟨_, _, _, hb, _⟩ := hr2
    exact (Array.getElem?_eq_some_iff.1 hb).1
  have hr3 := rd_drewn (hr2.kept (World.grownBy_alloc w2 (.cells #[.int .i64 c.st, .int .i64 c.off, .int .i64 c.fr, .int .i64 c.poll, .int .i64 c.calm] 25) none) (by simp))
  have hZ3 : (w2.alloc (.cells #[.int .i64 c.st, .int .i64 c.off, .int .i64 c.fr, .int .i64 c.poll, .int .i64 c.calm] 25)).drew.heap[w.heap.size]? = _ := blk_alloc hZ2 _
  have hP3 : (w2.alloc (.cells #[.int .i64 c.st, .int .i64 c.off, .int .i64 c.fr, .int .i64 c.poll, .int .i64 c.calm] 25)).drew.heap[w2.heap.size]? = _ := blk_new w2 _
  have g3 := below_drewR (g2.alloc (by omega) (.cells #[.int .i64 c.st, .int .i64 c.off, .int .i64 c.fr, .int .i64 c.poll, .int .i64 c.calm] 25))
  clear hr1 hZ1 g1 hr2 hg2 hc hc0 hZ2 g2
  go_wp2_with fail
  go_region_with (go_at_call 30; refine (below_c _ 400 399 (by omega) (by omega) (by omega) _ hr3).mono ?_; rintro e w5 ⟨u, u0, u1, rfl, hr5, hg5⟩; have hZ5 := rd_blk hg5 hZ3 (by omega); have hP5 := rd_blk hg5 hP3 (by omega); have Z := ck_cells (q := ⟨0, 0, 0, 0, 0⟩) hZ5; have V := ck_thaw (q := ⟨0, 0, 0, 0, 0⟩) hZ5; have P := ck_cells hP5; dsimp only at Z)
  all_goals
    have F := ck_cells (ck_put (q := ⟨0, 0, 0, 0, 0⟩) hZ5 c)
    have G := below_fin (grown_below g3 hg5 (by omega)) (Nat.le_refl _) c
    clear hZ3 hP3 hr3 g3 hg5 hr5
    go_wp2_with fail
    refine bodyPost_ret (by simp [results, Try.results20, go_sem, F]; try rfl) rfl ?_
    exact ⟨c, u, u0, u1, rfl, G⟩

set_option maxHeartbeats 4000000 in
theorem drawAdjusted_c (x : Option Addr) (n cap : Nat) (w : World) (hc : Code w.heap.size w (.slice x n cap) n) (hn : n ≤ 1048576) : Calls Try.prog 13 #[.slice x n cap] w
    (fun e w' => ∃ (c : Ck) (o g : Int), e = .returned (.tuple #[.agg #[.int .i64 c.st, .int .i64 c.off, .int .i64 c.fr, .int .i64 c.poll, .int .i64 c.calm], .int .i64 o, .int .i64 g]) ∧ Below w.heap.size w w') := by
  have hc0 := hc.next (w' := w.alloc (.cells #[.int .i64 Ck.zero.st, .int .i64 Ck.zero.off, .int .i64 Ck.zero.fr, .int .i64 Ck.zero.poll, .int .i64 Ck.zero.calm] 25)) (by go_grown)
  dsimp only [Ck.zero] at hc0
  go_enter Try.func13, Try.ntmps13
  go_wp2_with fail
  refine (open_c x n cap _).mono ?_
  rintro e w1 ⟨rfl, rfl⟩
  have hr1 := rd_open hc0 hn
  simp only [World.size_alloc] at hr1
  have hZ1 := blk_alloc (blk_new w (.cells #[.int .i64 Ck.zero.st, .int .i64 Ck.zero.off, .int .i64 Ck.zero.fr, .int .i64 Ck.zero.poll, .int .i64 Ck.zero.calm] 25)) (.cells #[.slice x n cap, .int .i64 0] 58)
  dsimp only [Ck.zero] at hZ1
  have g1 : Below w.heap.size w ((w.alloc (.cells #[.int .i64 0, .int .i64 0, .int .i64 0, .int .i64 0, .int .i64 0] 25)).alloc (.cells #[.slice x n cap, .int .i64 0] 58)) := by go_grown
  go_wp2_with fail
  refine (clock_c _ _ hr1).mono ?_
  rintro e w2 ⟨c, rfl, hr2, hg2⟩
  have hZ2 := rd_blk hg2 hZ1 (by omega)
  have g2 := grown_below g1 hg2 (by omega)
  have l2 : w.heap.size + 1 < w2.heap.size := by
    obtain ⟨_, _, _, hb, _⟩ := hr2
    exact (Array.getElem?_eq_some_iff.1 hb).1
  have hr3 := hr2.kept (World.grownBy_alloc w2 (.cells #[.int .i64 c.st, .int .i64 c.off, .int .i64 c.fr, .int .i64 c.poll, .int .i64 c.calm] 25) none) (by simp)
  have hZ3 := blk_alloc hZ2 (.cells #[.int .i64 c.st, .int .i64 c.off, .int .i64 c.fr, .int .i64 c.poll, .int .i64 c.calm] 25)
  have hP3 := blk_new w2 (.cells #[.int .i64 c.st, .int .i64 c.off, .int .i64 c.fr, .int .i64 c.poll, .int .i64 c.calm] 25)
  have g3 := g2.alloc (by omega) (.cells #[.int .i64 c.st, .int .i64 c.off, .int .i64 c.fr, .int .i64 c.poll, .int .i64 c.calm] 25)
  clear hr1 hZ1 g1 hr2 hg2 hc hc0 hZ2 g2
  go_wp2_with fail
  refine (offset_c _ _ hr3).mono ?_
  rintro e w3 ⟨o, o0, o1, rfl, hr4, hg4⟩
  have hZ4 := rd_blk hg4 hZ3 (by omega)
  have hP4 := rd_blk hg4 hP3 (by omega)
  have g4 := grown_below g3 hg4 (by omega)
  clear hr3 hZ3 hP3 g3 hg4
  go_wp2_with fail
  refine (once_c _ 12 (by omega) (by omega) _ hr4).mono ?_
  rintro e w4 ⟨b, rfl, hr5, hg5⟩
  have hZ5' := rd_blk hg5 hZ4 (by omega)
  have hP5' := rd_blk hg5 hP4 (by omega)
  have hZ5 : w4.drew.heap[w.heap.size]? = _ := hZ5'
  have hP5 : w4.drew.heap[w2.heap.size]? = _ := hP5'
  have g5 := below_drewR (grown_below g4 hg5 (by omega))
  have hr6 := rd_drewn hr5
  have X5 := ck_cells (W := w4) hP5
  clear hZ5' hP5' hZ4 hP4 g4 hg5 hr4 hr5
  cases b with
  | true =>
    go_wp2_with fail
    go_region_with (go_at_call 29; refine (off_c _ 1 100000 (by omega) (by omega) (by omega) _ hr6).mono ?_; rintro e w5 ⟨u, u0, u1, rfl, hr7, hg7⟩; have hZ7 := rd_blk hg7 hZ5 (by omega); have hP7 := rd_blk hg7 hP5 (by omega); have Z := ck_cells (q := ⟨0, 0, 0, 0, 0⟩) hZ7; have V := ck_thaw (q := ⟨0, 0, 0, 0, 0⟩) hZ7; have P := ck_cells hP7; dsimp only at Z)
    all_goals
      have F := ck_cells (ck_put (q := ⟨0, 0, 0, 0, 0⟩) hZ7 c)
      have G := below_fin (grown_below g5 hg7 (by omega)) (Nat.le_refl _) c
      clear hZ5 hP5 hr6 g5 hg7 hr7
      go_wp2_with fail
      refine bodyPost_ret (by simp [results, Try.results13, go_sem, F]; try rfl) rfl ?_
      exact ⟨c, o, u, rfl, G⟩
  | false =>
    go_wp2_with fail
    go_region_with (go_at_call 30; refine (below_c _ 1000 999 (by omega) (by omega) (by omega) _ hr6).mono ?_; rintro e w5 ⟨u, u0, u1, rfl, hr7, hg7⟩; have hZ7 := rd_blk hg7 hZ5 (by omega); have hP7 := rd_blk hg7 hP5 (by omega); have Z := ck_cells (q := ⟨0, 0, 0, 0, 0⟩) hZ7; have V := ck_thaw (q := ⟨0, 0, 0, 0, 0⟩) hZ7; have P := ck_cells hP7; dsimp only at Z)
    all_goals
      have F := ck_cells (ck_put (q := ⟨0, 0, 0, 0, 0⟩) hZ7 c)
      have G := below_fin (grown_below g5 hg7 (by omega)) (Nat.le_refl _) c
      clear hZ5 hP5 hr6 g5 hg7 hr7
      go_wp2_with fail
      refine bodyPost_ret (by simp [results, Try.results13, go_sem, F]; try rfl) rfl ?_
      exact ⟨c, o, _, rfl, G⟩
end Go.Proofs.Ytlabmnfmijbpfaa
