/- Which peer is ranked ahead: the reference's way. -/
import Derived.Test.YtfcmcelhndppnaaDoorRankA
namespace Go.Proofs.YtfcmcelhndppnaaDoor
open Go.ChangeShapes Go.WideShapes Go.ChangeAt Go.RowKit Go.Sort
set_option linter.unusedVariables false
set_option linter.unusedSimpArgs false

set_option maxHeartbeats 2000000 in
theorem l6Ahead_c (a b : Pr) (ha : a.s.ok = true) (hb : b.s.ok = true) (w : World) :
    Calls Tryd.prog 41 #[.agg #[.int .i64 a.id, .int .i64 a.str, .int .i64 a.s.off, .int .i64 a.s.delay, .int .i64 a.s.disp, .int .i64 a.s.at_], .agg #[.int .i64 b.id, .int .i64 b.str, .int .i64 b.s.off, .int .i64 b.s.delay, .int .i64 b.s.disp, .int .i64 b.s.at_]] w fun e w' => e = .returned (.bool (aheadV a b)) ∧ Below w.heap.size w w' := by
  have HRa := Lib.hid (fun W => l3Reach_c a.s ha W)
  have HRb := Lib.hid (fun W => l3Reach_c b.s hb W)
  have g0 : Below w.heap.size w ((w.alloc (.cells #[.int .i64 a.id, .int .i64 a.str, .int .i64 a.s.off, .int .i64 a.s.delay, .int .i64 a.s.disp, .int .i64 a.s.at_] 40)).alloc (.cells #[.int .i64 b.id, .int .i64 b.str, .int .i64 b.s.off, .int .i64 b.s.delay, .int .i64 b.s.disp, .int .i64 b.s.at_] 40)) := by go_grown
  have A0 := blk_alloc (blk_new w (.cells #[.int .i64 a.id, .int .i64 a.str, .int .i64 a.s.off, .int .i64 a.s.delay, .int .i64 a.s.disp, .int .i64 a.s.at_] 40)) (.cells #[.int .i64 b.id, .int .i64 b.str, .int .i64 b.s.off, .int .i64 b.s.delay, .int .i64 b.s.disp, .int .i64 b.s.at_] 40)
  have B0 := blk_new (w.alloc (.cells #[.int .i64 a.id, .int .i64 a.str, .int .i64 a.s.off, .int .i64 a.s.delay, .int .i64 a.s.disp, .int .i64 a.s.at_] 40)) (.cells #[.int .i64 b.id, .int .i64 b.str, .int .i64 b.s.off, .int .i64 b.s.delay, .int .i64 b.s.disp, .int .i64 b.s.at_] 40)
  simp only [World.size_alloc] at B0
  obtain ⟨ra, hra⟩ : ∃ r, (a.s.delay + 1) / 2 + a.s.disp = r := ⟨_, rfl⟩
  obtain ⟨rb, hrb⟩ : ∃ r, (b.s.delay + 1) / 2 + b.s.disp = r := ⟨_, rfl⟩
  have HRa := Lib.hid (fun W => show Calls Tryd.prog 57 #[.agg #[.int .i64 a.s.off, .int .i64 a.s.delay, .int .i64 a.s.disp, .int .i64 a.s.at_]] W fun e w' => e = .returned (.int .i64 ra) ∧ Below W.heap.size W w' from hra ▸ HRa.out W)
  have HRb := Lib.hid (fun W => show Calls Tryd.prog 57 #[.agg #[.int .i64 b.s.off, .int .i64 b.s.delay, .int .i64 b.s.disp, .int .i64 b.s.at_]] W fun e w' => e = .returned (.int .i64 rb) ∧ Below W.heap.size W w' from hrb ▸ HRb.out W)
  clear ha hb
  by_cases hs : a.str = b.str
  · have hsb : (a.str == b.str) = true := by simp [hs]
    by_cases hr : ra = rb
    · have e : aheadV a b = decide (a.id < b.id) := by unfold aheadV; rw [if_pos hs, hra, hrb, if_pos hr]
      rw [e]
      have hrb2 : (ra == rb) = true := by simp [hr]
      clear e hra hrb hs hr
      go_enter Tryd.func41, Tryd.ntmps41
      go_wp2_with fail
      generalize hW0 : ((w.alloc (.cells #[.int .i64 a.id, .int .i64 a.str, .int .i64 a.s.off, .int .i64 a.s.delay, .int .i64 a.s.disp, .int .i64 a.s.at_] 40)).alloc (.cells #[.int .i64 b.id, .int .i64 b.str, .int .i64 b.s.off, .int .i64 b.s.delay, .int .i64 b.s.disp, .int .i64 b.s.at_] 40)) = W0 at *
      clear hW0
      obtain ⟨cx0, cx1, cx2, cx3, cx4, cx5⟩ := peer_cells A0
      obtain ⟨cy0, cy1, cy2, cy3, cy4, cy5⟩ := peer_cells B0
      have kx0 := cell_regrown cx0
      have kx1 := cell_regrown cx1
      have kx2 := cell_regrown cx2
      have kx3 := cell_regrown cx3
      have kx4 := cell_regrown cx4
      have kx5 := cell_regrown cx5
      have ky0 := cell_regrown cy0
      have ky1 := cell_regrown cy1
      have ky2 := cell_regrown cy2
      have ky3 := cell_regrown cy3
      have ky4 := cell_regrown cy4
      have ky5 := cell_regrown cy5
      clear cx0 cx1 cx2 cx3 cx4 cx5 cy0 cy1 cy2 cy3 cy4 cy5
      have KA := Lib.hid (fun d os => Calls.regrown_of (HRa.out (grow (redrawn W0 d) os)))
      have KB := Lib.hid (fun d os => Calls.regrown_of (HRb.out (grow (redrawn W0 d) os)))
      refine wp_region_quiet_below (by kernel_rfl) (by kernel_rfl) ?_
      repeat ((with_reducible refine wpQuiet_step (fun K hK => ?_)); go_simp; first | ((with_reducible refine hK _ ?_); clear hK K) | (rw [if_neg (by intro h; exact nomatch h)]; (with_reducible refine hK _ ?_); clear hK K) | (apply Exists.intro; (with_reducible refine ⟨fun _ => ?_, hK _ ?_⟩); (first | with_reducible exact KA.out _ _ | with_reducible exact KB.out _ _); clear hK K))
      with_reducible refine wpQuiet_nil ?_
      intro _ hw'
      obtain ⟨⟨dq1, osq1⟩, hw''⟩ := hw'
      subst hw''
      have g1 := below_regrown W0 dq1 osq1
      generalize hW1 : grow (redrawn W0 dq1) osq1 = W1 at *
      clear hW1
      clear kx0 kx1 kx2 kx3 kx4 kx5 ky0 ky1 ky2 ky3 ky4 ky5 KA KB
      obtain ⟨cx0, cx1, cx2, cx3, cx4, cx5⟩ := peer_cells (blk_next g1 A0)
      obtain ⟨cy0, cy1, cy2, cy3, cy4, cy5⟩ := peer_cells (blk_next g1 B0)
      go_wp2_with fail
      go_returns
      exact ⟨rfl, grow_next g0 g1⟩
    · have e : aheadV a b = decide (ra < rb) := by unfold aheadV; rw [if_pos hs, hra, hrb, if_neg hr]
      rw [e]
      have hrb2 : (ra == rb) = false := by simp [hr]
      clear e hra hrb hs hr
      go_enter Tryd.func41, Tryd.ntmps41
      go_wp2_with fail
      generalize hW0 : ((w.alloc (.cells #[.int .i64 a.id, .int .i64 a.str, .int .i64 a.s.off, .int .i64 a.s.delay, .int .i64 a.s.disp, .int .i64 a.s.at_] 40)).alloc (.cells #[.int .i64 b.id, .int .i64 b.str, .int .i64 b.s.off, .int .i64 b.s.delay, .int .i64 b.s.disp, .int .i64 b.s.at_] 40)) = W0 at *
      clear hW0
      obtain ⟨cx0, cx1, cx2, cx3, cx4, cx5⟩ := peer_cells A0
      obtain ⟨cy0, cy1, cy2, cy3, cy4, cy5⟩ := peer_cells B0
      have kx0 := cell_regrown cx0
      have kx1 := cell_regrown cx1
      have kx2 := cell_regrown cx2
      have kx3 := cell_regrown cx3
      have kx4 := cell_regrown cx4
      have kx5 := cell_regrown cx5
      have ky0 := cell_regrown cy0
      have ky1 := cell_regrown cy1
      have ky2 := cell_regrown cy2
      have ky3 := cell_regrown cy3
      have ky4 := cell_regrown cy4
      have ky5 := cell_regrown cy5
      clear cx0 cx1 cx2 cx3 cx4 cx5 cy0 cy1 cy2 cy3 cy4 cy5
      have KA := Lib.hid (fun d os => Calls.regrown_of (HRa.out (grow (redrawn W0 d) os)))
      have KB := Lib.hid (fun d os => Calls.regrown_of (HRb.out (grow (redrawn W0 d) os)))
      refine wp_region_quiet_below (by kernel_rfl) (by kernel_rfl) ?_
      repeat ((with_reducible refine wpQuiet_step (fun K hK => ?_)); go_simp; first | ((with_reducible refine hK _ ?_); clear hK K) | (rw [if_neg (by intro h; exact nomatch h)]; (with_reducible refine hK _ ?_); clear hK K) | (apply Exists.intro; (with_reducible refine ⟨fun _ => ?_, hK _ ?_⟩); (first | with_reducible exact KA.out _ _ | with_reducible exact KB.out _ _); clear hK K))
      with_reducible refine wpQuiet_nil ?_
      intro _ hw'
      obtain ⟨⟨dq1, osq1⟩, hw''⟩ := hw'
      subst hw''
      have g1 := below_regrown W0 dq1 osq1
      generalize hW1 : grow (redrawn W0 dq1) osq1 = W1 at *
      clear hW1
      clear kx0 kx1 kx2 kx3 kx4 kx5 ky0 ky1 ky2 ky3 ky4 ky5 KA KB
      go_wp2_with fail
      obtain ⟨cx0, cx1, cx2, cx3, cx4, cx5⟩ := peer_cells (blk_next g1 A0)
      obtain ⟨cy0, cy1, cy2, cy3, cy4, cy5⟩ := peer_cells (blk_next g1 B0)
      have kx0 := cell_regrown cx0
      have kx1 := cell_regrown cx1
      have kx2 := cell_regrown cx2
      have kx3 := cell_regrown cx3
      have kx4 := cell_regrown cx4
      have kx5 := cell_regrown cx5
      have ky0 := cell_regrown cy0
      have ky1 := cell_regrown cy1
      have ky2 := cell_regrown cy2
      have ky3 := cell_regrown cy3
      have ky4 := cell_regrown cy4
      have ky5 := cell_regrown cy5
      clear cx0 cx1 cx2 cx3 cx4 cx5 cy0 cy1 cy2 cy3 cy4 cy5
      have KA := Lib.hid (fun d os => Calls.regrown_of (HRa.out (grow (redrawn W1 d) os)))
      have KB := Lib.hid (fun d os => Calls.regrown_of (HRb.out (grow (redrawn W1 d) os)))
      refine wp_region_quiet_below (by kernel_rfl) (by kernel_rfl) ?_
      repeat ((with_reducible refine wpQuiet_step (fun K hK => ?_)); go_simp; first | ((with_reducible refine hK _ ?_); clear hK K) | (rw [if_neg (by intro h; exact nomatch h)]; (with_reducible refine hK _ ?_); clear hK K) | (apply Exists.intro; (with_reducible refine ⟨fun _ => ?_, hK _ ?_⟩); (first | with_reducible exact KA.out _ _ | with_reducible exact KB.out _ _); clear hK K))
      with_reducible refine wpQuiet_nil ?_
      intro _ hw'
      obtain ⟨⟨dq2, osq2⟩, hw''⟩ := hw'
      subst hw''
      have g2 := below_regrown W1 dq2 osq2
      generalize hW2 : grow (redrawn W1 dq2) osq2 = W2 at *
      clear hW2
      clear kx0 kx1 kx2 kx3 kx4 kx5 ky0 ky1 ky2 ky3 ky4 ky5 KA KB
      go_wp2_with fail
      go_returns
      exact ⟨rfl, grow_next (grow_next g0 g1) g2⟩
  · have e : aheadV a b = decide (a.str < b.str) := by unfold aheadV; rw [if_neg hs]
    rw [e]
    have hsb : (a.str == b.str) = false := by simp [hs]
    clear e hra hrb hs
    go_enter Tryd.func41, Tryd.ntmps41
    go_wp2_with fail
    go_returns
    exact ⟨rfl, g0⟩
end Go.Proofs.YtfcmcelhndppnaaDoor
