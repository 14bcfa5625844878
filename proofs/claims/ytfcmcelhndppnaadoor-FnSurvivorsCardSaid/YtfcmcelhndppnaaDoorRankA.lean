/- Which peer is ranked ahead: the program's way and the reference's. -/
import Derived.Test.YtfcmcelhndppnaaDoorCombM
import Derived.Test.YtfcmcelhndppnaaDoorPtrs
namespace Go.Proofs.YtfcmcelhndppnaaDoor
open Go.ChangeShapes Go.WideShapes Go.ChangeAt Go.RowKit Go.Sort
set_option linter.unusedVariables false
set_option linter.unusedSimpArgs false

/-- Ranked ahead: by stratum, by reach, by id. -/
def aheadV (a b : Pr) : Bool := if a.str = b.str then (if (a.s.delay + 1) / 2 + a.s.disp = (b.s.delay + 1) / 2 + b.s.disp then decide (a.id < b.id) else decide ((a.s.delay + 1) / 2 + a.s.disp < (b.s.delay + 1) / 2 + b.s.disp)) else decide (a.str < b.str)

set_option maxHeartbeats 2000000 in
theorem rankAhead_c (a b : Pr) (ha : a.s.ok = true) (hb : b.s.ok = true) (x y : Addr) (w : World) (hx : PrAt w.heap.size w x a) (hy : PrAt w.heap.size w y b) {ao an au : Addr} (L : Ld w ao an au) :
    Calls Tryd.prog 43 #[.pointer (some x), .pointer (some y)] w fun e w' => e = .returned (.bool (aheadV a b)) ∧ Below w.heap.size w w' := by
  have HRa := fun W {ao an au} L => @reach_impl a.s W ao an au L
  have HRb := fun W {ao an au} L => @reach_impl b.s W ao an au L
  rw [(reachV_bounds a.s ha).1] at HRa
  rw [(reachV_bounds b.s hb).1] at HRb
  obtain ⟨ra, hra⟩ : ∃ r, (a.s.delay + 1) / 2 + a.s.disp = r := ⟨_, rfl⟩
  obtain ⟨rb, hrb⟩ : ∃ r, (b.s.delay + 1) / 2 + b.s.disp = r := ⟨_, rfl⟩
  rw [hra] at HRa
  rw [hrb] at HRb
  obtain ⟨bx, ox, rfl, lx, cx⟩ := hx
  obtain ⟨bz, oz, rfl, ly, cy⟩ := hy
  have hx : PrAt w.heap.size w ⟨bx, ox, none⟩ a := ⟨bx, ox, rfl, lx, cx⟩
  have hy : PrAt w.heap.size w ⟨bz, oz, none⟩ b := ⟨bz, oz, rfl, ly, cy⟩
  clear cx cy lx ly ha hb
  have CX : ∀ W, Below w.heap.size w W → W.cell? ⟨bx, ox, none⟩ = some (.int .i64 a.id) ∧ W.cell? ⟨bx, ox + 1, none⟩ = some (.int .i64 a.str) ∧ W.cell? ⟨bx, ox + 2, none⟩ = some (.int .i64 a.s.off) ∧ W.cell? ⟨bx, ox + 3, none⟩ = some (.int .i64 a.s.delay) ∧ W.cell? ⟨bx, ox + 4, none⟩ = some (.int .i64 a.s.disp) ∧ W.cell? ⟨bx, ox + 5, none⟩ = some (.int .i64 a.s.at_) := fun W h => by
    obtain ⟨b1, o1, e, _, c⟩ := hx.next h
    simp only [Addr.mk.injEq] at e
    obtain ⟨rfl, rfl, _⟩ := e
    exact c
  have CY : ∀ W, Below w.heap.size w W → W.cell? ⟨bz, oz, none⟩ = some (.int .i64 b.id) ∧ W.cell? ⟨bz, oz + 1, none⟩ = some (.int .i64 b.str) ∧ W.cell? ⟨bz, oz + 2, none⟩ = some (.int .i64 b.s.off) ∧ W.cell? ⟨bz, oz + 3, none⟩ = some (.int .i64 b.s.delay) ∧ W.cell? ⟨bz, oz + 4, none⟩ = some (.int .i64 b.s.disp) ∧ W.cell? ⟨bz, oz + 5, none⟩ = some (.int .i64 b.s.at_) := fun W h => by
    obtain ⟨b1, o1, e, _, c⟩ := hy.next h
    simp only [Addr.mk.injEq] at e
    obtain ⟨rfl, rfl, _⟩ := e
    exact c
  have CX := Lib.hid CX
  have CY := Lib.hid CY
  have HRa := Lib.hid HRa
  have HRb := Lib.hid HRb
  clear hx hy
  by_cases hs : a.str = b.str
  · have hsb : (a.str == b.str) = true := by simp [hs]
    by_cases hr : ra = rb
    · have e : aheadV a b = decide (a.id < b.id) := by unfold aheadV; rw [if_pos hs, hra, hrb, if_pos hr]
      rw [e]
      have hrb2 : (ra == rb) = true := by simp [hr]
      clear e hra hrb hs hr
      go_enter Tryd.func43, Tryd.ntmps43
      obtain ⟨cx0, cx1, cx2, cx3, cx4, cx5⟩ := CX.out w (Below.refl _ _)
      obtain ⟨cy0, cy1, cy2, cy3, cy4, cy5⟩ := CY.out w (Below.refl _ _)
      have kx0 := cell_regrown cx0
      have kx1 := cell_regrown cx1
      have kx2 := cell_regrown cx2
      have kx3 := cell_regrown cx3
      have kx4 := cell_regrown cx4
      have kx5 := cell_regrown cx5
      have ky0 := cell_regrown cy0
      have ky1 := cell_regrown cy1
      have ky2 := cell_regrown cy2
      have ky3 := cell_regrown cy3
      have ky4 := cell_regrown cy4
      have ky5 := cell_regrown cy5
      clear cx0 cx1 cx2 cx3 cx4 cx5 cy0 cy1 cy2 cy3 cy4 cy5
      go_wp2_with fail
      refine wp_region_quiet_below (by kernel_rfl) (by kernel_rfl) ?_
      repeat ((with_reducible refine wpQuiet_step (fun K hK => ?_)); go_simp; first | ((with_reducible refine hK _ ?_); clear hK K) | (rw [if_neg (by intro h; exact nomatch h)]; (with_reducible refine hK _ ?_); clear hK K) | (apply Exists.intro; (with_reducible refine ⟨fun _ => ?_, hK _ ?_⟩); (fail); clear hK K))
      with_reducible refine wpQuiet_nil ?_
      intro _ hw'
      obtain ⟨⟨dq1, osq1⟩, hw''⟩ := hw'
      subst hw''
      have g1 := below_regrown w dq1 osq1
      generalize hW1 : grow (redrawn w dq1) osq1 = W1 at *
      clear hW1
      have G1 : Below w.heap.size w W1 := grow_next (Below.refl _ _) g1
      clear kx0 kx1 kx2 kx3 kx4 kx5 ky0 ky1 ky2 ky3 ky4 ky5
      obtain ⟨cx0, cx1, cx2, cx3, cx4, cx5⟩ := CX.out W1 G1
      obtain ⟨cy0, cy1, cy2, cy3, cy4, cy5⟩ := CY.out W1 G1
      have kx0 := cell_regrown cx0
      have kx1 := cell_regrown cx1
      have kx2 := cell_regrown cx2
      have kx3 := cell_regrown cx3
      have kx4 := cell_regrown cx4
      have kx5 := cell_regrown cx5
      have ky0 := cell_regrown cy0
      have ky1 := cell_regrown cy1
      have ky2 := cell_regrown cy2
      have ky3 := cell_regrown cy3
      have ky4 := cell_regrown cy4
      have ky5 := cell_regrown cy5
      clear cx0 cx1 cx2 cx3 cx4 cx5 cy0 cy1 cy2 cy3 cy4 cy5
      have KA := Lib.hid (fun d os => Calls.regrown_of (HRa.out (grow (redrawn W1 d) os) (L.next (grow_next G1 (below_regrown W1 d os)))))
      have KB := Lib.hid (fun d os => Calls.regrown_of (HRb.out (grow (redrawn W1 d) os) (L.next (grow_next G1 (below_regrown W1 d os)))))
      go_wp2_with fail
      refine wp_region_quiet_below (by kernel_rfl) (by kernel_rfl) ?_
      repeat ((with_reducible refine wpQuiet_step (fun K hK => ?_)); go_simp; first | ((with_reducible refine hK _ ?_); clear hK K) | (rw [if_neg (by intro h; exact nomatch h)]; (with_reducible refine hK _ ?_); clear hK K) | (apply Exists.intro; (with_reducible refine ⟨fun _ => ?_, hK _ ?_⟩); (first | with_reducible exact KA.out _ _ | with_reducible exact KB.out _ _); clear hK K))
      with_reducible refine wpQuiet_nil ?_
      intro _ hw'
      obtain ⟨⟨dq2, osq2⟩, hw''⟩ := hw'
      subst hw''
      have g2 := below_regrown W1 dq2 osq2
      generalize hW2 : grow (redrawn W1 dq2) osq2 = W2 at *
      clear hW2
      have G2 : Below w.heap.size w W2 := grow_next G1 g2
      clear kx0 kx1 kx2 kx3 kx4 kx5 ky0 ky1 ky2 ky3 ky4 ky5
      clear KA KB
      obtain ⟨cx0, cx1, cx2, cx3, cx4, cx5⟩ := CX.out W2 G2
      obtain ⟨cy0, cy1, cy2, cy3, cy4, cy5⟩ := CY.out W2 G2
      have kx0 := cell_regrown cx0
      have kx1 := cell_regrown cx1
      have kx2 := cell_regrown cx2
      have kx3 := cell_regrown cx3
      have kx4 := cell_regrown cx4
      have kx5 := cell_regrown cx5
      have ky0 := cell_regrown cy0
      have ky1 := cell_regrown cy1
      have ky2 := cell_regrown cy2
      have ky3 := cell_regrown cy3
      have ky4 := cell_regrown cy4
      have ky5 := cell_regrown cy5
      clear cx0 cx1 cx2 cx3 cx4 cx5 cy0 cy1 cy2 cy3 cy4 cy5
      go_wp2_with fail
      refine wp_region_quiet_below (by kernel_rfl) (by kernel_rfl) ?_
      repeat ((with_reducible refine wpQuiet_step (fun K hK => ?_)); go_simp; first | ((with_reducible refine hK _ ?_); clear hK K) | (rw [if_neg (by intro h; exact nomatch h)]; (with_reducible refine hK _ ?_); clear hK K) | (apply Exists.intro; (with_reducible refine ⟨fun _ => ?_, hK _ ?_⟩); (fail); clear hK K))
      with_reducible refine wpQuiet_nil ?_
      intro _ hw'
      obtain ⟨⟨dq3, osq3⟩, hw''⟩ := hw'
      subst hw''
      have g3 := below_regrown W2 dq3 osq3
      generalize hW3 : grow (redrawn W2 dq3) osq3 = W3 at *
      clear hW3
      have G3 : Below w.heap.size w W3 := grow_next G2 g3
      clear kx0 kx1 kx2 kx3 kx4 kx5 ky0 ky1 ky2 ky3 ky4 ky5
      go_wp2_with fail
      go_returns
      exact ⟨rfl, G3⟩
    · have e : aheadV a b = decide (ra < rb) := by unfold aheadV; rw [if_pos hs, hra, hrb, if_neg hr]
      rw [e]
      have hrb2 : (ra == rb) = false := by simp [hr]
      clear e hra hrb hs hr
      go_enter Tryd.func43, Tryd.ntmps43
      obtain ⟨cx0, cx1, cx2, cx3, cx4, cx5⟩ := CX.out w (Below.refl _ _)
      obtain ⟨cy0, cy1, cy2, cy3, cy4, cy5⟩ := CY.out w (Below.refl _ _)
      have kx0 := cell_regrown cx0
      have kx1 := cell_regrown cx1
      have kx2 := cell_regrown cx2
      have kx3 := cell_regrown cx3
      have kx4 := cell_regrown cx4
      have kx5 := cell_regrown cx5
      have ky0 := cell_regrown cy0
      have ky1 := cell_regrown cy1
      have ky2 := cell_regrown cy2
      have ky3 := cell_regrown cy3
      have ky4 := cell_regrown cy4
      have ky5 := cell_regrown cy5
      clear cx0 cx1 cx2 cx3 cx4 cx5 cy0 cy1 cy2 cy3 cy4 cy5
      go_wp2_with fail
      refine wp_region_quiet_below (by kernel_rfl) (by kernel_rfl) ?_
      repeat ((with_reducible refine wpQuiet_step (fun K hK => ?_)); go_simp; first | ((with_reducible refine hK _ ?_); clear hK K) | (rw [if_neg (by intro h; exact nomatch h)]; (with_reducible refine hK _ ?_); clear hK K) | (apply Exists.intro; (with_reducible refine ⟨fun _ => ?_, hK _ ?_⟩); (fail); clear hK K))
      with_reducible refine wpQuiet_nil ?_
      intro _ hw'
      obtain ⟨⟨dq1, osq1⟩, hw''⟩ := hw'
      subst hw''
      have g1 := below_regrown w dq1 osq1
      generalize hW1 : grow (redrawn w dq1) osq1 = W1 at *
      clear hW1
      have G1 : Below w.heap.size w W1 := grow_next (Below.refl _ _) g1
      clear kx0 kx1 kx2 kx3 kx4 kx5 ky0 ky1 ky2 ky3 ky4 ky5
      obtain ⟨cx0, cx1, cx2, cx3, cx4, cx5⟩ := CX.out W1 G1
      obtain ⟨cy0, cy1, cy2, cy3, cy4, cy5⟩ := CY.out W1 G1
      have kx0 := cell_regrown cx0
      have kx1 := cell_regrown cx1
      have kx2 := cell_regrown cx2
      have kx3 := cell_regrown cx3
      have kx4 := cell_regrown cx4
      have kx5 := cell_regrown cx5
      have ky0 := cell_regrown cy0
      have ky1 := cell_regrown cy1
      have ky2 := cell_regrown cy2
      have ky3 := cell_regrown cy3
      have ky4 := cell_regrown cy4
      have ky5 := cell_regrown cy5
      clear cx0 cx1 cx2 cx3 cx4 cx5 cy0 cy1 cy2 cy3 cy4 cy5
      have KA := Lib.hid (fun d os => Calls.regrown_of (HRa.out (grow (redrawn W1 d) os) (L.next (grow_next G1 (below_regrown W1 d os)))))
      have KB := Lib.hid (fun d os => Calls.regrown_of (HRb.out (grow (redrawn W1 d) os) (L.next (grow_next G1 (below_regrown W1 d os)))))
      go_wp2_with fail
      refine wp_region_quiet_below (by kernel_rfl) (by kernel_rfl) ?_
      repeat ((with_reducible refine wpQuiet_step (fun K hK => ?_)); go_simp; first | ((with_reducible refine hK _ ?_); clear hK K) | (rw [if_neg (by intro h; exact nomatch h)]; (with_reducible refine hK _ ?_); clear hK K) | (apply Exists.intro; (with_reducible refine ⟨fun _ => ?_, hK _ ?_⟩); (first | with_reducible exact KA.out _ _ | with_reducible exact KB.out _ _); clear hK K))
      with_reducible refine wpQuiet_nil ?_
      intro _ hw'
      obtain ⟨⟨dq2, osq2⟩, hw''⟩ := hw'
      subst hw''
      have g2 := below_regrown W1 dq2 osq2
      generalize hW2 : grow (redrawn W1 dq2) osq2 = W2 at *
      clear hW2
      have G2 : Below w.heap.size w W2 := grow_next G1 g2
      clear kx0 kx1 kx2 kx3 kx4 kx5 ky0 ky1 ky2 ky3 ky4 ky5
      clear KA KB
      go_wp2_with fail
      go_returns
      exact ⟨rfl, G2⟩
  · have e : aheadV a b = decide (a.str < b.str) := by unfold aheadV; rw [if_neg hs]
    rw [e]
    have hsb : (a.str == b.str) = false := by simp [hs]
    clear e hra hrb hs
    go_enter Tryd.func43, Tryd.ntmps43
    obtain ⟨cx0, cx1, cx2, cx3, cx4, cx5⟩ := CX.out w (Below.refl _ _)
    obtain ⟨cy0, cy1, cy2, cy3, cy4, cy5⟩ := CY.out w (Below.refl _ _)
    have kx0 := cell_regrown cx0
    have kx1 := cell_regrown cx1
    have kx2 := cell_regrown cx2
    have kx3 := cell_regrown cx3
    have kx4 := cell_regrown cx4
    have kx5 := cell_regrown cx5
    have ky0 := cell_regrown cy0
    have ky1 := cell_regrown cy1
    have ky2 := cell_regrown cy2
    have ky3 := cell_regrown cy3
    have ky4 := cell_regrown cy4
    have ky5 := cell_regrown cy5
    clear cx0 cx1 cx2 cx3 cx4 cx5 cy0 cy1 cy2 cy3 cy4 cy5
    go_wp2_with fail
    refine wp_region_quiet_below (by kernel_rfl) (by kernel_rfl) ?_
    repeat ((with_reducible refine wpQuiet_step (fun K hK => ?_)); go_simp; first | ((with_reducible refine hK _ ?_); clear hK K) | (rw [if_neg (by intro h; exact nomatch h)]; (with_reducible refine hK _ ?_); clear hK K) | (apply Exists.intro; (with_reducible refine ⟨fun _ => ?_, hK _ ?_⟩); (fail); clear hK K))
    with_reducible refine wpQuiet_nil ?_
    intro _ hw'
    obtain ⟨⟨dq1, osq1⟩, hw''⟩ := hw'
    subst hw''
    have g1 := below_regrown w dq1 osq1
    generalize hW1 : grow (redrawn w dq1) osq1 = W1 at *
    clear hW1
    have G1 : Below w.heap.size w W1 := grow_next (Below.refl _ _) g1
    clear kx0 kx1 kx2 kx3 kx4 kx5 ky0 ky1 ky2 ky3 ky4 ky5
    obtain ⟨cx0, cx1, cx2, cx3, cx4, cx5⟩ := CX.out W1 G1
    obtain ⟨cy0, cy1, cy2, cy3, cy4, cy5⟩ := CY.out W1 G1
    have kx0 := cell_regrown cx0
    have kx1 := cell_regrown cx1
    have kx2 := cell_regrown cx2
    have kx3 := cell_regrown cx3
    have kx4 := cell_regrown cx4
    have kx5 := cell_regrown cx5
    have ky0 := cell_regrown cy0
    have ky1 := cell_regrown cy1
    have ky2 := cell_regrown cy2
    have ky3 := cell_regrown cy3
    have ky4 := cell_regrown cy4
    have ky5 := cell_regrown cy5
    clear cx0 cx1 cx2 cx3 cx4 cx5 cy0 cy1 cy2 cy3 cy4 cy5
    go_wp2_with fail
    refine wp_region_quiet_below (by kernel_rfl) (by kernel_rfl) ?_
    repeat ((with_reducible refine wpQuiet_step (fun K hK => ?_)); go_simp; first | ((with_reducible refine hK _ ?_); clear hK K) | (rw [if_neg (by intro h; exact nomatch h)]; (with_reducible refine hK _ ?_); clear hK K) | (apply Exists.intro; (with_reducible refine ⟨fun _ => ?_, hK _ ?_⟩); (fail); clear hK K))
    with_reducible refine wpQuiet_nil ?_
    intro _ hw'
    obtain ⟨⟨dq2, osq2⟩, hw''⟩ := hw'
    subst hw''
    have g2 := below_regrown W1 dq2 osq2
    generalize hW2 : grow (redrawn W1 dq2) osq2 = W2 at *
    clear hW2
    have G2 : Below w.heap.size w W2 := grow_next G1 g2
    clear kx0 kx1 kx2 kx3 kx4 kx5 ky0 ky1 ky2 ky3 ky4 ky5
    go_wp2_with fail
    go_returns
    exact ⟨rfl, G2⟩
end Go.Proofs.YtfcmcelhndppnaaDoor
