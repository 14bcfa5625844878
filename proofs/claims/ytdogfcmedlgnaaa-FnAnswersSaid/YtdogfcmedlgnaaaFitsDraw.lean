/- The reference's drawing for Fits: two packets. -/
import Derived.Test.YtdogfcmedlgnaaaAnsDraw
namespace Go.Proofs.Ytdogfcmedlgnaaa
open Go.ChangeShapes Go.WideShapes Go.ChangeAt Go.RowKit
set_option linter.unusedVariables false
set_option linter.unusedSimpArgs false

set_option maxRecDepth 100000 in
set_option maxHeartbeats 8000000 in
theorem drawFits_c (x : Option Addr) (n cap : Nat) (w : World) (hc : Code w.heap.size w (.slice x n cap) n) (hn : n ≤ 1048576) : Calls Try.prog 14 #[.slice x n cap] w
    (fun e w' => ∃ (p q : Pk), e = .returned (.tuple #[.agg #[.int .i64 p.leap, .int .i64 p.version, .int .i64 p.mode, .int .i64 p.stratum, .int .i64 p.poll, .int .i64 p.delay, .int .i64 p.disp, .int .i64 p.ref, .int .i64 p.orig, .int .i64 p.recv, .int .i64 p.xmit], .agg #[.int .i64 q.leap, .int .i64 q.version, .int .i64 q.mode, .int .i64 q.stratum, .int .i64 q.poll, .int .i64 q.delay, .int .i64 q.disp, .int .i64 q.ref, .int .i64 q.orig, .int .i64 q.recv, .int .i64 q.xmit]]) ∧ Below w.heap.size w w') := by
  have g0 : Below w.heap.size w ((w.alloc (.cells #[.int .i64 0, .int .i64 0, .int .i64 0, .int .i64 0, .int .i64 0, .int .i64 0, .int .i64 0, .int .i64 0, .int .i64 0, .int .i64 0, .int .i64 0] 27)).alloc (.cells #[.int .i64 0, .int .i64 0, .int .i64 0, .int .i64 0, .int .i64 0, .int .i64 0, .int .i64 0, .int .i64 0, .int .i64 0, .int .i64 0, .int .i64 0] 27)) := by go_grown
  have hX0 := blk_alloc (blk_new w (.cells #[.int .i64 0, .int .i64 0, .int .i64 0, .int .i64 0, .int .i64 0, .int .i64 0, .int .i64 0, .int .i64 0, .int .i64 0, .int .i64 0, .int .i64 0] 27)) (.cells #[.int .i64 0, .int .i64 0, .int .i64 0, .int .i64 0, .int .i64 0, .int .i64 0, .int .i64 0, .int .i64 0, .int .i64 0, .int .i64 0, .int .i64 0] 27)
  have hY0 := blk_new (w.alloc (.cells #[.int .i64 0, .int .i64 0, .int .i64 0, .int .i64 0, .int .i64 0, .int .i64 0, .int .i64 0, .int .i64 0, .int .i64 0, .int .i64 0, .int .i64 0] 27)) (.cells #[.int .i64 0, .int .i64 0, .int .i64 0, .int .i64 0, .int .i64 0, .int .i64 0, .int .i64 0, .int .i64 0, .int .i64 0, .int .i64 0, .int .i64 0] 27)
  simp only [World.size_alloc] at hY0
  have hc0 := hc.next g0
  go_enter Try.func14, Try.ntmps14
  go_wp2_with fail
  refine (drawAnswered_c x n cap _ hc0 hn).mono ?_
  rintro e w1 ⟨p, st, a, b, rfl, hb1⟩
  have g1 := grow_next g0 hb1
  have hX1 := blk_alloc (blk_next hb1 hX0) (.cells #[.int .i64 p.leap, .int .i64 p.version, .int .i64 p.mode, .int .i64 p.stratum, .int .i64 p.poll, .int .i64 p.delay, .int .i64 p.disp, .int .i64 p.ref, .int .i64 p.orig, .int .i64 p.recv, .int .i64 p.xmit] 27)
  have hY1 := blk_alloc (blk_next hb1 hY0) (.cells #[.int .i64 p.leap, .int .i64 p.version, .int .i64 p.mode, .int .i64 p.stratum, .int .i64 p.poll, .int .i64 p.delay, .int .i64 p.disp, .int .i64 p.ref, .int .i64 p.orig, .int .i64 p.recv, .int .i64 p.xmit] 27)
  have hP1 := blk_new w1 (.cells #[.int .i64 p.leap, .int .i64 p.version, .int .i64 p.mode, .int .i64 p.stratum, .int .i64 p.poll, .int .i64 p.delay, .int .i64 p.disp, .int .i64 p.ref, .int .i64 p.orig, .int .i64 p.recv, .int .i64 p.xmit] 27)
  have l1 := (Array.getElem?_eq_some_iff.1 (blk_next hb1 hY0)).1
  have g1' : Below w.heap.size w (w1.alloc (.cells #[.int .i64 p.leap, .int .i64 p.version, .int .i64 p.mode, .int .i64 p.stratum, .int .i64 p.poll, .int .i64 p.delay, .int .i64 p.disp, .int .i64 p.ref, .int .i64 p.orig, .int .i64 p.recv, .int .i64 p.xmit] 27)) := g1.alloc (by omega) _
  have hc1 := hc.next g1'
  go_wp2_with fail
  refine (answered_spec p st a b _).mono ?_
  rintro e w2 ⟨rfl, hb2⟩
  obtain ⟨q, hq⟩ : ∃ q, ansPk p st a b = q := ⟨_, rfl⟩
  rw [hq]
  clear hq
  have g2 := grow_next g1' hb2
  have l2 := (Array.getElem?_eq_some_iff.1 (blk_next hb2 hP1)).1
  have hX2 := blk_alloc (blk_next hb2 hX1) (.cells #[.int .i64 q.leap, .int .i64 q.version, .int .i64 q.mode, .int .i64 q.stratum, .int .i64 q.poll, .int .i64 q.delay, .int .i64 q.disp, .int .i64 q.ref, .int .i64 q.orig, .int .i64 q.recv, .int .i64 q.xmit] 27)
  have hY2 := blk_alloc (blk_next hb2 hY1) (.cells #[.int .i64 q.leap, .int .i64 q.version, .int .i64 q.mode, .int .i64 q.stratum, .int .i64 q.poll, .int .i64 q.delay, .int .i64 q.disp, .int .i64 q.ref, .int .i64 q.orig, .int .i64 q.recv, .int .i64 q.xmit] 27)
  have hP2 := blk_alloc (blk_next hb2 hP1) (.cells #[.int .i64 q.leap, .int .i64 q.version, .int .i64 q.mode, .int .i64 q.stratum, .int .i64 q.poll, .int .i64 q.delay, .int .i64 q.disp, .int .i64 q.ref, .int .i64 q.orig, .int .i64 q.recv, .int .i64 q.xmit] 27)
  have hQ2 := blk_new w2 (.cells #[.int .i64 q.leap, .int .i64 q.version, .int .i64 q.mode, .int .i64 q.stratum, .int .i64 q.poll, .int .i64 q.delay, .int .i64 q.disp, .int .i64 q.ref, .int .i64 q.orig, .int .i64 q.recv, .int .i64 q.xmit] 27)
  have g2' : Below w.heap.size w (w2.alloc (.cells #[.int .i64 q.leap, .int .i64 q.version, .int .i64 q.mode, .int .i64 q.stratum, .int .i64 q.poll, .int .i64 q.delay, .int .i64 q.disp, .int .i64 q.ref, .int .i64 q.orig, .int .i64 q.recv, .int .i64 q.xmit] 27)) := g2.alloc (by omega) _
  have hc2 := hc.next g2'
  go_wp2_with fail
  refine (open_c x n cap _).mono ?_
  rintro e w3 ⟨rfl, rfl⟩
  have hr3 := rd_open hc2 hn
  simp only [World.size_alloc] at hr3
  have hX3 := blk_alloc hX2 (.cells #[.slice x n cap, .int .i64 0] 61)
  have hY3 := blk_alloc hY2 (.cells #[.slice x n cap, .int .i64 0] 61)
  have hP3 := blk_alloc hP2 (.cells #[.slice x n cap, .int .i64 0] 61)
  have hQ3 := blk_alloc hQ2 (.cells #[.slice x n cap, .int .i64 0] 61)
  have g3 : Below w.heap.size w ((w2.alloc (.cells #[.int .i64 q.leap, .int .i64 q.version, .int .i64 q.mode, .int .i64 q.stratum, .int .i64 q.poll, .int .i64 q.delay, .int .i64 q.disp, .int .i64 q.ref, .int .i64 q.orig, .int .i64 q.recv, .int .i64 q.xmit] 27)).alloc (.cells #[.slice x n cap, .int .i64 0] 61)) := g2'.alloc (by simp; omega) _
  clear hc hc0 hc1 hc2 hX0 hY0 hX1 hY1 hP1 hX2 hY2 hP2 hQ2 g0 g1 g1' g2 g2' hb1 hb2
  go_wp2_with fail
  refine (once_c _ 4 (by omega) (by omega) _ hr3).mono ?_
  rintro e w4 ⟨bb, rfl, hr4, hg4⟩
  have hX4 := rd_block hg4 hX3 (by omega)
  have hY4 := rd_block hg4 hY3 (by omega)
  have hP4 := rd_block hg4 hP3 (by omega)
  have hQ4 := rd_block hg4 hQ3 (by omega)
  have g4 := grown_below g3 hg4 (by omega)
  clear hX3 hY3 hP3 hQ3 hr3 hg4 g3
  cases bb with
  | false =>
    obtain ⟨ax0, ax1, ax2, ax3, ax4, ax5, ax6, ax7, ax8, ax9, ax10⟩ := packet_cells (q := ⟨0, 0, 0, 0, 0, 0, 0, 0, 0, 0, 0⟩) hX4
    obtain ⟨bx0, bx1, bx2, bx3, bx4, bx5, bx6, bx7, bx8, bx9, bx10⟩ := packet_thaw (q := ⟨0, 0, 0, 0, 0, 0, 0, 0, 0, 0, 0⟩) hX4
    obtain ⟨ay0, ay1, ay2, ay3, ay4, ay5, ay6, ay7, ay8, ay9, ay10⟩ := packet_cells (q := ⟨0, 0, 0, 0, 0, 0, 0, 0, 0, 0, 0⟩) hY4
    obtain ⟨by0, by1, by2, by3, by4, by5, by6, by7, by8, by9, by10⟩ := packet_thaw (q := ⟨0, 0, 0, 0, 0, 0, 0, 0, 0, 0, 0⟩) hY4
    obtain ⟨ap0, ap1, ap2, ap3, ap4, ap5, ap6, ap7, ap8, ap9, ap10⟩ := packet_cells hP4
    obtain ⟨aq0, aq1, aq2, aq3, aq4, aq5, aq6, aq7, aq8, aq9, aq10⟩ := packet_cells hQ4
    go_wp2_with fail
    go_region_with fail
    all_goals
      try go_wp2_with fail
      obtain ⟨W, hW⟩ : ∃ W, W = ((((((((((((((((((((((w4.setCell ⟨w.heap.size, 0, none⟩ (.int .i64 p.leap)).setCell ⟨w.heap.size, 1, none⟩ (.int .i64 p.version)).setCell ⟨w.heap.size, 2, none⟩ (.int .i64 p.mode)).setCell ⟨w.heap.size, 3, none⟩ (.int .i64 p.stratum)).setCell ⟨w.heap.size, 4, none⟩ (.int .i64 p.poll)).setCell ⟨w.heap.size, 5, none⟩ (.int .i64 p.delay)).setCell ⟨w.heap.size, 6, none⟩ (.int .i64 p.disp)).setCell ⟨w.heap.size, 7, none⟩ (.int .i64 p.ref)).setCell ⟨w.heap.size, 8, none⟩ (.int .i64 p.orig)).setCell ⟨w.heap.size, 9, none⟩ (.int .i64 p.recv)).setCell ⟨w.heap.size, 10, none⟩ (.int .i64 p.xmit)).setCell ⟨w.heap.size + 1, 0, none⟩ (.int .i64 q.leap)).setCell ⟨w.heap.size + 1, 1, none⟩ (.int .i64 q.version)).setCell ⟨w.heap.size + 1, 2, none⟩ (.int .i64 q.mode)).setCell ⟨w.heap.size + 1, 3, none⟩ (.int .i64 q.stratum)).setCell ⟨w.heap.size + 1, 4, none⟩ (.int .i64 q.poll)).setCell ⟨w.heap.size + 1, 5, none⟩ (.int .i64 q.delay)).setCell ⟨w.heap.size + 1, 6, none⟩ (.int .i64 q.disp)).setCell ⟨w.heap.size + 1, 7, none⟩ (.int .i64 q.ref)).setCell ⟨w.heap.size + 1, 8, none⟩ (.int .i64 q.orig)).setCell ⟨w.heap.size + 1, 9, none⟩ (.int .i64 q.recv)).setCell ⟨w.heap.size + 1, 10, none⟩ (.int .i64 q.xmit)) := ⟨_, rfl⟩
      have hK1 : W.heap[w.heap.size]? = some (.cells #[.int .i64 p.leap, .int .i64 p.version, .int .i64 p.mode, .int .i64 p.stratum, .int .i64 p.poll, .int .i64 p.delay, .int .i64 p.disp, .int .i64 p.ref, .int .i64 p.orig, .int .i64 p.recv, .int .i64 p.xmit] 27) := by
        rw [hW]
        exact packet_other (packet_put (q := ⟨0, 0, 0, 0, 0, 0, 0, 0, 0, 0, 0⟩) hX4 p) (by omega) q
      have hK2 : W.heap[w.heap.size + 1]? = some (.cells #[.int .i64 q.leap, .int .i64 q.version, .int .i64 q.mode, .int .i64 q.stratum, .int .i64 q.poll, .int .i64 q.delay, .int .i64 q.disp, .int .i64 q.ref, .int .i64 q.orig, .int .i64 q.recv, .int .i64 q.xmit] 27) := by
        rw [hW]
        exact packet_put (q := ⟨0, 0, 0, 0, 0, 0, 0, 0, 0, 0, 0⟩) (packet_other hY4 (by omega) p) q
      have hG : Below w.heap.size w W := by
        rw [hW]
        repeat (refine below_put ?_ (by omega) _ _)
        exact g4
      rw [← hW]
      clear hW
      obtain ⟨rx0, rx1, rx2, rx3, rx4, rx5, rx6, rx7, rx8, rx9, rx10⟩ := packet_cells hK1
      obtain ⟨ry0, ry1, ry2, ry3, ry4, ry5, ry6, ry7, ry8, ry9, ry10⟩ := packet_cells hK2
      try simp only [Exit.inBlock, Exit.then]
      refine bodyPost_ret (by simp [results, Try.results14, go_sem, rx0, rx1, rx2, rx3, rx4, rx5, rx6, rx7, rx8, rx9, rx10, ry0, ry1, ry2, ry3, ry4, ry5, ry6, ry7, ry8, ry9, ry10]; try rfl) rfl ?_
      exact ⟨p, q, rfl, by first | exact hG | exact below_drew hG⟩
  | true =>
    go_wp2_with fail
    refine (time_c _ _ hr4).mono ?_
    rintro e w5 ⟨u, u0, u1, rfl, hr5, hg5⟩
    have hX5 := rd_block hg5 hX4 (by omega)
    have hY5 := rd_block hg5 hY4 (by omega)
    have hP5 := rd_block hg5 hP4 (by omega)
    have hQ5 := rd_block hg5 hQ4 (by omega)
    have g5 := grown_below g4 hg5 (by omega)
    have hX6 : (w5.setCell ⟨w2.heap.size, 8, none⟩ (.int .i64 u)).heap[w.heap.size]? = some (.cells #[.int .i64 0, .int .i64 0, .int .i64 0, .int .i64 0, .int .i64 0, .int .i64 0, .int .i64 0, .int .i64 0, .int .i64 0, .int .i64 0, .int .i64 0] 27) := by
      have : w2.heap.size ≠ w.heap.size := by omega
      simp [World.setCell, Array.getElem?_modify, this, hX5]
    have hY6 : (w5.setCell ⟨w2.heap.size, 8, none⟩ (.int .i64 u)).heap[w.heap.size + 1]? = some (.cells #[.int .i64 0, .int .i64 0, .int .i64 0, .int .i64 0, .int .i64 0, .int .i64 0, .int .i64 0, .int .i64 0, .int .i64 0, .int .i64 0, .int .i64 0] 27) := by
      have : w2.heap.size ≠ w.heap.size + 1 := by omega
      simp [World.setCell, Array.getElem?_modify, this, hY5]
    have hP6 : (w5.setCell ⟨w2.heap.size, 8, none⟩ (.int .i64 u)).heap[w1.heap.size]? = some (.cells #[.int .i64 p.leap, .int .i64 p.version, .int .i64 p.mode, .int .i64 p.stratum, .int .i64 p.poll, .int .i64 p.delay, .int .i64 p.disp, .int .i64 p.ref, .int .i64 p.orig, .int .i64 p.recv, .int .i64 p.xmit] 27) := by
      have : w2.heap.size ≠ w1.heap.size := by omega
      simp [World.setCell, Array.getElem?_modify, this, hP5]
    obtain ⟨z, hz⟩ : ∃ z : Pk, z = ⟨q.leap, q.version, q.mode, q.stratum, q.poll, q.delay, q.disp, q.ref, u, q.recv, q.xmit⟩ := ⟨_, rfl⟩
    have hQ6 : (w5.setCell ⟨w2.heap.size, 8, none⟩ (.int .i64 u)).heap[w2.heap.size]? = some (.cells #[.int .i64 z.leap, .int .i64 z.version, .int .i64 z.mode, .int .i64 z.stratum, .int .i64 z.poll, .int .i64 z.delay, .int .i64 z.disp, .int .i64 z.ref, .int .i64 z.orig, .int .i64 z.recv, .int .i64 z.xmit] 27) := by
      subst hz
      simp [World.setCell, Array.getElem?_modify, hQ5]
    have g6 : Below w.heap.size w (w5.setCell ⟨w2.heap.size, 8, none⟩ (.int .i64 u)) := below_put g5 (by omega) _ _
    have o1 := (packet_cells hQ5).2.2.2.2.2.2.2.2.1
    have o2 := (packet_thaw hQ5).2.2.2.2.2.2.2.2.1
    clear hz hX4 hY4 hP4 hQ4 hX5 hY5 hP5 hQ5
    obtain ⟨ax0, ax1, ax2, ax3, ax4, ax5, ax6, ax7, ax8, ax9, ax10⟩ := packet_cells (q := ⟨0, 0, 0, 0, 0, 0, 0, 0, 0, 0, 0⟩) hX6
    obtain ⟨bx0, bx1, bx2, bx3, bx4, bx5, bx6, bx7, bx8, bx9, bx10⟩ := packet_thaw (q := ⟨0, 0, 0, 0, 0, 0, 0, 0, 0, 0, 0⟩) hX6
    obtain ⟨ay0, ay1, ay2, ay3, ay4, ay5, ay6, ay7, ay8, ay9, ay10⟩ := packet_cells (q := ⟨0, 0, 0, 0, 0, 0, 0, 0, 0, 0, 0⟩) hY6
    obtain ⟨by0, by1, by2, by3, by4, by5, by6, by7, by8, by9, by10⟩ := packet_thaw (q := ⟨0, 0, 0, 0, 0, 0, 0, 0, 0, 0, 0⟩) hY6
    obtain ⟨ap0, ap1, ap2, ap3, ap4, ap5, ap6, ap7, ap8, ap9, ap10⟩ := packet_cells hP6
    obtain ⟨aq0, aq1, aq2, aq3, aq4, aq5, aq6, aq7, aq8, aq9, aq10⟩ := packet_cells hQ6
    go_wp2_with fail
    go_region_with fail
    all_goals
      try go_wp2_with fail
      obtain ⟨W, hW⟩ : ∃ W, W = (((((((((((((((((((((((w5.setCell ⟨w2.heap.size, 8, none⟩ (.int .i64 u)).setCell ⟨w.heap.size, 0, none⟩ (.int .i64 p.leap)).setCell ⟨w.heap.size, 1, none⟩ (.int .i64 p.version)).setCell ⟨w.heap.size, 2, none⟩ (.int .i64 p.mode)).setCell ⟨w.heap.size, 3, none⟩ (.int .i64 p.stratum)).setCell ⟨w.heap.size, 4, none⟩ (.int .i64 p.poll)).setCell ⟨w.heap.size, 5, none⟩ (.int .i64 p.delay)).setCell ⟨w.heap.size, 6, none⟩ (.int .i64 p.disp)).setCell ⟨w.heap.size, 7, none⟩ (.int .i64 p.ref)).setCell ⟨w.heap.size, 8, none⟩ (.int .i64 p.orig)).setCell ⟨w.heap.size, 9, none⟩ (.int .i64 p.recv)).setCell ⟨w.heap.size, 10, none⟩ (.int .i64 p.xmit)).setCell ⟨w.heap.size + 1, 0, none⟩ (.int .i64 z.leap)).setCell ⟨w.heap.size + 1, 1, none⟩ (.int .i64 z.version)).setCell ⟨w.heap.size + 1, 2, none⟩ (.int .i64 z.mode)).setCell ⟨w.heap.size + 1, 3, none⟩ (.int .i64 z.stratum)).setCell ⟨w.heap.size + 1, 4, none⟩ (.int .i64 z.poll)).setCell ⟨w.heap.size + 1, 5, none⟩ (.int .i64 z.delay)).setCell ⟨w.heap.size + 1, 6, none⟩ (.int .i64 z.disp)).setCell ⟨w.heap.size + 1, 7, none⟩ (.int .i64 z.ref)).setCell ⟨w.heap.size + 1, 8, none⟩ (.int .i64 z.orig)).setCell ⟨w.heap.size + 1, 9, none⟩ (.int .i64 z.recv)).setCell ⟨w.heap.size + 1, 10, none⟩ (.int .i64 z.xmit)) := ⟨_, rfl⟩
      have hK1 : W.heap[w.heap.size]? = some (.cells #[.int .i64 p.leap, .int .i64 p.version, .int .i64 p.mode, .int .i64 p.stratum, .int .i64 p.poll, .int .i64 p.delay, .int .i64 p.disp, .int .i64 p.ref, .int .i64 p.orig, .int .i64 p.recv, .int .i64 p.xmit] 27) := by
        rw [hW]
        exact packet_other (packet_put (q := ⟨0, 0, 0, 0, 0, 0, 0, 0, 0, 0, 0⟩) hX6 p) (by omega) z
      have hK2 : W.heap[w.heap.size + 1]? = some (.cells #[.int .i64 z.leap, .int .i64 z.version, .int .i64 z.mode, .int .i64 z.stratum, .int .i64 z.poll, .int .i64 z.delay, .int .i64 z.disp, .int .i64 z.ref, .int .i64 z.orig, .int .i64 z.recv, .int .i64 z.xmit] 27) := by
        rw [hW]
        exact packet_put (q := ⟨0, 0, 0, 0, 0, 0, 0, 0, 0, 0, 0⟩) (packet_other hY6 (by omega) p) z
      have hG : Below w.heap.size w W := by
        rw [hW]
        repeat (refine below_put ?_ (by omega) _ _)
        exact g5
      rw [← hW]
      clear hW
      obtain ⟨rx0, rx1, rx2, rx3, rx4, rx5, rx6, rx7, rx8, rx9, rx10⟩ := packet_cells hK1
      obtain ⟨ry0, ry1, ry2, ry3, ry4, ry5, ry6, ry7, ry8, ry9, ry10⟩ := packet_cells hK2
      try simp only [Exit.inBlock, Exit.then]
      refine bodyPost_ret (by simp [results, Try.results14, go_sem, rx0, rx1, rx2, rx3, rx4, rx5, rx6, rx7, rx8, rx9, rx10, ry0, ry1, ry2, ry3, ry4, ry5, ry6, ry7, ry8, ry9, ry10]; try rfl) rfl ?_
      exact ⟨p, z, rfl, by first | exact hG | exact below_drew hG⟩
end Go.Proofs.Ytdogfcmedlgnaaa
