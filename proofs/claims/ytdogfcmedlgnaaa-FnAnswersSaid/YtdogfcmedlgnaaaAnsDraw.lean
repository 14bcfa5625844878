/- The reference's drawing of what is answered: some packet and three numbers; two packets. -/
import Derived.Test.YtdogfcmedlgnaaaPacketDraw
import Derived.Test.YtdogfcmedlgnaaaAnsweredSpec
import Derived.Deep.RegionWith
namespace Go.Proofs.Ytdogfcmedlgnaaa
open Go.ChangeShapes Go.WideShapes Go.ChangeAt Go.RowKit
set_option linter.unusedVariables false
set_option linter.unusedSimpArgs false

theorem below_grown {w w' : World} (h : Below w.heap.size w w') : w.grownBy w' none := ⟨h.os, h.tape, h.output, h.size, fun k hk _ => h.block k hk⟩
theorem rd_block {w w' : World} {a k : Nat} {o : Obj} (hg : w.grownBy w' (some a)) (h : w.heap[k]? = some o) (hne : k ≠ a) : w'.heap[k]? = some o :=
  (hg.block k (Array.getElem?_eq_some_iff.1 h).1 (fun e => by simp only [Option.some.injEq] at e; omega)).trans h
theorem rd_drew1 {w : World} {a : Nat} (h : Rd w a) : Rd w.drew a := h.kept (row := none) ⟨rfl, rfl, rfl, Nat.le_refl _, fun _ _ _ => rfl⟩ (by simp)
theorem below_drew {B : Nat} {a w : World} (h : Below B a w) : Below B a w.drew := h.trans ⟨rfl, rfl, rfl, Nat.le_refl _, fun _ _ => rfl⟩
theorem below_put {w W : World} {b : Nat} (h : Below w.heap.size w W) (hb : w.heap.size ≤ b) (o : Nat) (v : Value) : Below w.heap.size w (W.setCell ⟨b, o, none⟩ v) := h.setCell hb v
theorem packet_put {W : World} {b : Nat} {T : TypeId} {q : Pk} (h : W.heap[b]? = some (.cells #[.int .i64 q.leap, .int .i64 q.version, .int .i64 q.mode, .int .i64 q.stratum, .int .i64 q.poll, .int .i64 q.delay, .int .i64 q.disp, .int .i64 q.ref, .int .i64 q.orig, .int .i64 q.recv, .int .i64 q.xmit] T)) (r : Pk) :
    (((((((((((W.setCell ⟨b, 0, none⟩ (.int .i64 r.leap)).setCell ⟨b, 1, none⟩ (.int .i64 r.version)).setCell ⟨b, 2, none⟩ (.int .i64 r.mode)).setCell ⟨b, 3, none⟩ (.int .i64 r.stratum)).setCell ⟨b, 4, none⟩ (.int .i64 r.poll)).setCell ⟨b, 5, none⟩ (.int .i64 r.delay)).setCell ⟨b, 6, none⟩ (.int .i64 r.disp)).setCell ⟨b, 7, none⟩ (.int .i64 r.ref)).setCell ⟨b, 8, none⟩ (.int .i64 r.orig)).setCell ⟨b, 9, none⟩ (.int .i64 r.recv)).setCell ⟨b, 10, none⟩ (.int .i64 r.xmit)).heap[b]? = some (.cells #[.int .i64 r.leap, .int .i64 r.version, .int .i64 r.mode, .int .i64 r.stratum, .int .i64 r.poll, .int .i64 r.delay, .int .i64 r.disp, .int .i64 r.ref, .int .i64 r.orig, .int .i64 r.recv, .int .i64 r.xmit] T) := by
  simp [World.setCell, Array.getElem?_modify, h]
theorem packet_other {W : World} {b k : Nat} {o : Obj} (h : W.heap[k]? = some o) (hne : b ≠ k) (r : Pk) :
    (((((((((((W.setCell ⟨b, 0, none⟩ (.int .i64 r.leap)).setCell ⟨b, 1, none⟩ (.int .i64 r.version)).setCell ⟨b, 2, none⟩ (.int .i64 r.mode)).setCell ⟨b, 3, none⟩ (.int .i64 r.stratum)).setCell ⟨b, 4, none⟩ (.int .i64 r.poll)).setCell ⟨b, 5, none⟩ (.int .i64 r.delay)).setCell ⟨b, 6, none⟩ (.int .i64 r.disp)).setCell ⟨b, 7, none⟩ (.int .i64 r.ref)).setCell ⟨b, 8, none⟩ (.int .i64 r.orig)).setCell ⟨b, 9, none⟩ (.int .i64 r.recv)).setCell ⟨b, 10, none⟩ (.int .i64 r.xmit)).heap[k]? = some o := by
  simp [World.setCell, Array.getElem?_modify, hne, h]


set_option maxRecDepth 100000 in
set_option maxHeartbeats 8000000 in
theorem drawAnswered_c (x : Option Addr) (n cap : Nat) (w : World) (hc : Code w.heap.size w (.slice x n cap) n) (hn : n ≤ 1048576) : Calls Try.prog 11 #[.slice x n cap] w
    (fun e w' => ∃ (p : Pk) (a b c : Int), e = .returned (.tuple #[.agg #[.int .i64 p.leap, .int .i64 p.version, .int .i64 p.mode, .int .i64 p.stratum, .int .i64 p.poll, .int .i64 p.delay, .int .i64 p.disp, .int .i64 p.ref, .int .i64 p.orig, .int .i64 p.recv, .int .i64 p.xmit], .int .i64 a, .int .i64 b, .int .i64 c]) ∧ Below w.heap.size w w') := by
  have hc0 := hc.next (w' := w.alloc (.cells #[.int .i64 0, .int .i64 0, .int .i64 0, .int .i64 0, .int .i64 0, .int .i64 0, .int .i64 0, .int .i64 0, .int .i64 0, .int .i64 0, .int .i64 0] 27)) (by go_grown)
  go_enter Try.func11, Try.ntmps11
  go_wp2_with fail
  refine (open_c x n cap _).mono ?_
  rintro e w1 ⟨rfl, rfl⟩
  have hr1 := rd_open hc0 hn
  simp only [World.size_alloc] at hr1
  have hZ1 := blk_alloc (blk_new w (.cells #[.int .i64 0, .int .i64 0, .int .i64 0, .int .i64 0, .int .i64 0, .int .i64 0, .int .i64 0, .int .i64 0, .int .i64 0, .int .i64 0, .int .i64 0] 27)) (.cells #[.slice x n cap, .int .i64 0] 61)
  have g1 : Below w.heap.size w ((w.alloc (.cells #[.int .i64 0, .int .i64 0, .int .i64 0, .int .i64 0, .int .i64 0, .int .i64 0, .int .i64 0, .int .i64 0, .int .i64 0, .int .i64 0, .int .i64 0] 27)).alloc (.cells #[.slice x n cap, .int .i64 0] 61)) := by go_grown
  go_wp2_with fail
  refine (below_c _ 1073741824 1073741823 (by omega) (by omega) (by omega) _ hr1).mono ?_
  rintro e w2 ⟨t, t0, t1, rfl, hr2, hg2⟩
  have hZ2 := rd_block hg2 hZ1 (by omega)
  have g2 := grown_below g1 hg2 (by omega)
  go_wp2_with fail
  refine (below_c _ 7 6 (by omega) (by omega) (by omega) _ hr2).mono ?_
  rintro e w3 ⟨u, u0, u1, rfl, hr3, hg3⟩
  have hZ3 := rd_block hg3 hZ2 (by omega)
  have g3 := grown_below g2 hg3 (by omega)
  go_wp2_with fail
  refine (asked_spec _ _ _).mono ?_
  rintro e w4 ⟨rfl, hb4⟩
  obtain ⟨q, hq⟩ : ∃ q, askPk (1 + t) (4 + u) = q := ⟨_, rfl⟩
  rw [hq]
  have hZ4 := blk_next hb4 hZ3
  have hr4 := hr3.kept (below_grown hb4) (by simp)
  have g4 := grow_next g3 hb4
  have l4 : w.heap.size + 1 < w4.heap.size := by
    obtain ⟨_, _, _, hb, _⟩ := hr4
    exact (Array.getElem?_eq_some_iff.1 hb).1
  have hP5 := blk_new w4 (.cells #[.int .i64 q.leap, .int .i64 q.version, .int .i64 q.mode, .int .i64 q.stratum, .int .i64 q.poll, .int .i64 q.delay, .int .i64 q.disp, .int .i64 q.ref, .int .i64 q.orig, .int .i64 q.recv, .int .i64 q.xmit] 27)
  have hZ5 := blk_alloc hZ4 (.cells #[.int .i64 q.leap, .int .i64 q.version, .int .i64 q.mode, .int .i64 q.stratum, .int .i64 q.poll, .int .i64 q.delay, .int .i64 q.disp, .int .i64 q.ref, .int .i64 q.orig, .int .i64 q.recv, .int .i64 q.xmit] 27)
  have hr5 := hr4.kept (World.grownBy_alloc w4 (.cells #[.int .i64 q.leap, .int .i64 q.version, .int .i64 q.mode, .int .i64 q.stratum, .int .i64 q.poll, .int .i64 q.delay, .int .i64 q.disp, .int .i64 q.ref, .int .i64 q.orig, .int .i64 q.recv, .int .i64 q.xmit] 27) none) (by simp)
  have g5 : Below w.heap.size w (w4.alloc (.cells #[.int .i64 q.leap, .int .i64 q.version, .int .i64 q.mode, .int .i64 q.stratum, .int .i64 q.poll, .int .i64 q.delay, .int .i64 q.disp, .int .i64 q.ref, .int .i64 q.orig, .int .i64 q.recv, .int .i64 q.xmit] 27)) := g4.alloc (by omega) _
  clear hq hr1 hr2 hr3 hr4 hZ1 hZ2 hZ3 hZ4 hg2 hg3 hb4 g1 g2 g3 g4 hc hc0
  go_wp2_with fail
  refine (once_c _ 6 (by omega) (by omega) _ hr5).mono ?_
  rintro e w6 ⟨b, rfl, hr6, hg6⟩
  have hZ6 := rd_block hg6 hZ5 (by omega)
  have hP6 := rd_block hg6 hP5 (by omega)
  have g6 := grown_below g5 hg6 (by omega)
  have s6 := hg6.size
  simp only [World.size_alloc] at s6
  clear hr5 hZ5 hP5 hg6 g5
  cases b with
  | false =>
    go_wp2_with fail
    refine (time_c _ _ hr6).mono ?_
    rintro e w9 ⟨v, v0, v1, rfl, hr9, hg9⟩
    have hZ9 := rd_block hg9 hZ6 (by omega)
    have hP9 := rd_block hg9 hP6 (by omega)
    have g9 := grown_below g6 hg9 (by omega)
    obtain ⟨cx0, cx1, cx2, cx3, cx4, cx5, cx6, cx7, cx8, cx9, cx10⟩ := packet_cells hP9
    have hr9d := rd_drew1 hr9
    have hZ9d : w9.drew.heap[w.heap.size]? = some (.cells #[.int .i64 0, .int .i64 0, .int .i64 0, .int .i64 0, .int .i64 0, .int .i64 0, .int .i64 0, .int .i64 0, .int .i64 0, .int .i64 0, .int .i64 0] 27) := hZ9
    have hP9d : w9.drew.heap[w4.heap.size]? = some (.cells #[.int .i64 q.leap, .int .i64 q.version, .int .i64 q.mode, .int .i64 q.stratum, .int .i64 q.poll, .int .i64 q.delay, .int .i64 q.disp, .int .i64 q.ref, .int .i64 q.orig, .int .i64 q.recv, .int .i64 q.xmit] 27) := hP9
    have g9d := below_drew g9
    have HOFF := Lib.hid (off_c _ 1 15 (by omega) (by omega) (by omega) _ hr9d)
    clear hr6 hZ6 hP6 g6 hr9 hg9 hZ9 hP9 g9
    go_wp2_with fail
    go_region_with
      (first
        | (go_at_call 30; refine HOFF.out.mono ?_; rintro e wa ⟨oa, oa0, oa1, rfl, hra, hga⟩; have hZa := rd_block hga hZ9d (by omega); have hPa := rd_block hga hP9d (by omega); have ga := grown_below g9d hga (by omega); obtain ⟨ax0, ax1, ax2, ax3, ax4, ax5, ax6, ax7, ax8, ax9, ax10⟩ := packet_cells hPa; obtain ⟨bx0, bx1, bx2, bx3, bx4, bx5, bx6, bx7, bx8, bx9, bx10⟩ := packet_thaw (q := ⟨0, 0, 0, 0, 0, 0, 0, 0, 0, 0, 0⟩) hZa; obtain ⟨dx0, dx1, dx2, dx3, dx4, dx5, dx6, dx7, dx8, dx9, dx10⟩ := packet_cells (q := ⟨0, 0, 0, 0, 0, 0, 0, 0, 0, 0, 0⟩) hZa)
        | (go_at_call 31; refine (below_c _ 1000 999 (by omega) (by omega) (by omega) _ hra).mono ?_; rintro e wb ⟨ob, ob0, ob1, rfl, hrb, hgb⟩; have hZb := rd_block hgb hZa (by omega); have hPb := rd_block hgb hPa (by omega); have gb := grown_below ga hgb (by omega); obtain ⟨mx0, mx1, mx2, mx3, mx4, mx5, mx6, mx7, mx8, mx9, mx10⟩ := packet_cells hPb; obtain ⟨jx0, jx1, jx2, jx3, jx4, jx5, jx6, jx7, jx8, jx9, jx10⟩ := packet_thaw (q := ⟨0, 0, 0, 0, 0, 0, 0, 0, 0, 0, 0⟩) hZb; obtain ⟨kx0, kx1, kx2, kx3, kx4, kx5, kx6, kx7, kx8, kx9, kx10⟩ := packet_cells (q := ⟨0, 0, 0, 0, 0, 0, 0, 0, 0, 0, 0⟩) hZb))
    all_goals
      go_wp2_with fail
      obtain ⟨W, hW⟩ : ∃ W, W = (((((((((((wb.setCell ⟨w.heap.size, 0, none⟩ (.int .i64 q.leap)).setCell ⟨w.heap.size, 1, none⟩ (.int .i64 q.version)).setCell ⟨w.heap.size, 2, none⟩ (.int .i64 q.mode)).setCell ⟨w.heap.size, 3, none⟩ (.int .i64 q.stratum)).setCell ⟨w.heap.size, 4, none⟩ (.int .i64 q.poll)).setCell ⟨w.heap.size, 5, none⟩ (.int .i64 q.delay)).setCell ⟨w.heap.size, 6, none⟩ (.int .i64 q.disp)).setCell ⟨w.heap.size, 7, none⟩ (.int .i64 q.ref)).setCell ⟨w.heap.size, 8, none⟩ (.int .i64 q.orig)).setCell ⟨w.heap.size, 9, none⟩ (.int .i64 q.recv)).setCell ⟨w.heap.size, 10, none⟩ (.int .i64 q.xmit)) := ⟨_, rfl⟩
      have hK : W.heap[w.heap.size]? = some (.cells #[.int .i64 q.leap, .int .i64 q.version, .int .i64 q.mode, .int .i64 q.stratum, .int .i64 q.poll, .int .i64 q.delay, .int .i64 q.disp, .int .i64 q.ref, .int .i64 q.orig, .int .i64 q.recv, .int .i64 q.xmit] 27) := by
        rw [hW]
        exact packet_put (q := ⟨0, 0, 0, 0, 0, 0, 0, 0, 0, 0, 0⟩) hZb q
      have hG : Below w.heap.size w W := by
        rw [hW]
        repeat (refine below_put ?_ (by omega) _ _)
        exact gb
      rw [← hW]
      clear hW
      obtain ⟨rx0, rx1, rx2, rx3, rx4, rx5, rx6, rx7, rx8, rx9, rx10⟩ := packet_cells hK
      try simp only [Exit.inBlock, Exit.then]
      refine bodyPost_ret (by simp [results, Try.results11, go_sem, rx0, rx1, rx2, rx3, rx4, rx5, rx6, rx7, rx8, rx9, rx10]; try rfl) rfl ?_
      exact ⟨q, _, _, _, rfl, hG⟩
  | true =>
    go_wp2_with fail
    refine (packet_c _ _ hr6).mono ?_
    rintro e w7 ⟨p, rfl, hr7, hg7⟩
    have hZ7 := rd_block hg7 hZ6 (by omega)
    have hP7 := rd_block hg7 hP6 (by omega)
    have g7 := grown_below g6 hg7 (by omega)
    obtain ⟨y0, y1, y2, y3, y4, y5, y6, y7, y8, y9, y10⟩ := packet_thaw hP7
    obtain ⟨z0, z1, z2, z3, z4, z5, z6, z7, z8, z9, z10⟩ := packet_cells hP7
    go_wp2_with fail
    obtain ⟨W, hW⟩ : ∃ W, W = (((((((((((w7.setCell ⟨w4.heap.size, 0, none⟩ (.int .i64 p.leap)).setCell ⟨w4.heap.size, 1, none⟩ (.int .i64 p.version)).setCell ⟨w4.heap.size, 2, none⟩ (.int .i64 p.mode)).setCell ⟨w4.heap.size, 3, none⟩ (.int .i64 p.stratum)).setCell ⟨w4.heap.size, 4, none⟩ (.int .i64 p.poll)).setCell ⟨w4.heap.size, 5, none⟩ (.int .i64 p.delay)).setCell ⟨w4.heap.size, 6, none⟩ (.int .i64 p.disp)).setCell ⟨w4.heap.size, 7, none⟩ (.int .i64 p.ref)).setCell ⟨w4.heap.size, 8, none⟩ (.int .i64 p.orig)).setCell ⟨w4.heap.size, 9, none⟩ (.int .i64 p.recv)).setCell ⟨w4.heap.size, 10, none⟩ (.int .i64 p.xmit)) := ⟨_, rfl⟩
    have hP8 : W.heap[w4.heap.size]? = some (.cells #[.int .i64 p.leap, .int .i64 p.version, .int .i64 p.mode, .int .i64 p.stratum, .int .i64 p.poll, .int .i64 p.delay, .int .i64 p.disp, .int .i64 p.ref, .int .i64 p.orig, .int .i64 p.recv, .int .i64 p.xmit] 27) := by
      rw [hW]
      exact packet_put hP7 p
    have hZ8 : W.heap[w.heap.size]? = some (.cells #[.int .i64 0, .int .i64 0, .int .i64 0, .int .i64 0, .int .i64 0, .int .i64 0, .int .i64 0, .int .i64 0, .int .i64 0, .int .i64 0, .int .i64 0] 27) := by
      rw [hW]
      exact packet_other hZ7 (by omega) p
    have hr8 : Rd W (w.heap.size + 1) := by
      rw [hW]
      repeat (refine rd_put ?_ (by omega))
      exact hr7
    have g8 : Below w.heap.size w W := by
      rw [hW]
      repeat (refine below_put ?_ (by omega) _ _)
      exact g7
    rw [← hW]
    clear hW hZ7 hP7 hr7 hg7 g7 hr6 hZ6 hP6 g6 y0 y1 y2 y3 y4 y5 y6 y7 y8 y9 y10 z0 z1 z2 z3 z4 z5 z6 z7 z8 z9 z10
    go_wp2_with fail
    refine (time_c _ _ hr8).mono ?_
    rintro e w9 ⟨v, v0, v1, rfl, hr9, hg9⟩
    have hZ9 := rd_block hg9 hZ8 (by omega)
    have hP9 := rd_block hg9 hP8 (by omega)
    have g9 := grown_below g8 hg9 (by omega)
    obtain ⟨cx0, cx1, cx2, cx3, cx4, cx5, cx6, cx7, cx8, cx9, cx10⟩ := packet_cells hP9
    have hr9d := rd_drew1 hr9
    have hZ9d : w9.drew.heap[w.heap.size]? = some (.cells #[.int .i64 0, .int .i64 0, .int .i64 0, .int .i64 0, .int .i64 0, .int .i64 0, .int .i64 0, .int .i64 0, .int .i64 0, .int .i64 0, .int .i64 0] 27) := hZ9
    have hP9d : w9.drew.heap[w4.heap.size]? = some (.cells #[.int .i64 p.leap, .int .i64 p.version, .int .i64 p.mode, .int .i64 p.stratum, .int .i64 p.poll, .int .i64 p.delay, .int .i64 p.disp, .int .i64 p.ref, .int .i64 p.orig, .int .i64 p.recv, .int .i64 p.xmit] 27) := hP9
    have g9d := below_drew g9
    have HOFF := Lib.hid (off_c _ 1 15 (by omega) (by omega) (by omega) _ hr9d)
    clear hr8 hZ8 hP8 g8 hr9 hg9 hZ9 hP9 g9
    go_wp2_with fail
    go_region_with
      (first
        | (go_at_call 30; refine HOFF.out.mono ?_; rintro e wa ⟨oa, oa0, oa1, rfl, hra, hga⟩; have hZa := rd_block hga hZ9d (by omega); have hPa := rd_block hga hP9d (by omega); have ga := grown_below g9d hga (by omega); obtain ⟨ax0, ax1, ax2, ax3, ax4, ax5, ax6, ax7, ax8, ax9, ax10⟩ := packet_cells hPa; obtain ⟨bx0, bx1, bx2, bx3, bx4, bx5, bx6, bx7, bx8, bx9, bx10⟩ := packet_thaw (q := ⟨0, 0, 0, 0, 0, 0, 0, 0, 0, 0, 0⟩) hZa; obtain ⟨dx0, dx1, dx2, dx3, dx4, dx5, dx6, dx7, dx8, dx9, dx10⟩ := packet_cells (q := ⟨0, 0, 0, 0, 0, 0, 0, 0, 0, 0, 0⟩) hZa)
        | (go_at_call 31; refine (below_c _ 1000 999 (by omega) (by omega) (by omega) _ hra).mono ?_; rintro e wb ⟨ob, ob0, ob1, rfl, hrb, hgb⟩; have hZb := rd_block hgb hZa (by omega); have hPb := rd_block hgb hPa (by omega); have gb := grown_below ga hgb (by omega); obtain ⟨mx0, mx1, mx2, mx3, mx4, mx5, mx6, mx7, mx8, mx9, mx10⟩ := packet_cells hPb; obtain ⟨jx0, jx1, jx2, jx3, jx4, jx5, jx6, jx7, jx8, jx9, jx10⟩ := packet_thaw (q := ⟨0, 0, 0, 0, 0, 0, 0, 0, 0, 0, 0⟩) hZb; obtain ⟨kx0, kx1, kx2, kx3, kx4, kx5, kx6, kx7, kx8, kx9, kx10⟩ := packet_cells (q := ⟨0, 0, 0, 0, 0, 0, 0, 0, 0, 0, 0⟩) hZb))
    all_goals
      go_wp2_with fail
      obtain ⟨W, hW⟩ : ∃ W, W = (((((((((((wb.setCell ⟨w.heap.size, 0, none⟩ (.int .i64 p.leap)).setCell ⟨w.heap.size, 1, none⟩ (.int .i64 p.version)).setCell ⟨w.heap.size, 2, none⟩ (.int .i64 p.mode)).setCell ⟨w.heap.size, 3, none⟩ (.int .i64 p.stratum)).setCell ⟨w.heap.size, 4, none⟩ (.int .i64 p.poll)).setCell ⟨w.heap.size, 5, none⟩ (.int .i64 p.delay)).setCell ⟨w.heap.size, 6, none⟩ (.int .i64 p.disp)).setCell ⟨w.heap.size, 7, none⟩ (.int .i64 p.ref)).setCell ⟨w.heap.size, 8, none⟩ (.int .i64 p.orig)).setCell ⟨w.heap.size, 9, none⟩ (.int .i64 p.recv)).setCell ⟨w.heap.size, 10, none⟩ (.int .i64 p.xmit)) := ⟨_, rfl⟩
      have hK : W.heap[w.heap.size]? = some (.cells #[.int .i64 p.leap, .int .i64 p.version, .int .i64 p.mode, .int .i64 p.stratum, .int .i64 p.poll, .int .i64 p.delay, .int .i64 p.disp, .int .i64 p.ref, .int .i64 p.orig, .int .i64 p.recv, .int .i64 p.xmit] 27) := by
        rw [hW]
        exact packet_put (q := ⟨0, 0, 0, 0, 0, 0, 0, 0, 0, 0, 0⟩) hZb p
      have hG : Below w.heap.size w W := by
        rw [hW]
        repeat (refine below_put ?_ (by omega) _ _)
        exact gb
      rw [← hW]
      clear hW
      obtain ⟨rx0, rx1, rx2, rx3, rx4, rx5, rx6, rx7, rx8, rx9, rx10⟩ := packet_cells hK
      try simp only [Exit.inBlock, Exit.then]
      refine bodyPost_ret (by simp [results, Try.results11, go_sem, rx0, rx1, rx2, rx3, rx4, rx5, rx6, rx7, rx8, rx9, rx10]; try rfl) rfl ?_
      exact ⟨p, _, _, _, rfl, hG⟩
end Go.Proofs.Ytdogfcmedlgnaaa
