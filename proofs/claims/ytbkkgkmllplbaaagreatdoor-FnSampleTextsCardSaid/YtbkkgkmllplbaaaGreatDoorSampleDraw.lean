/- The reference's drawing of samples: some sample; nothing that lay has turned. -/
import Derived.Test.YtbkkgkmllplbaaaGreatDoorDraw0
import Derived.Test.YtbkkgkmllplbaaaGreatDoorSampleOk
namespace Go.Proofs.YtbkkgkmllplbaaaGreatDoor
open Go.ChangeShapes Go.WideShapes Go.ChangeAt Go.RowKit
set_option linter.unusedVariables false
set_option linter.unusedSimpArgs false

theorem rd_put {w : World} {a b o : Nat} {v : Value} (h : Rd w a) (hb : a < b) : Rd (w.setCell ⟨b, o, none⟩ v) a :=
  h.kept (row := some b) ⟨rfl, rfl, rfl, by simp [World.setCell], fun k _ hk => by
    have hk' : b ≠ k := fun e => hk (by rw [e])
    simp [World.setCell, Array.getElem?_modify, hk']⟩ (fun k e => by cases e; exact hb)

theorem grown_put {u w : World} {b o : Nat} {v : Value} {row : Option Nat} (h : u.grownBy w row) (hb : u.heap.size ≤ b) : u.grownBy (w.setCell ⟨b, o, none⟩ v) row :=
  ⟨h.os, h.tape, h.output, by have := h.size; simpa [World.setCell] using this, fun k hk hne => by
    have hk' : b ≠ k := by omega
    rw [← h.block k hk hne]
    simp [World.setCell, Array.getElem?_modify, hk']⟩

/-- Some sample at this time, the reader where it stood. -/
def RdSm (at' : Int) (a : Nat) (w : World) : Ending → World → Prop := fun e w' => ∃ s : Sm, s.at_ = at' ∧ e = .returned (.agg #[.int .i64 s.off, .int .i64 s.delay, .int .i64 s.disp, .int .i64 s.at_]) ∧ Rd w' a ∧ w.grownBy w' (some a)

set_option maxHeartbeats 2000000 in
theorem sample_c (at' : Int) (a : Nat) (w : World) (h : Rd w a) : Calls Tryz.prog 29 #[.pointer (some ⟨a, 0, none⟩), .int .i64 at'] w (RdSm at' a w) := by
  have ha : a < w.heap.size := by
    obtain ⟨_, _, _, hb, _⟩ := h
    exact (Array.getElem?_eq_some_iff.1 hb).1
  go_enter Tryz.func29, Tryz.ntmps29
  go_wp2_with fail
  refine (below_c _ 20000 19999 (by omega) (by omega) (by omega) _ (h.kept (World.grownBy_alloc w _ none) (by simp))).mono ?_
  rintro e w1 ⟨o, o0, o1, rfl, hr1, hg1⟩
  go_wp2_with fail
  refine (below_c _ 30000 29999 (by omega) (by omega) (by omega) _ hr1).mono ?_
  rintro e w2 ⟨d, d0, d1, rfl, hr2, hg2⟩
  have hg2 := grown_trans hg1 hg2
  go_wp2_with fail
  refine (below_c _ 2000 1999 (by omega) (by omega) (by omega) _ hr2).mono ?_
  rintro e w3 ⟨p, p0, p1, rfl, hr3, hg3⟩
  have hg3 := grown_trans hg2 hg3
  go_wp2_with fail
  have s3 := hg3.size
  simp only [World.size_alloc] at s3
  refine (below_c _ 40 39 (by omega) (by omega) (by omega) _ (hr3.kept (World.grownBy_alloc w3 _ none) (by simp))).mono ?_
  rintro e w4 ⟨c, c0, c1, rfl, hr4, hg4⟩
  have s4 := hg4.size
  simp only [World.size_alloc] at s4
  have hZ3 : w3.heap[w.heap.size]? = some (.cells #[.int .i64 0, .int .i64 0, .int .i64 0, .int .i64 0] 23) := (hg3.block _ (by simp) (fun e => by simp only [Option.some.injEq] at e; omega)).trans (blk_new w _)
  have hZ4 : w4.heap[w.heap.size]? = some (.cells #[.int .i64 0, .int .i64 0, .int .i64 0, .int .i64 0] 23) := (hg4.block _ (by simp; omega) (fun e => by simp only [Option.some.injEq] at e; omega)).trans (blk_alloc hZ3 _)
  have hP4 : w4.heap[w3.heap.size]? = some (.cells #[.int .i64 (o - 10000), .int .i64 d, .int .i64 p, .int .i64 at'] 23) := (hg4.block _ (by simp) (fun e => by simp only [Option.some.injEq] at e; omega)).trans (blk_new w3 _)
  have G4 : w.grownBy w4 (some a) := grown_trans (grown_trans (World.grownBy_alloc w _ _) hg3) (grown_trans (World.grownBy_alloc w3 _ _) hg4)
  by_cases e38 : c = 38
  · subst e38
    go_wp2_with fail
    refine (off_c _ (-1000000000000) 1000000000000 (by omega) (by omega) (by omega) _ hr4).mono ?_
    rintro e w5 ⟨u, u0, u1, rfl, hr5, hg5⟩
    have hZ5 := (hg5.block _ (Array.getElem?_eq_some_iff.1 hZ4).1 (fun e => by simp only [Option.some.injEq] at e; omega)).trans hZ4
    have hP5 := (hg5.block _ (Array.getElem?_eq_some_iff.1 hP4).1 (fun e => by simp only [Option.some.injEq] at e; omega)).trans hP4
    have hZ6 : (w5.setCell ⟨w3.heap.size, 0, none⟩ (.int .i64 u)).heap[w.heap.size]? = some (.cells #[.int .i64 0, .int .i64 0, .int .i64 0, .int .i64 0] 23) := by
      have : w3.heap.size ≠ w.heap.size := by omega
      simp [World.setCell, Array.getElem?_modify, this, hZ5]
    have hP6 : (w5.setCell ⟨w3.heap.size, 0, none⟩ (.int .i64 u)).heap[w3.heap.size]? = some (.cells #[.int .i64 u, .int .i64 d, .int .i64 p, .int .i64 at'] 23) := by
      simp [World.setCell, Array.getElem?_modify, hP5]
    obtain ⟨Z0, Z1, Z2, Z3⟩ := sample_cells (q := ⟨0, 0, 0, 0⟩) hZ6
    obtain ⟨Y0, Y1, Y2, Y3⟩ := sample_thaw (q := ⟨0, 0, 0, 0⟩) hZ6
    obtain ⟨C0, C1, C2, C3⟩ := sample_cells (q := ⟨u, d, p, at'⟩) hP6
    have B0 := (sample_cells (q := ⟨o - 10000, d, p, at'⟩) hP5).1
    have D0 := (sample_thaw (q := ⟨o - 10000, d, p, at'⟩) hP5).1
    dsimp only at C0 C1 C2 C3 B0 D0
    go_wp2_with fail
    obtain ⟨W, hW⟩ : ∃ W, W = (((((w5.setCell ⟨w3.heap.size, 0, none⟩ (.int .i64 u)).setCell ⟨w.heap.size, 0, none⟩ (.int .i64 (u))).setCell ⟨w.heap.size, 1, none⟩ (.int .i64 (d))).setCell ⟨w.heap.size, 2, none⟩ (.int .i64 (p))).setCell ⟨w.heap.size, 3, none⟩ (.int .i64 (at'))) := ⟨_, rfl⟩
    have K : W.heap[w.heap.size]? = some (.cells #[.int .i64 (u), .int .i64 (d), .int .i64 (p), .int .i64 (at')] 23) := by
      rw [hW]
      exact sample_put (q := ⟨0, 0, 0, 0⟩) hZ6 ⟨u, d, p, at'⟩
    obtain ⟨R0, R1, R2, R3⟩ := sample_cells (q := ⟨u, d, p, at'⟩) K
    dsimp only at R0 R1 R2 R3
    have hWr : Rd W a := by
      subst hW
      repeat (refine rd_put ?_ (by omega))
      exact hr5
    have hWg : w.grownBy W (some a) := by
      subst hW
      repeat (refine grown_put ?_ (by omega))
      exact (grown_trans G4 hg5)
    rw [← hW]
    clear hW
    try simp only [Exit.inBlock, Exit.then]
    refine bodyPost_ret (by simp [results, Tryz.results29, go_sem, R0, R1, R2, R3]; try rfl) rfl ?_
    exact ⟨⟨u, d, p, at'⟩, rfl, rfl, hWr, hWg⟩
  · by_cases e39 : c = 39
    · subst e39
      go_wp2_with fail
      refine (off_c _ 0 1000000000000 (by omega) (by omega) (by omega) _ hr4).mono ?_
      rintro e w5 ⟨u, u0, u1, rfl, hr5, hg5⟩
      have hZ5 := (hg5.block _ (Array.getElem?_eq_some_iff.1 hZ4).1 (fun e => by simp only [Option.some.injEq] at e; omega)).trans hZ4
      have hP5 := (hg5.block _ (Array.getElem?_eq_some_iff.1 hP4).1 (fun e => by simp only [Option.some.injEq] at e; omega)).trans hP4
      have hZ6 : (w5.setCell ⟨w3.heap.size, 1, none⟩ (.int .i64 u)).heap[w.heap.size]? = some (.cells #[.int .i64 0, .int .i64 0, .int .i64 0, .int .i64 0] 23) := by
        have : w3.heap.size ≠ w.heap.size := by omega
        simp [World.setCell, Array.getElem?_modify, this, hZ5]
      have hP6 : (w5.setCell ⟨w3.heap.size, 1, none⟩ (.int .i64 u)).heap[w3.heap.size]? = some (.cells #[.int .i64 (o - 10000), .int .i64 u, .int .i64 p, .int .i64 at'] 23) := by
        simp [World.setCell, Array.getElem?_modify, hP5]
      obtain ⟨Z0, Z1, Z2, Z3⟩ := sample_cells (q := ⟨0, 0, 0, 0⟩) hZ6
      obtain ⟨Y0, Y1, Y2, Y3⟩ := sample_thaw (q := ⟨0, 0, 0, 0⟩) hZ6
      obtain ⟨C0, C1, C2, C3⟩ := sample_cells (q := ⟨o - 10000, u, p, at'⟩) hP6
      have B0 := (sample_cells (q := ⟨o - 10000, d, p, at'⟩) hP5).2.1
      have D0 := (sample_thaw (q := ⟨o - 10000, d, p, at'⟩) hP5).2.1
      dsimp only at C0 C1 C2 C3 B0 D0
      go_wp2_with fail
      obtain ⟨W, hW⟩ : ∃ W, W = (((((w5.setCell ⟨w3.heap.size, 1, none⟩ (.int .i64 u)).setCell ⟨w.heap.size, 0, none⟩ (.int .i64 (o - 10000))).setCell ⟨w.heap.size, 1, none⟩ (.int .i64 (u))).setCell ⟨w.heap.size, 2, none⟩ (.int .i64 (p))).setCell ⟨w.heap.size, 3, none⟩ (.int .i64 (at'))) := ⟨_, rfl⟩
      have K : W.heap[w.heap.size]? = some (.cells #[.int .i64 (o - 10000), .int .i64 (u), .int .i64 (p), .int .i64 (at')] 23) := by
        rw [hW]
        exact sample_put (q := ⟨0, 0, 0, 0⟩) hZ6 ⟨o - 10000, u, p, at'⟩
      obtain ⟨R0, R1, R2, R3⟩ := sample_cells (q := ⟨o - 10000, u, p, at'⟩) K
      dsimp only at R0 R1 R2 R3
      have hWr : Rd W a := by
        subst hW
        repeat (refine rd_put ?_ (by omega))
        exact hr5
      have hWg : w.grownBy W (some a) := by
        subst hW
        repeat (refine grown_put ?_ (by omega))
        exact (grown_trans G4 hg5)
      rw [← hW]
      clear hW
      try simp only [Exit.inBlock, Exit.then]
      refine bodyPost_ret (by simp [results, Tryz.results29, go_sem, R0, R1, R2, R3]; try rfl) rfl ?_
      exact ⟨⟨o - 10000, u, p, at'⟩, rfl, rfl, hWr, hWg⟩
    · obtain ⟨Z0, Z1, Z2, Z3⟩ := sample_cells (q := ⟨0, 0, 0, 0⟩) hZ4
      obtain ⟨Y0, Y1, Y2, Y3⟩ := sample_thaw (q := ⟨0, 0, 0, 0⟩) hZ4
      obtain ⟨C0, C1, C2, C3⟩ := sample_cells (q := ⟨o - 10000, d, p, at'⟩) hP4
      dsimp only at C0 C1 C2 C3
      go_wp2_with fail
      obtain ⟨W, hW⟩ : ∃ W, W = ((((w4.setCell ⟨w.heap.size, 0, none⟩ (.int .i64 (o - 10000))).setCell ⟨w.heap.size, 1, none⟩ (.int .i64 (d))).setCell ⟨w.heap.size, 2, none⟩ (.int .i64 (p))).setCell ⟨w.heap.size, 3, none⟩ (.int .i64 (at'))) := ⟨_, rfl⟩
      have K : W.heap[w.heap.size]? = some (.cells #[.int .i64 (o - 10000), .int .i64 (d), .int .i64 (p), .int .i64 (at')] 23) := by
        rw [hW]
        exact sample_put (q := ⟨0, 0, 0, 0⟩) hZ4 ⟨o - 10000, d, p, at'⟩
      obtain ⟨R0, R1, R2, R3⟩ := sample_cells (q := ⟨o - 10000, d, p, at'⟩) K
      dsimp only at R0 R1 R2 R3
      have hWr : Rd W a := by
        subst hW
        repeat (refine rd_put ?_ (by omega))
        exact hr4
      have hWg : w.grownBy W (some a) := by
        subst hW
        repeat (refine grown_put ?_ (by omega))
        exact G4
      rw [← hW]
      clear hW
      try simp only [Exit.inBlock, Exit.then]
      refine bodyPost_ret (by simp [results, Tryz.results29, go_sem, R0, R1, R2, R3]; try rfl) rfl ?_
      exact ⟨⟨o - 10000, d, p, at'⟩, rfl, rfl, hWr, hWg⟩
end Go.Proofs.YtbkkgkmllplbaaaGreatDoor
