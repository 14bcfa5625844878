/- The reader's packet: some packet, the reader where it stood. -/
import Derived.Test.YteecemjbkpkpaaaDoorDraw2
namespace Go.Proofs.YteecemjbkpkpaaaDoor
open Go.ChangeShapes Go.WideShapes Go.ChangeAt Go.RowKit
set_option linter.unusedVariables false
set_option linter.unusedSimpArgs false

theorem cell_put {w : World} {a : Addr} {v : Value} (h : (w.cell? a).isSome = true) : (w.setCell a v).cell? a = some v := by
  obtain ⟨u, hu⟩ := Option.isSome_iff_exists.1 h
  exact World.cell?_setCell_same _ _ _ hu

theorem packet_thaw {W : World} {b : Nat} {T : TypeId} {q : Pk} (h : W.heap[b]? = some (.cells #[.int .i64 q.leap, .int .i64 q.version, .int .i64 q.mode, .int .i64 q.stratum, .int .i64 q.poll, .int .i64 q.delay, .int .i64 q.disp, .int .i64 q.ref, .int .i64 q.orig, .int .i64 q.recv, .int .i64 q.xmit] T)) : W.frozen? ⟨b, 0, none⟩ = false ∧ W.frozen? ⟨b, 1, none⟩ = false ∧ W.frozen? ⟨b, 2, none⟩ = false ∧ W.frozen? ⟨b, 3, none⟩ = false ∧ W.frozen? ⟨b, 4, none⟩ = false ∧ W.frozen? ⟨b, 5, none⟩ = false ∧ W.frozen? ⟨b, 6, none⟩ = false ∧ W.frozen? ⟨b, 7, none⟩ = false ∧ W.frozen? ⟨b, 8, none⟩ = false ∧ W.frozen? ⟨b, 9, none⟩ = false ∧ W.frozen? ⟨b, 10, none⟩ = false := by
  refine ⟨?_, ?_, ?_, ?_, ?_, ?_, ?_, ?_, ?_, ?_, ?_⟩ <;> simp [World.frozen?, h]

theorem rd_put {w : World} {a b o : Nat} {v : Value} (h : Rd w a) (hb : a < b) : Rd (w.setCell ⟨b, o, none⟩ v) a :=
  h.kept (row := some b) ⟨rfl, rfl, rfl, by simp [World.setCell], fun k _ hk => by
    have hk' : b ≠ k := fun e => hk (by rw [e])
    simp [World.setCell, Array.getElem?_modify, hk']⟩ (fun k e => by cases e; exact hb)

theorem grown_put {u w : World} {b o : Nat} {v : Value} {row : Option Nat} (h : u.grownBy w row) (hb : u.heap.size ≤ b) : u.grownBy (w.setCell ⟨b, o, none⟩ v) row :=
  ⟨h.os, h.tape, h.output, by have := h.size; simpa [World.setCell] using this, fun k hk hne => by
    have hk' : b ≠ k := by omega
    rw [← h.block k hk hne]
    simp [World.setCell, Array.getElem?_modify, hk']⟩

/-- Some packet, the reader where it stood. -/
def RdPk (a : Nat) (w : World) : Ending → World → Prop := fun e w' => ∃ p : Pk, e = .returned (.agg #[.int .i64 p.leap, .int .i64 p.version, .int .i64 p.mode, .int .i64 p.stratum, .int .i64 p.poll, .int .i64 p.delay, .int .i64 p.disp, .int .i64 p.ref, .int .i64 p.orig, .int .i64 p.recv, .int .i64 p.xmit]) ∧ Rd w' a ∧ w.grownBy w' (some a)

set_option maxHeartbeats 4000000 in
theorem packet_c (a : Nat) (w : World) (h : Rd w a) : Calls Tryd.prog 13 #[.pointer (some ⟨a, 0, none⟩)] w (RdPk a w) := by
  have ha : a < w.heap.size := by
    obtain ⟨_, _, _, hb, _⟩ := h
    exact (Array.getElem?_eq_some_iff.1 hb).1
  go_enter Tryd.func13, Tryd.ntmps13
  go_wp2_with fail
  refine (below_c _ 4 3 (by omega) (by omega) (by omega) _ (h.kept (World.grownBy_alloc w _ none) (by simp))).mono ?_
  rintro e w1 ⟨l, l0, l1, rfl, hr1, hg1⟩
  go_wp2_with fail
  refine (below_c _ 4 3 (by omega) (by omega) (by omega) _ hr1).mono ?_
  rintro e w2 ⟨v, v0, v1, rfl, hr2, hg2⟩
  have hg2 := grown_trans hg1 hg2
  go_wp2_with fail
  refine (below_c _ 7 6 (by omega) (by omega) (by omega) _ hr2).mono ?_
  rintro e w3 ⟨m, m0, m1, rfl, hr3, hg3⟩
  have hg3 := grown_trans hg2 hg3
  go_wp2_with fail
  refine (below_c _ 17 16 (by omega) (by omega) (by omega) _ hr3).mono ?_
  rintro e w4 ⟨s, s0, s1, rfl, hr4, hg4⟩
  have hg4 := grown_trans hg3 hg4
  go_wp2_with fail
  refine (below_c _ 18 17 (by omega) (by omega) (by omega) _ hr4).mono ?_
  rintro e w5 ⟨p, p0, p1, rfl, hr5, hg5⟩
  have hg5 := grown_trans hg4 hg5
  go_wp2_with fail
  refine (below_c _ 1048576 1048575 (by omega) (by omega) (by omega) _ hr5).mono ?_
  rintro e w6 ⟨d, d0, d1, rfl, hr6, hg6⟩
  have hg6 := grown_trans hg5 hg6
  go_wp2_with fail
  refine (below_c _ 1048576 1048575 (by omega) (by omega) (by omega) _ hr6).mono ?_
  rintro e w7 ⟨q, q0, q1, rfl, hr7, hg7⟩
  have hg7 := grown_trans hg6 hg7
  go_wp2_with fail
  refine (time_c _ _ hr7).mono ?_
  rintro e w8 ⟨t, t0, t1, rfl, hr8, hg8⟩
  have hg8 := grown_trans hg7 hg8
  go_wp2_with fail
  refine (time_c _ _ hr8).mono ?_
  rintro e w9 ⟨o, o0, o1, rfl, hr9, hg9⟩
  have hg9 := grown_trans hg8 hg9
  go_wp2_with fail
  refine (time_c _ _ hr9).mono ?_
  rintro e w10 ⟨r, r0, r1, rfl, hr10, hg10⟩
  have hg10 := grown_trans hg9 hg10
  go_wp2_with fail
  refine (time_c _ _ hr10).mono ?_
  rintro e w11 ⟨x, x0, x1, rfl, hr11, hg11⟩
  have hg11 := grown_trans hg10 hg11
  go_wp2_with fail
  have G := grown_trans (World.grownBy_alloc w _ _) hg11
  have hs : w.heap.size < w11.heap.size := by
    have h1 := hg11.size
    simp only [World.size_alloc] at h1
    omega
  have hZ : w11.heap[w.heap.size]? = _ := (hg11.block _ (by simp) (fun e => by simp only [Option.some.injEq] at e; omega)).trans (blk_new w _)
  clear hg1 hg2 hg3 hg4 hg5 hg6 hg7 hg8 hg9 hg10 hg11
  refine (below_c _ 20 19 (by omega) (by omega) (by omega) _ (hr11.kept (World.grownBy_alloc w11 _ none) (by simp))).mono ?_
  rintro e w12 ⟨c, c0, c1, rfl, hr12, hg12⟩
  have hP : w12.heap[w11.heap.size]? = _ := (hg12.block _ (by simp) (fun e => by simp only [Option.some.injEq] at e; omega)).trans (blk_new w11 _)
  have hZ2 : w12.heap[w.heap.size]? = _ := (hg12.block _ (by simp; omega) (fun e => by simp only [Option.some.injEq] at e; omega)).trans ((World.grownBy_alloc w11 _ none).block _ hs (by simp) |>.trans hZ)
  obtain ⟨C0, C1, C2, C3, C4, C5, C6, C7, C8, C9, C10⟩ := packet_cells (q := ⟨l, 1 + v, 1 + m, s, p, d, q, t, o, r, x⟩) hP
  obtain ⟨Z0, Z1, Z2, Z3, Z4, Z5, Z6, Z7, Z8, Z9, Z10⟩ := packet_cells (q := ⟨0, 0, 0, 0, 0, 0, 0, 0, 0, 0, 0⟩) hZ2
  obtain ⟨Y0, Y1, Y2, Y3, Y4, Y5, Y6, Y7, Y8, Y9, Y10⟩ := packet_thaw (q := ⟨0, 0, 0, 0, 0, 0, 0, 0, 0, 0, 0⟩) hZ2
  have G2 := grown_trans G (grown_trans (World.grownBy_alloc w11 _ _) hg12)
  by_cases e18 : c = 18
  · subst e18
    go_wp2_with fail
    refine (off_c _ 1 7 (by omega) (by omega) (by omega) _ hr12).mono ?_
    rintro e w13 ⟨u, u0, u1, rfl, hr13, hg13⟩
    have hP3 : w13.heap[w11.heap.size]? = _ := (hg13.block _ (by have := hg12.size; simp at this; omega) (fun e => by simp only [Option.some.injEq] at e; omega)).trans hP
    have hZ3 : w13.heap[w.heap.size]? = _ := (hg13.block _ (by have := hg12.size; simp at this; omega) (fun e => by simp only [Option.some.injEq] at e; omega)).trans hZ2
    clear Y0 Y1 Y2 Y3 Y4 Y5 Y6 Y7 Y8 Y9 Y10 Z0 Z1 Z2 Z3 Z4 Z5 Z6 Z7 Z8 Z9 Z10 C0 C1 C2 C3 C4 C5 C6 C7 C8 C9 C10
    obtain ⟨Z0, Z1, Z2, Z3, Z4, Z5, Z6, Z7, Z8, Z9, Z10⟩ := packet_cells (q := ⟨0, 0, 0, 0, 0, 0, 0, 0, 0, 0, 0⟩) hZ3
    obtain ⟨Y0, Y1, Y2, Y3, Y4, Y5, Y6, Y7, Y8, Y9, Y10⟩ := packet_thaw (q := ⟨0, 0, 0, 0, 0, 0, 0, 0, 0, 0, 0⟩) hZ3
    obtain ⟨C0, C1, C2, C3, C4, C5, C6, C7, C8, C9, C10⟩ := packet_cells (q := ⟨l, 1 + v, 1 + m, s, p, d, q, t, o, r, x⟩) hP3
    obtain ⟨D0, D1, D2, D3, D4, D5, D6, D7, D8, D9, D10⟩ := packet_thaw (q := ⟨l, 1 + v, 1 + m, s, p, d, q, t, o, r, x⟩) hP3
    go_wp2_with fail
    have hne : w11.heap.size ≠ w.heap.size := by omega
    obtain ⟨W, hW⟩ : ∃ W, W = ((((((((((((w13.setCell ⟨w11.heap.size, 2, none⟩ (.int .i64 u)).setCell ⟨w.heap.size, 0, none⟩ (.int .i64 l)).setCell ⟨w.heap.size, 1, none⟩ (.int .i64 (1 + v))).setCell ⟨w.heap.size, 2, none⟩ (.int .i64 u)).setCell ⟨w.heap.size, 3, none⟩ (.int .i64 s)).setCell ⟨w.heap.size, 4, none⟩ (.int .i64 p)).setCell ⟨w.heap.size, 5, none⟩ (.int .i64 d)).setCell ⟨w.heap.size, 6, none⟩ (.int .i64 q)).setCell ⟨w.heap.size, 7, none⟩ (.int .i64 t)).setCell ⟨w.heap.size, 8, none⟩ (.int .i64 o)).setCell ⟨w.heap.size, 9, none⟩ (.int .i64 r)).setCell ⟨w.heap.size, 10, none⟩ (.int .i64 x)) := ⟨_, rfl⟩
    have R : W.cell? ⟨w.heap.size, 0, none⟩ = some (.int .i64 l) ∧ W.cell? ⟨w.heap.size, 1, none⟩ = some (.int .i64 (1 + v)) ∧ W.cell? ⟨w.heap.size, 2, none⟩ = some (.int .i64 u) ∧ W.cell? ⟨w.heap.size, 3, none⟩ = some (.int .i64 s) ∧ W.cell? ⟨w.heap.size, 4, none⟩ = some (.int .i64 p) ∧ W.cell? ⟨w.heap.size, 5, none⟩ = some (.int .i64 d) ∧ W.cell? ⟨w.heap.size, 6, none⟩ = some (.int .i64 q) ∧ W.cell? ⟨w.heap.size, 7, none⟩ = some (.int .i64 t) ∧ W.cell? ⟨w.heap.size, 8, none⟩ = some (.int .i64 o) ∧ W.cell? ⟨w.heap.size, 9, none⟩ = some (.int .i64 r) ∧ W.cell? ⟨w.heap.size, 10, none⟩ = some (.int .i64 x) := by
      subst hW
      refine ⟨?_, ?_, ?_, ?_, ?_, ?_, ?_, ?_, ?_, ?_, ?_⟩ <;> simp [cell_put, World.cell?_setCell_other, hne, Z0, Z1, Z2, Z3, Z4, Z5, Z6, Z7, Z8, Z9, Z10]
    obtain ⟨R0, R1, R2, R3, R4, R5, R6, R7, R8, R9, R10⟩ := R
    have hWr : Rd W a := by
      subst hW
      repeat (refine rd_put ?_ (by omega))
      exact hr13
    have hWg : w.grownBy W (some a) := by
      subst hW
      repeat (refine grown_put ?_ (by omega))
      exact grown_trans G2 hg13
    rw [← hW]
    clear hW
    try simp only [Exit.inBlock, Exit.then]
    refine bodyPost_ret (by simp [results, Tryd.results13, go_sem, R0, R1, R2, R3, R4, R5, R6, R7, R8, R9, R10]; try rfl) rfl ?_
    exact ⟨⟨l, 1 + v, u, s, p, d, q, t, o, r, x⟩, rfl, hWr, hWg⟩
  · by_cases e19 : c = 19
    · subst e19
      go_wp2_with fail
      refine (off_c _ 0 4294967295 (by omega) (by omega) (by omega) _ hr12).mono ?_
      rintro e w13 ⟨u, u0, u1, rfl, hr13, hg13⟩
      have hP3 : w13.heap[w11.heap.size]? = _ := (hg13.block _ (by have := hg12.size; simp at this; omega) (fun e => by simp only [Option.some.injEq] at e; omega)).trans hP
      have hZ3 : w13.heap[w.heap.size]? = _ := (hg13.block _ (by have := hg12.size; simp at this; omega) (fun e => by simp only [Option.some.injEq] at e; omega)).trans hZ2
      clear Y0 Y1 Y2 Y3 Y4 Y5 Y6 Y7 Y8 Y9 Y10 Z0 Z1 Z2 Z3 Z4 Z5 Z6 Z7 Z8 Z9 Z10 C0 C1 C2 C3 C4 C5 C6 C7 C8 C9 C10
      obtain ⟨Z0, Z1, Z2, Z3, Z4, Z5, Z6, Z7, Z8, Z9, Z10⟩ := packet_cells (q := ⟨0, 0, 0, 0, 0, 0, 0, 0, 0, 0, 0⟩) hZ3
      obtain ⟨Y0, Y1, Y2, Y3, Y4, Y5, Y6, Y7, Y8, Y9, Y10⟩ := packet_thaw (q := ⟨0, 0, 0, 0, 0, 0, 0, 0, 0, 0, 0⟩) hZ3
      obtain ⟨C0, C1, C2, C3, C4, C5, C6, C7, C8, C9, C10⟩ := packet_cells (q := ⟨l, 1 + v, 1 + m, s, p, d, q, t, o, r, x⟩) hP3
      obtain ⟨D0, D1, D2, D3, D4, D5, D6, D7, D8, D9, D10⟩ := packet_thaw (q := ⟨l, 1 + v, 1 + m, s, p, d, q, t, o, r, x⟩) hP3
      go_wp2_with fail
      have hne : w11.heap.size ≠ w.heap.size := by omega
      obtain ⟨W, hW⟩ : ∃ W, W = ((((((((((((w13.setCell ⟨w11.heap.size, 5, none⟩ (.int .i64 u)).setCell ⟨w.heap.size, 0, none⟩ (.int .i64 l)).setCell ⟨w.heap.size, 1, none⟩ (.int .i64 (1 + v))).setCell ⟨w.heap.size, 2, none⟩ (.int .i64 (1 + m))).setCell ⟨w.heap.size, 3, none⟩ (.int .i64 s)).setCell ⟨w.heap.size, 4, none⟩ (.int .i64 p)).setCell ⟨w.heap.size, 5, none⟩ (.int .i64 u)).setCell ⟨w.heap.size, 6, none⟩ (.int .i64 q)).setCell ⟨w.heap.size, 7, none⟩ (.int .i64 t)).setCell ⟨w.heap.size, 8, none⟩ (.int .i64 o)).setCell ⟨w.heap.size, 9, none⟩ (.int .i64 r)).setCell ⟨w.heap.size, 10, none⟩ (.int .i64 x)) := ⟨_, rfl⟩
      have R : W.cell? ⟨w.heap.size, 0, none⟩ = some (.int .i64 l) ∧ W.cell? ⟨w.heap.size, 1, none⟩ = some (.int .i64 (1 + v)) ∧ W.cell? ⟨w.heap.size, 2, none⟩ = some (.int .i64 (1 + m)) ∧ W.cell? ⟨w.heap.size, 3, none⟩ = some (.int .i64 s) ∧ W.cell? ⟨w.heap.size, 4, none⟩ = some (.int .i64 p) ∧ W.cell? ⟨w.heap.size, 5, none⟩ = some (.int .i64 u) ∧ W.cell? ⟨w.heap.size, 6, none⟩ = some (.int .i64 q) ∧ W.cell? ⟨w.heap.size, 7, none⟩ = some (.int .i64 t) ∧ W.cell? ⟨w.heap.size, 8, none⟩ = some (.int .i64 o) ∧ W.cell? ⟨w.heap.size, 9, none⟩ = some (.int .i64 r) ∧ W.cell? ⟨w.heap.size, 10, none⟩ = some (.int .i64 x) := by
        subst hW
        refine ⟨?_, ?_, ?_, ?_, ?_, ?_, ?_, ?_, ?_, ?_, ?_⟩ <;> simp [cell_put, World.cell?_setCell_other, hne, Z0, Z1, Z2, Z3, Z4, Z5, Z6, Z7, Z8, Z9, Z10]
      obtain ⟨R0, R1, R2, R3, R4, R5, R6, R7, R8, R9, R10⟩ := R
      have hWr : Rd W a := by
        subst hW
        repeat (refine rd_put ?_ (by omega))
        exact hr13
      have hWg : w.grownBy W (some a) := by
        subst hW
        repeat (refine grown_put ?_ (by omega))
        exact grown_trans G2 hg13
      rw [← hW]
      clear hW
      try simp only [Exit.inBlock, Exit.then]
      refine bodyPost_ret (by simp [results, Tryd.results13, go_sem, R0, R1, R2, R3, R4, R5, R6, R7, R8, R9, R10]; try rfl) rfl ?_
      exact ⟨⟨l, 1 + v, 1 + m, s, p, u, q, t, o, r, x⟩, rfl, hWr, hWg⟩
    · go_wp2_with fail
      obtain ⟨W, hW⟩ : ∃ W, W = (((((((((((w12.setCell ⟨w.heap.size, 0, none⟩ (.int .i64 l)).setCell ⟨w.heap.size, 1, none⟩ (.int .i64 (1 + v))).setCell ⟨w.heap.size, 2, none⟩ (.int .i64 (1 + m))).setCell ⟨w.heap.size, 3, none⟩ (.int .i64 s)).setCell ⟨w.heap.size, 4, none⟩ (.int .i64 p)).setCell ⟨w.heap.size, 5, none⟩ (.int .i64 d)).setCell ⟨w.heap.size, 6, none⟩ (.int .i64 q)).setCell ⟨w.heap.size, 7, none⟩ (.int .i64 t)).setCell ⟨w.heap.size, 8, none⟩ (.int .i64 o)).setCell ⟨w.heap.size, 9, none⟩ (.int .i64 r)).setCell ⟨w.heap.size, 10, none⟩ (.int .i64 x)) := ⟨_, rfl⟩
      have R : W.cell? ⟨w.heap.size, 0, none⟩ = some (.int .i64 l) ∧ W.cell? ⟨w.heap.size, 1, none⟩ = some (.int .i64 (1 + v)) ∧ W.cell? ⟨w.heap.size, 2, none⟩ = some (.int .i64 (1 + m)) ∧ W.cell? ⟨w.heap.size, 3, none⟩ = some (.int .i64 s) ∧ W.cell? ⟨w.heap.size, 4, none⟩ = some (.int .i64 p) ∧ W.cell? ⟨w.heap.size, 5, none⟩ = some (.int .i64 d) ∧ W.cell? ⟨w.heap.size, 6, none⟩ = some (.int .i64 q) ∧ W.cell? ⟨w.heap.size, 7, none⟩ = some (.int .i64 t) ∧ W.cell? ⟨w.heap.size, 8, none⟩ = some (.int .i64 o) ∧ W.cell? ⟨w.heap.size, 9, none⟩ = some (.int .i64 r) ∧ W.cell? ⟨w.heap.size, 10, none⟩ = some (.int .i64 x) := by
        subst hW
        refine ⟨?_, ?_, ?_, ?_, ?_, ?_, ?_, ?_, ?_, ?_, ?_⟩ <;> simp [cell_put, World.cell?_setCell_other, Z0, Z1, Z2, Z3, Z4, Z5, Z6, Z7, Z8, Z9, Z10]
      obtain ⟨R0, R1, R2, R3, R4, R5, R6, R7, R8, R9, R10⟩ := R
      have hWr : Rd W a := by
        subst hW
        repeat (refine rd_put ?_ (by omega))
        exact hr12
      have hWg : w.grownBy W (some a) := by
        subst hW
        repeat (refine grown_put ?_ (by omega))
        exact G2
      rw [← hW]
      clear hW
      try simp only [Exit.inBlock, Exit.then]
      refine bodyPost_ret (by simp [results, Tryd.results13, go_sem, R0, R1, R2, R3, R4, R5, R6, R7, R8, R9, R10]; try rfl) rfl ?_
      exact ⟨⟨l, 1 + v, 1 + m, s, p, d, q, t, o, r, x⟩, rfl, hWr, hWg⟩
end Go.Proofs.YteecemjbkpkpaaaDoor
