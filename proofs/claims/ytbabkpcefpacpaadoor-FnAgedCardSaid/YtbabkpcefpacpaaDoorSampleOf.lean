/- The program's SampleOf and Aged: what it makes where nothing is refused, held at the greatest Disp. -/
import Derived.Test.YtbabkpcefpacpaaDoorSampleOk
import Derived.Test.YtbabkpcefpacpaaDoorErrIs
namespace Go.Proofs.YtbabkpcefpacpaaDoor
open Go.ChangeShapes Go.WideShapes Go.ChangeAt Go.RowKit
set_option linter.unusedVariables false
set_option linter.unusedSimpArgs false

/-- What is made of this: the same, held at the greatest Disp, or none. -/
def heldV (s : Sm) : Sm := if s.base then ⟨s.off, s.delay, min 16000000 s.disp, s.at_⟩ else Sm.zero

set_option maxHeartbeats 1000000 in
theorem sampleOrNone_c (s : Sm) (W : World) {ao an au : Addr} (L : Ld W ao an au) :
    Calls Tryd.prog 40 #[.agg #[.int .i64 s.off, .int .i64 s.delay, .int .i64 s.disp, .int .i64 s.at_]] W fun e w' => e = .returned (.tuple #[.agg #[.int .i64 (heldV s).off, .int .i64 (heldV s).delay, .int .i64 (heldV s).disp, .int .i64 (heldV s).at_], .bool s.base]) ∧ Below W.heap.size W w' := by
  have g0 : Below W.heap.size W ((W.alloc (.cells #[.int .i64 s.off, .int .i64 s.delay, .int .i64 s.disp, .int .i64 s.at_] 25)).alloc (.cells #[.int .i64 0, .int .i64 0, .int .i64 0, .int .i64 0] 25)) := by go_grown
  have Q := blk_alloc (blk_new W (.cells #[.int .i64 s.off, .int .i64 s.delay, .int .i64 s.disp, .int .i64 s.at_] 25)) (.cells #[.int .i64 0, .int .i64 0, .int .i64 0, .int .i64 0] 25)
  have L0 := L.next g0
  have R := blk_new (W.alloc (.cells #[.int .i64 s.off, .int .i64 s.delay, .int .i64 s.disp, .int .i64 s.at_] 25)) (.cells #[.int .i64 0, .int .i64 0, .int .i64 0, .int .i64 0] 25)
  simp only [World.size_alloc] at R
  cases hb : s.base with
  | false =>
    have e1 : heldV s = Sm.zero := by simp [heldV, hb]
    rw [e1]
    dsimp only [Sm.zero]
    clear e1
    go_enter Tryd.func40, Tryd.ntmps40
    go_wp2_with fail
    refine (check_wrong s hb _ L0).mono ?_
    rintro e w1 h
    have h' : ∃ why, why ≠ au ∧ (∃ c t, w1.heap[why.block]? = some (.cells c t (0, 0))) ∧ Refused why ((W.alloc (.cells #[.int .i64 s.off, .int .i64 s.delay, .int .i64 s.disp, .int .i64 s.at_] 25)).alloc (.cells #[.int .i64 0, .int .i64 0, .int .i64 0, .int .i64 0] 25)) e w1 := by
      rcases h with h | h
      · obtain ⟨b, _, _, hB⟩ := id h
        exact ⟨ao, L0.ou, (L0.next hB).outside.live, h⟩
      · obtain ⟨b, _, _, hB⟩ := id h
        exact ⟨an, L0.nu, (L0.next hB).noTime.live, h⟩
    obtain ⟨why, hne, ⟨c1, t1, hl1⟩, b, rfl, hw1, hb1⟩ := h'
    have L1 := L0.next hb1
    have k1 := L1.unsure.cell
    obtain ⟨c2, t2, hl2⟩ := L1.unsure.live
    go_wp2_with fail
    refine (is_wrap_other b au why c1 c2 t1 t2 _ hw1 hne hl1 hl2).mono ?_
    rintro e w2 ⟨rfl, rfl⟩
    go_wp2_with fail
    refine (isRefusal_hit _ _ L1).mono ?_
    rintro e w3 ⟨rfl, hb3⟩
    have R3 := blk_next hb3 (blk_next hb1 R)
    obtain ⟨y0, y1, y2, y3⟩ := sample_thaw (q := ⟨0, 0, 0, 0⟩) R3
    obtain ⟨z0, z1, z2, z3⟩ := sample_cells (q := ⟨0, 0, 0, 0⟩) R3
    go_wp2_with fail
    obtain ⟨q0, q1, q2, q3⟩ := sample_cells (sample_put (q := ⟨0, 0, 0, 0⟩) R3 ⟨0, 0, 0, 0⟩)
    dsimp only at q0 q1 q2 q3
    have G : Below W.heap.size W ((((w3.setCell ⟨W.heap.size + 1, 0, none⟩ (.int .i64 0)).setCell ⟨W.heap.size + 1, 1, none⟩ (.int .i64 0)).setCell ⟨W.heap.size + 1, 2, none⟩ (.int .i64 0)).setCell ⟨W.heap.size + 1, 3, none⟩ (.int .i64 0)) := by
      repeat (refine below_put ?_ (by omega) _ _)
      exact grow_next (grow_next g0 hb1) hb3
    refine bodyPost_ret (by simp [results, Tryd.results40, go_sem, q0, q1, q2, q3]; try rfl) rfl ?_
    exact ⟨rfl, G⟩
  | true =>
    by_cases hd : s.disp ≤ 16000000
    · have hok : s.ok = true := by rw [Sm.ok_base, hb]; simpa using hd
      have e1 : heldV s = s := by
        simp only [heldV, hb, if_true]
        have : min 16000000 s.disp = s.disp := by omega
        rw [this]
      rw [e1]
      clear e1
      go_enter Tryd.func40, Tryd.ntmps40
      go_wp2_with fail
      refine (check_right s hok _).mono ?_
      rintro e w1 ⟨rfl, hb1⟩
      have L1 := L0.next hb1
      have k1 := L1.unsure.cell
      have Q1 := sample_cells (blk_next hb1 Q)
      go_wp2_with fail
      refine (is_nil au _).mono ?_
      rintro e w2 ⟨rfl, rfl⟩
      go_wp2_with fail
      refine (isRefusal_nil _).mono ?_
      rintro e w3 ⟨rfl, hb3⟩
      have Q3 := sample_cells (blk_next hb3 (blk_next hb1 Q))
      have R3 := blk_next hb3 (blk_next hb1 R)
      obtain ⟨y0, y1, y2, y3⟩ := sample_thaw (q := ⟨0, 0, 0, 0⟩) R3
      obtain ⟨z0, z1, z2, z3⟩ := sample_cells (q := ⟨0, 0, 0, 0⟩) R3
      go_wp2_with fail
      obtain ⟨q0, q1, q2, q3⟩ := sample_cells (sample_put (q := ⟨0, 0, 0, 0⟩) R3 s)
      have G : Below W.heap.size W ((((w3.setCell ⟨W.heap.size + 1, 0, none⟩ (.int .i64 s.off)).setCell ⟨W.heap.size + 1, 1, none⟩ (.int .i64 s.delay)).setCell ⟨W.heap.size + 1, 2, none⟩ (.int .i64 s.disp)).setCell ⟨W.heap.size + 1, 3, none⟩ (.int .i64 s.at_)) := by
        repeat (refine below_put ?_ (by omega) _ _)
        exact grow_next (grow_next g0 hb1) hb3
      refine bodyPost_ret (by simp [results, Tryd.results40, go_sem, q0, q1, q2, q3]; try rfl) rfl ?_
      exact ⟨rfl, G⟩
    · obtain ⟨h1, h2, h3, h4⟩ := base_parts hb
      have e1 : heldV s = ⟨s.off, s.delay, 16000000, s.at_⟩ := by
        simp only [heldV, hb, if_true]
        have : min 16000000 s.disp = 16000000 := by omega
        rw [this]
      rw [e1]
      dsimp only
      clear e1
      go_enter Tryd.func40, Tryd.ntmps40
      go_wp2_with fail
      refine (check_unsure s h1 h2 h3 h4 (by omega) _ L0).mono ?_
      rintro e w1 ⟨b, rfl, hw1, hb1⟩
      have L1 := L0.next hb1
      have k1 := L1.unsure.cell
      have Q1 := blk_next hb1 Q
      have R1 := blk_next hb1 R
      have P1 : (w1.setCell ⟨W.heap.size, 2, none⟩ (.int .i64 16000000)).heap[W.heap.size]? = some (.cells #[.int .i64 s.off, .int .i64 s.delay, .int .i64 16000000, .int .i64 s.at_] 25) := by
        simp [World.setCell, Array.getElem?_modify, Q1]
      have P2 : (w1.setCell ⟨W.heap.size, 2, none⟩ (.int .i64 16000000)).heap[W.heap.size + 1]? = some (.cells #[.int .i64 0, .int .i64 0, .int .i64 0, .int .i64 0] 25) := by
        simp [World.setCell, Array.getElem?_modify, R1]
      obtain ⟨f0, f1, f2, f3⟩ := sample_thaw Q1
      obtain ⟨p0, p1, p2, p3⟩ := sample_cells (q := ⟨s.off, s.delay, 16000000, s.at_⟩) P1
      obtain ⟨y0, y1, y2, y3⟩ := sample_thaw (q := ⟨0, 0, 0, 0⟩) P2
      obtain ⟨z0, z1, z2, z3⟩ := sample_cells (q := ⟨0, 0, 0, 0⟩) P2
      dsimp only at p0 p1 p2 p3
      have c2 := (sample_cells Q1).2.2.1
      go_wp2_with fail
      refine (is_wrap_same b au _ hw1).mono ?_
      rintro e w2 ⟨rfl, rfl⟩
      go_wp2_with fail
      obtain ⟨q0, q1, q2, q3⟩ := sample_cells (sample_put (q := ⟨0, 0, 0, 0⟩) P2 ⟨s.off, s.delay, 16000000, s.at_⟩)
      dsimp only at q0 q1 q2 q3
      have G : Below W.heap.size W (((((w2.setCell ⟨W.heap.size, 2, none⟩ (.int .i64 16000000)).setCell ⟨W.heap.size + 1, 0, none⟩ (.int .i64 s.off)).setCell ⟨W.heap.size + 1, 1, none⟩ (.int .i64 s.delay)).setCell ⟨W.heap.size + 1, 2, none⟩ (.int .i64 16000000)).setCell ⟨W.heap.size + 1, 3, none⟩ (.int .i64 s.at_)) := by
        repeat (refine below_put ?_ (by omega) _ _)
        exact grow_next g0 hb1
      refine bodyPost_ret (by simp [results, Tryd.results40, go_sem, q0, q1, q2, q3]; try rfl) rfl ?_
      exact ⟨rfl, G⟩
end Go.Proofs.YtbabkpcefpacpaaDoor
