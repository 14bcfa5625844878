/- How far a sample reaches: the program's way and the reference's. -/
import Derived.Test.YtfcmcelhndppnaaDoorSampleOk
namespace Go.Proofs.YtfcmcelhndppnaaDoor
open Go.ChangeShapes Go.WideShapes Go.ChangeAt Go.RowKit
set_option linter.unusedVariables false
set_option linter.unusedSimpArgs false

theorem below_drew {B : Nat} {a w : World} (h : Below B a w) : Below B a w.drew := h.trans ⟨rfl, rfl, rfl, Nat.le_refl _, fun _ _ => rfl⟩
theorem sampleOk_dec {s : Sm} {b : Bool} (h : s.ok = b) (w : World) : Calls Tryd.prog 38 #[.agg #[.int .i64 s.off, .int .i64 s.delay, .int .i64 s.disp, .int .i64 s.at_]] w fun e w' => e = .returned (.bool b) ∧ Below w.heap.size w w' := h ▸ sampleOk_spec s w
theorem sampleOk_decI {s : Sm} {b : Bool} (h : s.ok = b) (W : World) {ao an au : Addr} (L : Ld W ao an au) : Calls Tryd.prog 39 #[.agg #[.int .i64 s.off, .int .i64 s.delay, .int .i64 s.disp, .int .i64 s.at_]] W fun e w' => e = .returned (.bool b) ∧ Below W.heap.size W w' := h ▸ sampleOk_impl s W L

theorem reachV_bounds (s : Sm) (h : s.ok = true) : reachV s = (s.delay + 1) / 2 + s.disp ∧ 0 ≤ reachV s ∧ reachV s ≤ 1000000000000 := by
  obtain ⟨⟨a0, a1⟩, ⟨b0, b1⟩, ⟨c0, c1⟩, ⟨d0, d1⟩⟩ := Sm.ok_iff.1 h
  have e : reachV s = (s.delay + 1) / 2 + s.disp := by unfold reachV; rw [h]; rfl
  rw [e]
  omega
theorem reachV_no (s : Sm) (h : s.ok = false) : reachV s = -1 := by unfold reachV; rw [h]; rfl

theorem reach_impl (s : Sm) (W : World) {ao an au : Addr} (L : Ld W ao an au) :
    Calls Tryd.prog 24 #[.agg #[.int .i64 s.off, .int .i64 s.delay, .int .i64 s.disp, .int .i64 s.at_]] W fun e w' => e = .returned (.int .i64 (reachV s)) ∧ Below W.heap.size W w' := by
  have Q := blk_new W (.cells #[.int .i64 s.off, .int .i64 s.delay, .int .i64 s.disp, .int .i64 s.at_] 38)
  have g0 : Below W.heap.size W (W.alloc (.cells #[.int .i64 s.off, .int .i64 s.delay, .int .i64 s.disp, .int .i64 s.at_] 38)) := by go_grown
  cases hs : s.ok with
  | false =>
    rw [reachV_no s hs]
    have HS := Lib.hid (sampleOk_decI hs _ (L.next g0))
    clear hs
    go_enter Tryd.func24, Tryd.ntmps24
    go_wp2_with fail
    refine (HS.out).mono ?_
    rintro e w1 ⟨rfl, hb1⟩
    go_wp2_with fail
    go_returns
    exact ⟨rfl, grow_next g0 hb1⟩
  | true =>
    rw [(reachV_bounds s hs).1]
    obtain ⟨⟨a0, a1⟩, ⟨b0, b1⟩, ⟨c0, c1⟩, ⟨d0, d1⟩⟩ := Sm.ok_iff.1 hs
    have HS := Lib.hid (sampleOk_decI hs _ (L.next g0))
    clear hs
    go_enter Tryd.func24, Tryd.ntmps24
    go_wp2_with fail
    refine (HS.out).mono ?_
    rintro e w1 ⟨rfl, hb1⟩
    obtain ⟨x0, x1, x2, x3⟩ := sample_cells (blk_next hb1 Q)
    go_wp2_with fail
    go_returns
    exact ⟨rfl, grow_next g0 hb1⟩

theorem l3Reach_c (s : Sm) (h : s.ok = true) (W : World) :
    Calls Tryd.prog 57 #[.agg #[.int .i64 s.off, .int .i64 s.delay, .int .i64 s.disp, .int .i64 s.at_]] W fun e w' => e = .returned (.int .i64 ((s.delay + 1) / 2 + s.disp)) ∧ Below W.heap.size W w' := by
  obtain ⟨⟨a0, a1⟩, ⟨b0, b1⟩, ⟨c0, c1⟩, ⟨d0, d1⟩⟩ := Sm.ok_iff.1 h
  clear h
  go_enter Tryd.func57, Tryd.ntmps57
  go_wp2
  go_returns
  exact ⟨rfl, by go_grown⟩

end Go.Proofs.YtfcmcelhndppnaaDoor
