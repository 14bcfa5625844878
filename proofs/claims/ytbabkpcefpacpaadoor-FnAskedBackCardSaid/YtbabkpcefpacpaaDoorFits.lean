/- For every two packets the program's Fits answers as the reference. -/
import Derived.Test.YtbabkpcefpacpaaDoorAsked
namespace Go.Proofs.YtbabkpcefpacpaaDoor
open Go.ChangeShapes Go.WideShapes Go.ChangeAt Go.RowKit
set_option linter.unusedVariables false

def Pk.asks (p : Pk) : Bool := p.ok && (p.mode == 3) && (p.xmit != 0)
def Pk.answers (p : Pk) : Bool := p.ok && (p.mode == 4) && inB 1 p.stratum 15 && decide (p.recv ≤ p.xmit)
def fitsB (q a : Pk) : Bool := q.asks && a.answers && (q.xmit == a.orig)

set_option maxHeartbeats 1000000 in
theorem asks_impl (p : Pk) (w : World) :
    Calls Tryd.prog 53 #[.agg #[.int .i64 p.leap, .int .i64 p.version, .int .i64 p.mode, .int .i64 p.stratum, .int .i64 p.poll, .int .i64 p.delay, .int .i64 p.disp, .int .i64 p.ref, .int .i64 p.orig, .int .i64 p.recv, .int .i64 p.xmit]] w fun e w' => e = .returned (.bool p.asks) ∧ w' = (w.alloc (.cells #[.int .i64 p.leap, .int .i64 p.version, .int .i64 p.mode, .int .i64 p.stratum, .int .i64 p.poll, .int .i64 p.delay, .int .i64 p.disp, .int .i64 p.ref, .int .i64 p.orig, .int .i64 p.recv, .int .i64 p.xmit] 46)).alloc (.cells #[.int .i64 p.leap, .int .i64 p.version, .int .i64 p.mode, .int .i64 p.stratum, .int .i64 p.poll, .int .i64 p.delay, .int .i64 p.disp, .int .i64 p.ref, .int .i64 p.orig, .int .i64 p.recv, .int .i64 p.xmit] 46) := by
  cases hm : (p.mode == 3)
  all_goals
    go_enter Tryd.func53, Tryd.ntmps53
    go_wp2_with (go_at_call 51; refine (packetOk_impl p _).mono ?_; rintro e w1 ⟨rfl, rfl⟩)
    all_goals (go_returns; exact ⟨by simp [Pk.asks, *], rfl⟩)

set_option maxHeartbeats 1000000 in
theorem answers_impl (p : Pk) (w : World) :
    Calls Tryd.prog 54 #[.agg #[.int .i64 p.leap, .int .i64 p.version, .int .i64 p.mode, .int .i64 p.stratum, .int .i64 p.poll, .int .i64 p.delay, .int .i64 p.disp, .int .i64 p.ref, .int .i64 p.orig, .int .i64 p.recv, .int .i64 p.xmit]] w fun e w' => e = .returned (.bool p.answers) ∧ w' = (w.alloc (.cells #[.int .i64 p.leap, .int .i64 p.version, .int .i64 p.mode, .int .i64 p.stratum, .int .i64 p.poll, .int .i64 p.delay, .int .i64 p.disp, .int .i64 p.ref, .int .i64 p.orig, .int .i64 p.recv, .int .i64 p.xmit] 46)).alloc (.cells #[.int .i64 p.leap, .int .i64 p.version, .int .i64 p.mode, .int .i64 p.stratum, .int .i64 p.poll, .int .i64 p.delay, .int .i64 p.disp, .int .i64 p.ref, .int .i64 p.orig, .int .i64 p.recv, .int .i64 p.xmit] 46) := by
  cases hm : (p.mode == 4)
  all_goals
    go_enter Tryd.func54, Tryd.ntmps54
    go_wp2_with (first | (go_at_call 51; refine (packetOk_impl p _).mono ?_; rintro e w1 ⟨rfl, rfl⟩) | (go_at_call 56; refine (within_c _ _ _ _).mono ?_; rintro e w1 ⟨rfl, rfl⟩))
    all_goals (go_returns; exact ⟨by simp [Pk.answers, *], rfl⟩)


theorem Pk.xmit_nonneg {p : Pk} (h : p.ok = true) : 0 ≤ p.xmit := by
  simp only [Pk.ok, Pk.times, Bool.and_eq_true, inB_iff] at h
  omega

end Go.Proofs.YtbabkpcefpacpaaDoor
