/- For every two packets the program's Fits answers as the reference. -/
import Derived.Test.YtdogfcmedlgnaaaAsked
namespace Go.Proofs.Ytdogfcmedlgnaaa
open Go.ChangeShapes Go.WideShapes Go.ChangeAt Go.RowKit
set_option linter.unusedVariables false

def Pk.asks (p : Pk) : Bool := p.ok && (p.mode == 3) && (p.xmit != 0)
def Pk.answers (p : Pk) : Bool := p.ok && (p.mode == 4) && inB 1 p.stratum 15 && decide (p.recv ≤ p.xmit)
def fitsB (q a : Pk) : Bool := q.asks && a.answers && (q.xmit == a.orig)

set_option maxHeartbeats 1000000 in
theorem asks_impl (p : Pk) (w : World) :
    Calls Try.prog 34 #[.agg #[.int .i64 p.leap, .int .i64 p.version, .int .i64 p.mode, .int .i64 p.stratum, .int .i64 p.poll, .int .i64 p.delay, .int .i64 p.disp, .int .i64 p.ref, .int .i64 p.orig, .int .i64 p.recv, .int .i64 p.xmit]] w fun e w' => e = .returned (.bool p.asks) ∧ w' = (w.alloc (.cells #[.int .i64 p.leap, .int .i64 p.version, .int .i64 p.mode, .int .i64 p.stratum, .int .i64 p.poll, .int .i64 p.delay, .int .i64 p.disp, .int .i64 p.ref, .int .i64 p.orig, .int .i64 p.recv, .int .i64 p.xmit] 27)).alloc (.cells #[.int .i64 p.leap, .int .i64 p.version, .int .i64 p.mode, .int .i64 p.stratum, .int .i64 p.poll, .int .i64 p.delay, .int .i64 p.disp, .int .i64 p.ref, .int .i64 p.orig, .int .i64 p.recv, .int .i64 p.xmit] 27) := by
  cases hm : (p.mode == 3)
  all_goals
    go_enter Try.func34, Try.ntmps34
    go_wp2_with (go_at_call 17; refine (packetOk_impl p _).mono ?_; rintro e w1 ⟨rfl, rfl⟩)
    all_goals (go_returns; exact ⟨by simp [Pk.asks, *], rfl⟩)

set_option maxHeartbeats 1000000 in
theorem answers_impl (p : Pk) (w : World) :
    Calls Try.prog 35 #[.agg #[.int .i64 p.leap, .int .i64 p.version, .int .i64 p.mode, .int .i64 p.stratum, .int .i64 p.poll, .int .i64 p.delay, .int .i64 p.disp, .int .i64 p.ref, .int .i64 p.orig, .int .i64 p.recv, .int .i64 p.xmit]] w fun e w' => e = .returned (.bool p.answers) ∧ w' = (w.alloc (.cells #[.int .i64 p.leap, .int .i64 p.version, .int .i64 p.mode, .int .i64 p.stratum, .int .i64 p.poll, .int .i64 p.delay, .int .i64 p.disp, .int .i64 p.ref, .int .i64 p.orig, .int .i64 p.recv, .int .i64 p.xmit] 27)).alloc (.cells #[.int .i64 p.leap, .int .i64 p.version, .int .i64 p.mode, .int .i64 p.stratum, .int .i64 p.poll, .int .i64 p.delay, .int .i64 p.disp, .int .i64 p.ref, .int .i64 p.orig, .int .i64 p.recv, .int .i64 p.xmit] 27) := by
  cases hm : (p.mode == 4)
  all_goals
    go_enter Try.func35, Try.ntmps35
    go_wp2_with (first | (go_at_call 17; refine (packetOk_impl p _).mono ?_; rintro e w1 ⟨rfl, rfl⟩) | (go_at_call 37; refine (within_c _ _ _ _).mono ?_; rintro e w1 ⟨rfl, rfl⟩))
    all_goals (go_returns; exact ⟨by simp [Pk.answers, *], rfl⟩)

set_option maxHeartbeats 1000000 in
theorem fits_impl (q a : Pk) (w : World) :
    Calls Try.prog 15 #[.agg #[.int .i64 q.leap, .int .i64 q.version, .int .i64 q.mode, .int .i64 q.stratum, .int .i64 q.poll, .int .i64 q.delay, .int .i64 q.disp, .int .i64 q.ref, .int .i64 q.orig, .int .i64 q.recv, .int .i64 q.xmit], .agg #[.int .i64 a.leap, .int .i64 a.version, .int .i64 a.mode, .int .i64 a.stratum, .int .i64 a.poll, .int .i64 a.delay, .int .i64 a.disp, .int .i64 a.ref, .int .i64 a.orig, .int .i64 a.recv, .int .i64 a.xmit]] w fun e w' => e = .returned (.bool (fitsB q a)) ∧ Below w.heap.size w w' := by
  go_enter Try.func15, Try.ntmps15
  go_wp2_with (first | (go_at_call 34; refine (asks_impl q _).mono ?_; rintro e w1 ⟨rfl, rfl⟩) | (go_at_call 35; refine (answers_impl a _).mono ?_; rintro e w1 ⟨rfl, rfl⟩))
  all_goals (go_returns; exact ⟨by simp [fitsB, *], by go_grown⟩)

theorem Pk.xmit_nonneg {p : Pk} (h : p.ok = true) : 0 ≤ p.xmit := by
  simp only [Pk.ok, Pk.times, Bool.and_eq_true, inB_iff] at h
  omega

set_option maxHeartbeats 2000000 in
theorem fits_spec (q a : Pk) (w : World) :
    Calls Try.prog 16 #[.agg #[.int .i64 q.leap, .int .i64 q.version, .int .i64 q.mode, .int .i64 q.stratum, .int .i64 q.poll, .int .i64 q.delay, .int .i64 q.disp, .int .i64 q.ref, .int .i64 q.orig, .int .i64 q.recv, .int .i64 q.xmit], .agg #[.int .i64 a.leap, .int .i64 a.version, .int .i64 a.mode, .int .i64 a.stratum, .int .i64 a.poll, .int .i64 a.delay, .int .i64 a.disp, .int .i64 a.ref, .int .i64 a.orig, .int .i64 a.recv, .int .i64 a.xmit]] w fun e w' => e = .returned (.bool (fitsB q a)) ∧ Below w.heap.size w w' := by
  have hq := packetOk_spec q
  have ha := packetOk_spec a
  obtain ⟨bq, eq⟩ : ∃ b, q.ok = b := ⟨_, rfl⟩
  obtain ⟨ba, ea⟩ : ∃ b, a.ok = b := ⟨_, rfl⟩
  rw [eq] at hq
  rw [ea] at ha
  have HQ := Lib.hid hq
  have HA := Lib.hid ha
  clear hq ha
  cases bq with
  | false =>
    have e1 : fitsB q a = false := by simp [fitsB, Pk.asks, eq]
    rw [e1]
    clear e1 eq ea
    go_enter Try.func16, Try.ntmps16
    go_wp2_with fail
    refine (HQ.out _).mono ?_
    rintro e w1 ⟨rfl, rfl⟩
    go_wp2_with fail
    go_returns
    exact ⟨rfl, by go_grown⟩
  | true =>
    cases ba with
    | false =>
      have e1 : fitsB q a = false := by simp [fitsB, Pk.answers, ea]
      rw [e1]
      clear e1 eq ea
      go_enter Try.func16, Try.ntmps16
      go_wp2_with fail
      refine (HQ.out _).mono ?_
      rintro e w1 ⟨rfl, rfl⟩
      go_wp2_with fail
      refine (HA.out _).mono ?_
      rintro e w1 ⟨rfl, rfl⟩
      go_wp2_with fail
      go_returns
      exact ⟨rfl, by go_grown⟩
    | true =>
      have hx := Pk.xmit_nonneg eq
      have ez : (q.xmit != 0) = decide (0 < q.xmit) := by
        rw [Bool.eq_iff_iff]; simp; omega
      have e1 : fitsB q a = ((q.mode == 3) && decide (0 < q.xmit) && (a.mode == 4) && inB 1 a.stratum 15 && decide (a.recv ≤ a.xmit) && (q.xmit == a.orig)) := by simp [fitsB, Pk.asks, Pk.answers, eq, ea, ez, Bool.and_assoc]
      rw [e1]
      clear e1 eq ea ez
      go_enter Try.func16, Try.ntmps16
      go_wp2_with fail
      refine (HQ.out _).mono ?_
      rintro e w1 ⟨rfl, rfl⟩
      go_wp2_with fail
      refine (HA.out _).mono ?_
      rintro e w1 ⟨rfl, rfl⟩
      go_wp2_with (go_at_call 36; refine (l1In_c _ _ _ _).mono ?_; rintro e w1 ⟨rfl, rfl⟩)
      all_goals (go_returns; refine ⟨?_, by go_grown⟩; first | (simp [*]; done) | (simp; omega))
end Go.Proofs.Ytdogfcmedlgnaaa
