/- For every packet, stratum and times the program's Answered answers as the reference. -/
import Derived.Test.YtdogfcmedlgnaaaFits
namespace Go.Proofs.Ytdogfcmedlgnaaa
open Go.ChangeShapes Go.WideShapes Go.ChangeAt Go.RowKit
set_option linter.unusedVariables false

/-- What is answered. -/
def Pk.ans (p : Pk) (st rv xm : Int) : Pk := ⟨0, p.version, 4, st, p.poll, 0, 0, 0, p.xmit, rv, xm⟩
def ansOk (p : Pk) (st rv xm : Int) : Bool := p.asks && (p.ans st rv xm).answers
def ansPk (p : Pk) (st rv xm : Int) : Pk := if ansOk p st rv xm then p.ans st rv xm else Pk.zero

set_option maxHeartbeats 2000000 in
theorem answered_impl (p : Pk) (st rv xm : Int) (w : World) :
    Calls Try.prog 12 #[.agg #[.int .i64 p.leap, .int .i64 p.version, .int .i64 p.mode, .int .i64 p.stratum, .int .i64 p.poll, .int .i64 p.delay, .int .i64 p.disp, .int .i64 p.ref, .int .i64 p.orig, .int .i64 p.recv, .int .i64 p.xmit], .int .i64 st, .int .i64 rv, .int .i64 xm] w fun e w' => e = .returned (.tuple #[.agg #[.int .i64 (ansPk p st rv xm).leap, .int .i64 (ansPk p st rv xm).version, .int .i64 (ansPk p st rv xm).mode, .int .i64 (ansPk p st rv xm).stratum, .int .i64 (ansPk p st rv xm).poll, .int .i64 (ansPk p st rv xm).delay, .int .i64 (ansPk p st rv xm).disp, .int .i64 (ansPk p st rv xm).ref, .int .i64 (ansPk p st rv xm).orig, .int .i64 (ansPk p st rv xm).recv, .int .i64 (ansPk p st rv xm).xmit], .bool (ansOk p st rv xm)]) ∧ Below w.heap.size w w' := by
  have hp := asks_impl p
  have ha := answers_impl (p.ans st rv xm)
  obtain ⟨bp, ep⟩ : ∃ b, p.asks = b := ⟨_, rfl⟩
  obtain ⟨ba, ea⟩ : ∃ b, (p.ans st rv xm).answers = b := ⟨_, rfl⟩
  rw [ep] at hp
  rw [ea] at ha
  dsimp only [Pk.ans] at ha
  have HP := Lib.hid hp
  have HA := Lib.hid ha
  clear hp ha
  cases bp with
  | false =>
    have e1 : ansOk p st rv xm = false := by unfold ansOk; rw [ep]; rfl
    have e2 : ansPk p st rv xm = Pk.zero := by unfold ansPk; rw [e1]; rfl
    rw [e1, e2]
    dsimp only [Pk.zero]
    clear e1 e2 ep ea
    go_enter Try.func12, Try.ntmps12
    go_wp2_with fail
    refine (HP.out _).mono ?_
    rintro e w1 ⟨rfl, rfl⟩
    go_wp2_with fail
    go_returns
    exact ⟨rfl, by go_grown⟩
  | true =>
    cases ba with
    | false =>
      have e1 : ansOk p st rv xm = false := by unfold ansOk; rw [ep, ea]; rfl
      have e2 : ansPk p st rv xm = Pk.zero := by unfold ansPk; rw [e1]; rfl
      rw [e1, e2]
      dsimp only [Pk.zero]
      clear e1 e2 ep ea
      go_enter Try.func12, Try.ntmps12
      go_wp2_with fail
      refine (HP.out _).mono ?_
      rintro e w1 ⟨rfl, rfl⟩
      go_wp2_with fail
      refine (HA.out _).mono ?_
      rintro e w1 ⟨rfl, rfl⟩
      go_wp2_with fail
      go_returns
      exact ⟨rfl, by go_grown⟩
    | true =>
      have e1 : ansOk p st rv xm = true := by unfold ansOk; rw [ep, ea]; rfl
      have e2 : ansPk p st rv xm = p.ans st rv xm := by unfold ansPk; rw [e1]; rfl
      rw [e1, e2]
      dsimp only [Pk.ans]
      clear e1 e2 ep ea
      go_enter Try.func12, Try.ntmps12
      go_wp2_with fail
      refine (HP.out _).mono ?_
      rintro e w1 ⟨rfl, rfl⟩
      go_wp2_with fail
      refine (HA.out _).mono ?_
      rintro e w1 ⟨rfl, rfl⟩
      go_wp2_with fail
      go_returns
      exact ⟨rfl, by go_grown⟩
end Go.Proofs.Ytdogfcmedlgnaaa
