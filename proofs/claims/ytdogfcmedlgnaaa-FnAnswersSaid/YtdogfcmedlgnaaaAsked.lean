/- For every time and poll the program's Asked answers as the reference. -/
import Derived.Test.YtdogfcmedlgnaaaPacketOk
namespace Go.Proofs.Ytdogfcmedlgnaaa
open Go.ChangeShapes Go.WideShapes Go.ChangeAt Go.RowKit
set_option linter.unusedVariables false

set_option maxHeartbeats 1000000 in
theorem eqPacket_same (p : Pk) (w : World) :
    Calls Try.prog 27 #[.agg #[.int .i64 p.leap, .int .i64 p.version, .int .i64 p.mode, .int .i64 p.stratum, .int .i64 p.poll, .int .i64 p.delay, .int .i64 p.disp, .int .i64 p.ref, .int .i64 p.orig, .int .i64 p.recv, .int .i64 p.xmit], .agg #[.int .i64 p.leap, .int .i64 p.version, .int .i64 p.mode, .int .i64 p.stratum, .int .i64 p.poll, .int .i64 p.delay, .int .i64 p.disp, .int .i64 p.ref, .int .i64 p.orig, .int .i64 p.recv, .int .i64 p.xmit]] w fun e w' => e = .returned (.bool true) ∧ Below w.heap.size w w' := by
  go_enter Try.func27, Try.ntmps27
  go_wp2
  go_returns
  exact ⟨rfl, by go_grown⟩

/-- The question that is asked. -/
def Pk.ask (now poll : Int) : Pk := ⟨0, 4, 3, 0, poll, 0, 0, 0, 0, 0, now⟩
def Pk.zero : Pk := ⟨0, 0, 0, 0, 0, 0, 0, 0, 0, 0, 0⟩
def askOk (now poll : Int) : Bool := !(now == 0) && (Pk.ask now poll).ok
def askPk (now poll : Int) : Pk := if askOk now poll then Pk.ask now poll else Pk.zero

set_option maxHeartbeats 1000000 in
theorem asked_impl (now poll : Int) (w : World) :
    Calls Try.prog 9 #[.int .i64 now, .int .i64 poll] w fun e w' => e = .returned (.tuple #[.agg #[.int .i64 (askPk now poll).leap, .int .i64 (askPk now poll).version, .int .i64 (askPk now poll).mode, .int .i64 (askPk now poll).stratum, .int .i64 (askPk now poll).poll, .int .i64 (askPk now poll).delay, .int .i64 (askPk now poll).disp, .int .i64 (askPk now poll).ref, .int .i64 (askPk now poll).orig, .int .i64 (askPk now poll).recv, .int .i64 (askPk now poll).xmit], .bool (askOk now poll)]) ∧ Below w.heap.size w w' := by
  obtain ⟨ok, hok⟩ : ∃ b, (Pk.ask now poll).ok = b := ⟨_, rfl⟩
  have hc := packetOk_impl (Pk.ask now poll)
  rw [hok] at hc
  dsimp only [Pk.ask] at hc
  have HC := Lib.hid hc
  clear hc
  by_cases h0 : (now == 0) = true
  · have e1 : askOk now poll = false := by unfold askOk; rw [h0]; rfl
    have e2 : askPk now poll = Pk.zero := by unfold askPk; rw [e1]; rfl
    rw [e1, e2]
    dsimp only [Pk.zero]
    clear e1 e2 hok
    go_enter Try.func9, Try.ntmps9
    go_wp2_with fail
    go_returns
    exact ⟨rfl, by go_grown⟩
  · have h0 : (now == 0) = false := by simpa using h0
    cases ok with
    | false =>
      have e1 : askOk now poll = false := by unfold askOk; rw [hok, h0]; rfl
      have e2 : askPk now poll = Pk.zero := by unfold askPk; rw [e1]; rfl
      rw [e1, e2]
      dsimp only [Pk.zero]
      clear e1 e2 hok
      go_enter Try.func9, Try.ntmps9
      go_wp2_with fail
      refine (HC.out _).mono ?_
      rintro e w1 ⟨rfl, rfl⟩
      go_wp2_with fail
      go_returns
      exact ⟨rfl, by go_grown⟩
    | true =>
      have e1 : askOk now poll = true := by unfold askOk; rw [hok, h0]; rfl
      have e2 : askPk now poll = Pk.ask now poll := by unfold askPk; rw [e1]; rfl
      rw [e1, e2]
      dsimp only [Pk.ask]
      clear e1 e2 hok
      go_enter Try.func9, Try.ntmps9
      go_wp2_with fail
      refine (HC.out _).mono ?_
      rintro e w1 ⟨rfl, rfl⟩
      go_wp2_with fail
      go_returns
      exact ⟨rfl, by go_grown⟩

set_option maxHeartbeats 1000000 in
theorem asked_spec (now poll : Int) (w : World) :
    Calls Try.prog 10 #[.int .i64 now, .int .i64 poll] w fun e w' => e = .returned (.tuple #[.agg #[.int .i64 (askPk now poll).leap, .int .i64 (askPk now poll).version, .int .i64 (askPk now poll).mode, .int .i64 (askPk now poll).stratum, .int .i64 (askPk now poll).poll, .int .i64 (askPk now poll).delay, .int .i64 (askPk now poll).disp, .int .i64 (askPk now poll).ref, .int .i64 (askPk now poll).orig, .int .i64 (askPk now poll).recv, .int .i64 (askPk now poll).xmit], .bool (askOk now poll)]) ∧ Below w.heap.size w w' := by
  obtain ⟨ok, hok⟩ : ∃ b, (Pk.ask now poll).ok = b := ⟨_, rfl⟩
  have hc := packetOk_spec (Pk.ask now poll)
  rw [hok] at hc
  dsimp only [Pk.ask] at hc
  have HC := Lib.hid hc
  clear hc
  by_cases h0 : (now == 0) = true
  · have e1 : askOk now poll = false := by unfold askOk; rw [h0]; rfl
    have e2 : askPk now poll = Pk.zero := by unfold askPk; rw [e1]; rfl
    rw [e1, e2]
    dsimp only [Pk.zero]
    clear e1 e2 hok
    cases ok with
    | false =>
      go_enter Try.func10, Try.ntmps10
      go_wp2_with fail
      refine (HC.out _).mono ?_
      rintro e w1 ⟨rfl, rfl⟩
      go_wp2_with fail
      go_returns
      exact ⟨rfl, by go_grown⟩
    | true =>
      go_enter Try.func10, Try.ntmps10
      go_wp2_with fail
      refine (HC.out _).mono ?_
      rintro e w1 ⟨rfl, rfl⟩
      go_wp2_with fail
      go_returns
      exact ⟨rfl, by go_grown⟩

  · have h0 : (now == 0) = false := by simpa using h0
    cases ok with
    | false =>
      have e1 : askOk now poll = false := by unfold askOk; rw [hok, h0]; rfl
      have e2 : askPk now poll = Pk.zero := by unfold askPk; rw [e1]; rfl
      rw [e1, e2]
      dsimp only [Pk.zero]
      clear e1 e2 hok
      go_enter Try.func10, Try.ntmps10
      go_wp2_with fail
      refine (HC.out _).mono ?_
      rintro e w1 ⟨rfl, rfl⟩
      go_wp2_with fail
      go_returns
      exact ⟨rfl, by go_grown⟩
    | true =>
      have e1 : askOk now poll = true := by unfold askOk; rw [hok, h0]; rfl
      have e2 : askPk now poll = Pk.ask now poll := by unfold askPk; rw [e1]; rfl
      rw [e1, e2]
      dsimp only [Pk.ask]
      clear e1 e2 hok
      go_enter Try.func10, Try.ntmps10
      go_wp2_with fail
      refine (HC.out _).mono ?_
      rintro e w1 ⟨rfl, rfl⟩
      go_wp2_with fail
      go_returns
      exact ⟨rfl, by go_grown⟩

end Go.Proofs.Ytdogfcmedlgnaaa
