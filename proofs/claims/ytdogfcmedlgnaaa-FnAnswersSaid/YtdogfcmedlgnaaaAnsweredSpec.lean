/- The reference's Answered, by its contract. -/
import Derived.Test.YtdogfcmedlgnaaaAnswered
namespace Go.Proofs.Ytdogfcmedlgnaaa
open Go.ChangeShapes Go.WideShapes Go.ChangeAt Go.RowKit
set_option linter.unusedVariables false
set_option linter.unusedSimpArgs false

theorem ansOk_eq (p : Pk) (st rv xm : Int) : ansOk p st rv xm = (p.ok && ((p.mode == 3) && (!(p.xmit == 0) && (inB 1 st 15 && (decide (rv ≤ xm) && (p.ans st rv xm).ok))))) := by
  unfold ansOk Pk.asks Pk.answers
  have e1 : (p.ans st rv xm).mode = 4 := rfl
  have e2 : (p.ans st rv xm).stratum = st := rfl
  have e3 : (p.ans st rv xm).recv = rv := rfl
  have e4 : (p.ans st rv xm).xmit = xm := rfl
  rw [e1, e2, e3, e4]
  have e5 : (p.xmit != 0) = !(p.xmit == 0) := rfl
  rw [e5]
  generalize p.ok = a
  generalize (p.mode == 3) = b
  generalize (p.xmit == 0) = c
  generalize inB 1 st 15 = d
  generalize decide (rv ≤ xm) = f
  generalize (p.ans st rv xm).ok = g
  cases a <;> cases b <;> cases c <;> cases d <;> cases f <;> cases g <;> rfl

set_option maxHeartbeats 40000000 in
theorem answered_spec (p : Pk) (st rv xm : Int) (w : World) :
    Calls Try.prog 13 #[.agg #[.int .i64 p.leap, .int .i64 p.version, .int .i64 p.mode, .int .i64 p.stratum, .int .i64 p.poll, .int .i64 p.delay, .int .i64 p.disp, .int .i64 p.ref, .int .i64 p.orig, .int .i64 p.recv, .int .i64 p.xmit], .int .i64 st, .int .i64 rv, .int .i64 xm] w fun e w' => e = .returned (.tuple #[.agg #[.int .i64 (ansPk p st rv xm).leap, .int .i64 (ansPk p st rv xm).version, .int .i64 (ansPk p st rv xm).mode, .int .i64 (ansPk p st rv xm).stratum, .int .i64 (ansPk p st rv xm).poll, .int .i64 (ansPk p st rv xm).delay, .int .i64 (ansPk p st rv xm).disp, .int .i64 (ansPk p st rv xm).ref, .int .i64 (ansPk p st rv xm).orig, .int .i64 (ansPk p st rv xm).recv, .int .i64 (ansPk p st rv xm).xmit], .bool (ansOk p st rv xm)]) ∧ Below w.heap.size w w' := by
  have hp := packetOk_spec p
  have ha := packetOk_spec (p.ans st rv xm)
  have E0 := ansOk_eq p st rv xm
  obtain ⟨bp, ep⟩ : ∃ b, p.ok = b := ⟨_, rfl⟩
  obtain ⟨ba, ea⟩ : ∃ b, (p.ans st rv xm).ok = b := ⟨_, rfl⟩
  obtain ⟨bs, es⟩ : ∃ b, inB 1 st 15 = b := ⟨_, rfl⟩
  obtain ⟨bm, hm⟩ : ∃ b, (p.mode == 3) = b := ⟨_, rfl⟩
  obtain ⟨bx, hx⟩ : ∃ b, (p.xmit == 0) = b := ⟨_, rfl⟩
  rw [ep, ea, es, hm, hx] at E0
  have E := Lib.hid E0
  clear E0
  rw [ep] at hp
  rw [ea] at ha
  dsimp only [Pk.ans] at ha
  have HP := Lib.hid hp
  have HA := Lib.hid ha
  have HS := Lib.hid es
  have hm' : (p.mode != 3) = !bm := by show (!(p.mode == 3)) = _; rw [hm]
  clear hp ha es ep ea
  cases bp with
  | false =>
    have e1 : ansOk p st rv xm = false := by rw [E.out]; rfl
    have e2 : ansPk p st rv xm = Pk.zero := by unfold ansPk; rw [e1]; rfl
    rw [e1, e2]
    dsimp only [Pk.zero]
    clear e1 e2
    go_enter Try.func13, Try.ntmps13
    go_wp2_with fail
    refine (HP.out _).mono ?_
    rintro e w1 ⟨rfl, rfl⟩
    go_wp2_with fail
    go_returns
    exact ⟨rfl, by go_grown⟩
  | true =>
    cases bm with
    | false =>
      simp only [Bool.not_true, Bool.not_false] at hm'
      have e1 : ansOk p st rv xm = false := by rw [E.out]; rfl
      have e2 : ansPk p st rv xm = Pk.zero := by unfold ansPk; rw [e1]; rfl
      rw [e1, e2]
      dsimp only [Pk.zero]
      clear e1 e2
      go_enter Try.func13, Try.ntmps13
      go_wp2_with fail
      refine (HP.out _).mono ?_
      rintro e w1 ⟨rfl, rfl⟩
      go_wp2_with fail
      go_returns
      exact ⟨rfl, by go_grown⟩
    | true =>
      simp only [Bool.not_true, Bool.not_false] at hm'
      cases bx with
      | true =>
        have e1 : ansOk p st rv xm = false := by rw [E.out]; rfl
        have e2 : ansPk p st rv xm = Pk.zero := by unfold ansPk; rw [e1]; rfl
        rw [e1, e2]
        dsimp only [Pk.zero]
        clear e1 e2
        go_enter Try.func13, Try.ntmps13
        go_wp2_with fail
        refine (HP.out _).mono ?_
        rintro e w1 ⟨rfl, rfl⟩
        go_wp2_with fail
        go_returns
        exact ⟨rfl, by go_grown⟩
      | false =>
        cases bs with
        | false =>
          have e1 : ansOk p st rv xm = false := by rw [E.out]; rfl
          have e2 : ansPk p st rv xm = Pk.zero := by unfold ansPk; rw [e1]; rfl
          rw [e1, e2]
          dsimp only [Pk.zero]
          clear e1 e2
          go_enter Try.func13, Try.ntmps13
          go_wp2_with fail
          refine (HP.out _).mono ?_
          rintro e w1 ⟨rfl, rfl⟩
          go_wp2_with fail
          refine (l1In_c _ _ _ _).mono ?_
          rw [HS.out]
          rintro e w1 ⟨rfl, rfl⟩
          go_wp2_with fail
          go_returns
          exact ⟨rfl, by go_grown⟩
        | true =>
          by_cases hr : rv ≤ xm
          · have E' := E.out
            rw [decide_eq_true hr] at E'
            have hr1 : ¬ xm < rv := by omega
            have hr2 : decide (xm < rv) = false := decide_eq_false hr1
            clear E
            have E := Lib.hid E'
            clear E'
            clear hr
            cases ba with
            | false =>
              have e1 : ansOk p st rv xm = false := by rw [E.out]; rfl
              have e2 : ansPk p st rv xm = Pk.zero := by unfold ansPk; rw [e1]; rfl
              rw [e1, e2]
              dsimp only [Pk.zero]
              clear e1 e2
              go_enter Try.func13, Try.ntmps13
              go_wp2_with fail
              refine (HP.out _).mono ?_
              rintro e w1 ⟨rfl, rfl⟩
              go_wp2_with fail
              refine (l1In_c _ _ _ _).mono ?_
              rw [HS.out]
              rintro e w1 ⟨rfl, rfl⟩
              go_wp2_with fail
              refine (HA.out _).mono ?_
              rintro e w1 ⟨rfl, rfl⟩
              go_wp2_with fail
              go_returns
              exact ⟨rfl, by go_grown⟩
            | true =>
              have e1 : ansOk p st rv xm = true := by rw [E.out]; rfl
              have e2 : ansPk p st rv xm = p.ans st rv xm := by unfold ansPk; rw [e1]; rfl
              rw [e1, e2]
              dsimp only [Pk.ans]
              clear e1 e2
              go_enter Try.func13, Try.ntmps13
              go_wp2_with fail
              refine (HP.out _).mono ?_
              rintro e w1 ⟨rfl, rfl⟩
              go_wp2_with fail
              refine (l1In_c _ _ _ _).mono ?_
              rw [HS.out]
              rintro e w1 ⟨rfl, rfl⟩
              go_wp2_with fail
              refine (HA.out _).mono ?_
              rintro e w1 ⟨rfl, rfl⟩
              go_wp2_with fail
              go_returns
              exact ⟨rfl, by go_grown⟩
          · have E' := E.out
            rw [decide_eq_false hr] at E'
            have hr1 : xm < rv := by omega
            have hr2 : decide (xm < rv) = true := decide_eq_true hr1
            clear E
            have E := Lib.hid E'
            clear E'
            clear hr
            have e1 : ansOk p st rv xm = false := by rw [E.out]; rfl
            have e2 : ansPk p st rv xm = Pk.zero := by unfold ansPk; rw [e1]; rfl
            rw [e1, e2]
            dsimp only [Pk.zero]
            clear e1 e2
            go_enter Try.func13, Try.ntmps13
            go_wp2_with fail
            refine (HP.out _).mono ?_
            rintro e w1 ⟨rfl, rfl⟩
            go_wp2_with fail
            refine (l1In_c _ _ _ _).mono ?_
            rw [HS.out]
            rintro e w1 ⟨rfl, rfl⟩
            go_wp2_with fail
            go_returns
            exact ⟨rfl, by go_grown⟩
end Go.Proofs.Ytdogfcmedlgnaaa
