/- A poll changes by one at most; whoever answers often enough is asked as before: at all drawn registers and polls. -/
import Derived.Test.YtiaiihagoopkfaaRegDraw
namespace Go.Proofs.Ytiaiihagoopkfaa
open Go.ChangeShapes Go.WideShapes Go.ChangeAt Go.RowKit
set_option linter.unusedVariables false
set_option linter.unusedSimpArgs false

theorem pollV_no {n p : Int} (h : (regB n && inB 4 p 10) = false) : pollV n p = -1 := by unfold pollV; rw [h]; simp
theorem pollV_ok {n p : Int} (h : regB n = true) (hp : inB 4 p 10 = true) :
    4 ≤ pollV n p ∧ pollV n p ≤ 10 ∧ absV (pollV n p - p) ≤ 1 ∧ -1 ≤ pollV n p - p ∧ pollV n p - p ≤ 1 ∧ (¬ onesV n < 4 → pollV n p = p) ∧ (reachV n = false → p ≤ pollV n p) := by
  obtain ⟨p0, p1⟩ := inB_iff.1 hp
  have hz := zero_ones h
  have hv : pollV n p = if onesV n = 0 then min (p + 1) 10 else if onesV n < 4 then max (p - 1) 4 else p := by simp [pollV, h, hp]
  have hreach : reachV n = false → onesV n = 0 := by
    intro e
    rw [onesV_reg h]
    have hn : n = 0 := by
      obtain ⟨g0, g1⟩ := regB_iff.1 h
      simp [reachV, h] at e
      omega
    rw [decide_eq_true hn] at hz
    simpa using hz.symm
  obtain ⟨k, hk⟩ : ∃ k, onesV n = k := ⟨_, rfl⟩
  rw [hk] at hv hreach ⊢
  unfold absV
  rw [hv]
  by_cases k0 : k = 0
  · simp only [k0, if_true]
    refine ⟨by omega, by omega, ?_, by omega, by omega, fun h => by omega, fun _ => by omega⟩
    split <;> omega
  · by_cases k4 : k < 4
    · simp only [k0, k4, if_false, if_true]
      refine ⟨by omega, by omega, ?_, by omega, by omega, fun h => by first | exact (h trivial).elim | omega, fun e => (k0 (hreach e)).elim⟩
      split <;> omega
    · simp only [k0, k4, if_false]
      refine ⟨by omega, by omega, ?_, by omega, by omega, fun h => trivial, fun e => by omega⟩
      split <;> omega

set_option maxHeartbeats 1000000 in
theorem pollForFn_walk (w : World) (a : Option Addr) (n cap z : Nat) (hz : z = n ∧ Code w.heap.size w (.slice a n cap) n) :
    Calls Try.prog 10 #[.slice a n cap] w fun e w' => e = .returned (.bool true) ∧ Below w.heap.size w w' := by
  obtain ⟨hzn, hc⟩ := hz
  clear hzn
  by_cases hbig : n ≤ 1048576
  · go_enter Try.func10, Try.ntmps10
    go_wp2_with (go_at_call 25; go_in)
    refine (drawPollFor_c a n cap _ hc hbig).mono ?_
    rintro e w1 ⟨v, p, v0, v1, p0, p1, rfl, hb1⟩
    have HS := Lib.hid (pollFor_spec v p)
    have HI := Lib.hid (pollFor_impl v p)
    cases hr : regB v && inB 4 p 10 with
    | false =>
      rw [pollV_no hr] at HS HI
      go_wp2_with fail
      refine (HI.out _).mono ?_
      rintro e w2 ⟨rfl, hb2⟩
      have g2 := grow_next hb1 hb2
      go_wp2_with fail
      refine (HS.out _).mono ?_
      rintro e w3 ⟨rfl, rfl⟩
      go_wp2_with fail
      refine (HS.out _).mono ?_
      rintro e w4 ⟨rfl, rfl⟩
      go_wp2_with fail
      go_returns
      exact ⟨rfl, g2⟩
    | true =>
      obtain ⟨hr1, hr2⟩ := Bool.and_eq_true_iff.1 hr
      obtain ⟨q0, q1, qa, qb, qc, qo, qr⟩ := pollV_ok hr1 hr2
      have HO := Lib.hid (ones_impl v)
      have HR := Lib.hid (reachable_impl v)
      have ko0 : -1 ≤ onesV v := by rw [onesV_reg hr1]; have := cameN_ge (bitsTo v 8); omega
      obtain ⟨q, hq⟩ : ∃ q, pollV v p = q := ⟨_, rfl⟩
      obtain ⟨k, hk⟩ : ∃ k, onesV v = k := ⟨_, rfl⟩
      obtain ⟨b, hb⟩ : ∃ b, reachV v = b := ⟨_, rfl⟩
      rw [hq] at HS HI q0 q1 qa qb qc qo qr
      rw [hk] at HO qo ko0
      rw [hb] at HR qr
      have HA := Lib.hid (abs_c (q - p) (by omega) (by omega))
      obtain ⟨d, hd⟩ : ∃ d, absV (q - p) = d := ⟨_, rfl⟩
      rw [hd] at HA qa
      obtain ⟨p2, p3⟩ := inB_iff.1 hr2
      clear hq hk hb hd hr hr1 hr2
      go_wp2_with fail
      refine (HI.out _).mono ?_
      rintro e w2 ⟨rfl, hb2⟩
      have g2 := grow_next hb1 hb2
      go_wp2_with fail
      refine (HS.out _).mono ?_
      rintro e w3 ⟨rfl, rfl⟩
      by_cases k4 : k < 4
      · have d4 : decide (k < 4) = true := decide_eq_true k4
        clear qo
        go_wp2_with fail
        refine (HA.out _).mono ?_
        rintro e w4 ⟨rfl, rfl⟩
        go_wp2_with fail
        refine (HO.out _).mono ?_
        rintro e w5 ⟨rfl, hb5⟩
        have g5 := grow_next g2 hb5
        go_wp2_with fail
        refine (HR.out _).mono ?_
        rintro e w6 ⟨rfl, hb6⟩
        have g6 := grow_next g5 hb6
        cases b with
        | true =>
          clear qr
          go_wp2_with fail
          go_returns
          exact ⟨rfl, g6⟩
        | false =>
          have qr' := qr rfl
          go_wp2_with fail
          go_returns
          exact ⟨rfl, g6⟩
      · have d4 : decide (k < 4) = false := decide_eq_false k4
        have e1 : (q == p) = true := by rw [qo (by omega)]; simp
        clear qo
        go_wp2_with fail
        refine (HA.out _).mono ?_
        rintro e w4 ⟨rfl, rfl⟩
        go_wp2_with fail
        refine (HO.out _).mono ?_
        rintro e w5 ⟨rfl, hb5⟩
        have g5 := grow_next g2 hb5
        go_wp2_with fail
        refine (HR.out _).mono ?_
        rintro e w6 ⟨rfl, hb6⟩
        have g6 := grow_next g5 hb6
        cases b with
        | true =>
          clear qr
          go_wp2_with fail
          go_returns
          exact ⟨rfl, g6⟩
        | false =>
          have qr' := qr rfl
          go_wp2_with fail
          go_returns
          exact ⟨rfl, g6⟩
  · go_enter Try.func10, Try.ntmps10
    go_wp2_with (go_at_call 25; go_in)
    go_returns
    exact ⟨rfl, Below.refl _ _⟩

set_option maxRecDepth 100000 in
theorem pollForFn_lifted (os : Os) (started : os.Started) (H : Type) (enc : TypeId × Value → H) :
    ReturnsInHanded {} Try.checked os 10 .any (Rows.fnPollForSpec.pre6 enc Try.prog Try.f10 Rows.fnPollForRow.domain false) (Rows.fnPollForSpec.post enc Try.prog Try.f10 false true false false) := by
  refine lifted_of_walk (C := Try.checked) own started (by as_aux_lemma => kernel_rfl) Try.func10
    (ChangeSpec.witness6 (enc := enc) (C := Try.checked) false ⟨#[], #[.slice none 0 0], []⟩ 8 (by as_aux_lemma => kernel_rfl) (by as_aux_lemma => kernel_rfl) (by as_aux_lemma => kernel_rfl) (by as_aux_lemma => kernel_rfl) (by as_aux_lemma => kernel_rfl))
    laidOut rfl (by as_aux_lemma => kernel_rfl) (by as_aux_lemma => kernel_rfl) boolType
    (fun ds h => by
      match ds, h with
      | [_], _ => rfl)
    ?_
  intro W base args ds q hval hA
  rw [Try.params10] at hA hval
  obtain ⟨v0, vs0, d0, ds0, p0, q0, hargs, rfl, rfl, h0, r0⟩ := trodAll_cons hA
  obtain ⟨rfl, rfl, rfl⟩ := trodAll_nil r0
  obtain rfl : args = #[v0] := by cases args; simp_all
  obtain ⟨a0, len0, cap0, z0, rfl, w0⟩ := open_bytes Try.underlying33 Try.underlying5 (by as_aux_lemma => kernel_rfl) (hval 0 33 v0 rfl rfl) h0
  exact pollForFn_walk W a0 len0 cap0 z0 w0

theorem pollForFn_facts : joinedFacts Try.pinned.checked.prog 10 Try.f10 Rows.fnPollForSpec Rows.fnPollForRow = true :=
  facts_of (P := Try.prog) (by as_aux_lemma => kernel_rfl) laidOut mapsRow (by as_aux_lemma => kernel_rfl) (by as_aux_lemma => kernel_rfl) rfl noStops rfl noKnobs (by as_aux_lemma => kernel_rfl) (by as_aux_lemma => kernel_rfl) (by as_aux_lemma => kernel_rfl) (by as_aux_lemma => kernel_rfl) (by as_aux_lemma => kernel_rfl) (by as_aux_lemma => kernel_rfl) (by as_aux_lemma => kernel_rfl) (by as_aux_lemma => kernel_rfl) (by as_aux_lemma => kernel_rfl) rfl (by as_aux_lemma => kernel_rfl) (by as_aux_lemma => kernel_rfl) (by as_aux_lemma => kernel_rfl) keysPlain rfl heard enters finals isMake rfl rfl rfl (by as_aux_lemma => kernel_rfl) (by as_aux_lemma => kernel_rfl)

/-- The given statement. -/
theorem pollForFn_holds : Rows.FnPollForSaid :=
  OpenClaim.holds_of_wide 10 Try.f10 rfl rfl rfl rfl rfl rfl rfl ⟨rfl, rfl, rfl, rfl, rfl⟩ rfl rfl rfl rfl rfl (by as_aux_lemma => kernel_rfl) Try.func10 pollForFn_facts
    (of_decide_eq_true (by as_aux_lemma => kernel_rfl)) (by unfold Func.isWrapper; first | (rw [if_pos (by decide +kernel)]; kernel_rfl) | (rw [if_neg (by decide +kernel)]; exact ⟨rfl, rfl⟩))
    (fun os started H enc _ => pollForFn_lifted os started H enc)
#print axioms pollForFn_holds
end Go.Proofs.Ytiaiihagoopkfaa
