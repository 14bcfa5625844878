/- A register has the last eight answers: behind eight that came it is full, behind eight that did not it is empty: at every drawn register. -/
import Derived.Test.YtiaiihagoopkfaaRegDraw
namespace Go.Proofs.Ytiaiihagoopkfaa
open Go.ChangeShapes Go.WideShapes Go.ChangeAt Go.RowKit
set_option linter.unusedVariables false
set_option linter.unusedSimpArgs false

/-- So many of one answer. -/
def runsR (g : Bool) : Nat → Int → Int
  | 0, n => n
  | k + 1, n => shiftR (runsR g k n) g
theorem runsR_reg (g : Bool) {n : Int} (h : regB n = true) : ∀ k, regB (runsR g k n) = true
  | 0 => h
  | k + 1 => shiftR_reg _ _
theorem runs_full {n : Int} (h : regB n = true) : runsR true 8 n = 255 := by
  have := reg_all (p := fun n => runsR true 8 n == 255) (by decide +kernel) h
  simpa using this
theorem runs_none {n : Int} (h : regB n = true) : runsR false 8 n = 0 := by
  have := reg_all (p := fun n => runsR false 8 n == 0) (by decide +kernel) h
  simpa using this
theorem shift_ones {n : Int} (h : regB n = true) (g : Bool) : cameN (bitsTo (shiftR n g) 8) = cameN (bitsTo n 8) + (if g then 1 else 0) - (if 128 ≤ n then 1 else 0) := by
  have := reg_all (p := fun n => (cameN (bitsTo (shiftR n true) 8) == cameN (bitsTo n 8) + 1 - (if 128 ≤ n then 1 else 0)) && (cameN (bitsTo (shiftR n false) 8) == cameN (bitsTo n 8) + 0 - (if 128 ≤ n then 1 else 0))) (by decide +kernel) h
  simp only [Bool.and_eq_true, beq_iff_eq] at this
  cases g
  · simpa using this.2
  · simpa using this.1
theorem shift_reach {n : Int} (h : regB n = true) : reachV (shiftR n true) = true := by
  have := reg_all (p := fun n => reachV (shiftR n true)) (by decide +kernel) h
  simpa using this

set_option maxHeartbeats 2000000 in
theorem shiftedFn_walk (w : World) (a : Option Addr) (n cap z : Nat) (hz : z = n ∧ Code w.heap.size w (.slice a n cap) n) :
    Calls Try.prog 8 #[.slice a n cap] w fun e w' => e = .returned (.bool true) ∧ Below w.heap.size w w' := by
  obtain ⟨hzn, hc⟩ := hz
  clear hzn
  by_cases hbig : n ≤ 1048576
  · go_enter Try.func8, Try.ntmps8
    go_wp2_with (go_at_call 25; go_in)
    refine (drawShifted_c a n cap _ hc hbig).mono ?_
    rintro e w1 ⟨v, g, v0, v1, rfl, hb1⟩
    have HI := Lib.hid (shifted_impl v g)
    have HS := Lib.hid (shifted_spec v g)
    obtain ⟨m, hm⟩ : ∃ m, shiftV v g = m := ⟨_, rfl⟩
    rw [hm] at HI HS
    go_wp2_with fail
    refine (HI.out _).mono ?_
    rintro e w2 ⟨rfl, rfl⟩
    go_wp2_with fail
    refine (drawOnes_c a n cap _ (hc.next hb1) hbig).mono ?_
    rintro e w2 ⟨o, o0, o1, rfl, hb2⟩
    have g2 := grow_next hb1 hb2
    go_wp2_with fail
    refine (drawReachable_c a n cap _ (hc.next g2) hbig).mono ?_
    rintro e w3 ⟨u, u0, u1, rfl, hb3⟩
    have g3 := grow_next g2 hb3
    clear hb1 hb2 hb3 g2
    have HIo := Lib.hid (ones_impl o)
    have HSo := Lib.hid (ones_spec o)
    have HIu := Lib.hid (reachable_impl u)
    have HSu := Lib.hid (reachable_spec u)
    obtain ⟨ko, hko⟩ : ∃ k, onesV o = k := ⟨_, rfl⟩
    obtain ⟨bu, hbu⟩ : ∃ b, reachV u = b := ⟨_, rfl⟩
    rw [hko] at HIo HSo
    rw [hbu] at HIu HSu
    clear hko hbu
    go_wp2_with fail
    refine (HS.out _).mono ?_
    rintro e w4 ⟨rfl, rfl⟩
    go_wp2_with fail
    refine (HIo.out _).mono ?_
    rintro e w4 ⟨rfl, hb4⟩
    have g4 := grow_next g3 hb4
    go_wp2_with fail
    refine (HSo.out _).mono ?_
    rintro e w5 ⟨rfl, rfl⟩
    go_wp2_with fail
    refine (HIu.out _).mono ?_
    rintro e w5 ⟨rfl, hb5⟩
    have g5 := grow_next g4 hb5
    go_wp2_with fail
    refine (HSu.out _).mono ?_
    rintro e w6 ⟨rfl, rfl⟩
    clear g3 g4 hb4 hb5
    cases hr : regB v with
    | false =>
      rw [shiftV_no hr] at hm
      subst hm
      have huu : ((bu == bu)) = true := by simp
      have hun : (!(bu == bu)) = false := by simp
      go_wp2_with fail
      refine (HS.out _).mono ?_
      rintro e w6 ⟨rfl, rfl⟩
      go_wp2_with fail
      refine (HIo.out _).mono ?_
      rintro e w6 ⟨rfl, hb6⟩
      have g6 := grow_next g5 hb6
      go_wp2_with fail
      refine (HSo.out _).mono ?_
      rintro e w7 ⟨rfl, rfl⟩
      go_wp2_with fail
      refine (HIu.out _).mono ?_
      rintro e w7 ⟨rfl, hb7⟩
      have g7 := grow_next g6 hb7
      go_wp2_with fail
      refine (HSu.out _).mono ?_
      rintro e w8 ⟨rfl, rfl⟩
      go_wp2_with fail
      go_returns
      exact ⟨by simp, g7⟩
    | true =>
      rw [shiftV_reg hr] at hm
      obtain ⟨m0, m1⟩ := regB_iff.1 (show regB m = true by rw [← hm]; exact shiftR_reg _ _)
      obtain ⟨n0, n1⟩ := regB_iff.1 hr
      have HR := Lib.hid hr
      have HM := Lib.hid hm
      clear hm hr
      have hun : (!(bu == bu)) = false := by simp
      go_wp2_with fail
      go_loopw [8, 9, 10] (fun f0 n0 i wr => ∃ k : Nat, k ≤ 8 ∧ i = .int .i64 k ∧ f0 = .int .i64 (runsR true k v) ∧ n0 = .int .i64 (runsR false k v) ∧ Below w.heap.size w wr) (fun _ _ i _ => 8 - (intOf i).toNat)
      case atStart => exact ⟨0, Nat.zero_le _, rfl, rfl, rfl, g5⟩
      case round =>
        obtain ⟨k, hk, rfl, rfl, rfl, gr⟩ := hrel
        by_cases hlt : k < 8
        · have HA := Lib.hid (fun w => show Calls Try.prog 14 #[.int .i64 (runsR true k v), .bool true] w fun e W' => e = .returned (.int .i64 (runsR true (k + 1) v)) ∧ w = W' by
            have := shifted_impl (runsR true k v) true w
            rwa [shiftV_reg (runsR_reg true HR.out k)] at this)
          have HN := Lib.hid (fun w => show Calls Try.prog 14 #[.int .i64 (runsR false k v), .bool false] w fun e W' => e = .returned (.int .i64 (runsR false (k + 1) v)) ∧ w = W' by
            have := shifted_impl (runsR false k v) false w
            rwa [shiftV_reg (runsR_reg false HR.out k)] at this)
          go_wp2_with fail
          refine (HA.out _).mono ?_
          rintro e w6 ⟨rfl, rfl⟩
          go_wp2_with fail
          refine (HN.out _).mono ?_
          rintro e w6 ⟨rfl, rfl⟩
          go_wp2_with fail
          go_roundw
          case rel => exact ⟨k + 1, by omega, by go_num, rfl, rfl, gr⟩
          case measure => simp [intOf]; omega
        · obtain rfl : k = 8 := by omega
          rw [runs_full HR.out, runs_none HR.out]
          have HOn := Lib.hid (ones_impl v)
          have HOm := Lib.hid (ones_impl m)
          have HRm := Lib.hid (reachable_impl m)
          have HRM : regB m = true := by rw [← HM.out]; exact shiftR_reg _ _
          rw [onesV_reg HR.out] at HOn
          rw [onesV_reg HRM] at HOm
          clear HRM
          have k0 := cameN_ge (bitsTo v 8)
          have k1 := cameN_le (bitsTo v 8)
          rw [bitsTo_length] at k1
          have hs := shift_ones HR.out g
          rw [HM.out] at hs
          obtain ⟨p, hp⟩ : ∃ p, cameN (bitsTo v 8) = p := ⟨_, rfl⟩
          obtain ⟨q, hq⟩ : ∃ q, cameN (bitsTo m 8) = q := ⟨_, rfl⟩
          rw [hp] at HOn hs k0 k1
          rw [hq] at HOm hs
          clear hp hq
          cases g with
          | true =>
            have hrm : reachV m = true := by rw [← HM.out]; exact shift_reach HR.out
            rw [hrm] at HRm
            clear hrm
            by_cases hv : 128 ≤ v
            · have e1 : (q == p + 1 - 1) = true := by simp [hv] at hs; simp; omega
              have e2 : (q == p) = true := by simp [hv] at hs; simp; omega
              clear hs
              go_wp2_with fail
              refine (HOn.out _).mono ?_
              rintro e w6 ⟨rfl, hb6⟩
              have g6 := grow_next gr hb6
              go_wp2_with fail
              refine (HOm.out _).mono ?_
              rintro e w7 ⟨rfl, hb7⟩
              have g7 := grow_next g6 hb7
              go_wp2_with fail
              refine (HRm.out _).mono ?_
              rintro e w8 ⟨rfl, hb8⟩
              have g8 := grow_next g7 hb8
              go_wp2_with fail
              go_returns
              exact ⟨rfl, g8⟩
            · have e1 : (q == p + 1) = true := by simp [hv] at hs; simp; omega
              clear hs
              go_wp2_with fail
              refine (HOn.out _).mono ?_
              rintro e w6 ⟨rfl, hb6⟩
              have g6 := grow_next gr hb6
              go_wp2_with fail
              refine (HOm.out _).mono ?_
              rintro e w7 ⟨rfl, hb7⟩
              have g7 := grow_next g6 hb7
              go_wp2_with fail
              refine (HRm.out _).mono ?_
              rintro e w8 ⟨rfl, hb8⟩
              have g8 := grow_next g7 hb8
              go_wp2_with fail
              go_returns
              exact ⟨rfl, g8⟩
          | false =>
            by_cases hv : 128 ≤ v
            · have e1 : (q == p - 1) = true := by simp [hv] at hs; simp; omega
              have e2 : (q == p + 1 - 1 - 1) = true := by simp [hv] at hs; simp; omega
              clear hs
              go_wp2_with fail
              refine (HOn.out _).mono ?_
              rintro e w6 ⟨rfl, hb6⟩
              have g6 := grow_next gr hb6
              go_wp2_with fail
              refine (HOm.out _).mono ?_
              rintro e w7 ⟨rfl, hb7⟩
              have g7 := grow_next g6 hb7
              go_wp2_with fail
              go_returns
              exact ⟨rfl, g7⟩
            · have e1 : (q == p) = true := by simp [hv] at hs; simp; omega
              have e2 : (q == p + 1 - 1) = true := by simp [hv] at hs; simp; omega
              clear hs
              go_wp2_with fail
              refine (HOn.out _).mono ?_
              rintro e w6 ⟨rfl, hb6⟩
              have g6 := grow_next gr hb6
              go_wp2_with fail
              refine (HOm.out _).mono ?_
              rintro e w7 ⟨rfl, hb7⟩
              have g7 := grow_next g6 hb7
              go_wp2_with fail
              go_returns
              exact ⟨rfl, g7⟩
  · go_enter Try.func8, Try.ntmps8
    go_wp2_with (go_at_call 25; go_in)
    go_returns
    exact ⟨rfl, Below.refl _ _⟩

set_option maxRecDepth 100000 in
theorem shiftedFn_lifted (os : Os) (started : os.Started) (H : Type) (enc : TypeId × Value → H) :
    ReturnsInHanded {} Try.checked os 8 .any (Rows.fnShiftedSpec.pre6 enc Try.prog Try.f8 Rows.fnShiftedRow.domain false) (Rows.fnShiftedSpec.post enc Try.prog Try.f8 false true false false) := by
  refine lifted_of_walk (C := Try.checked) own started (by as_aux_lemma => kernel_rfl) Try.func8
    (ChangeSpec.witness6 (enc := enc) (C := Try.checked) false ⟨#[], #[.slice none 0 0], []⟩ 8 (by as_aux_lemma => kernel_rfl) (by as_aux_lemma => kernel_rfl) (by as_aux_lemma => kernel_rfl) (by as_aux_lemma => kernel_rfl) (by as_aux_lemma => kernel_rfl))
    laidOut rfl (by as_aux_lemma => kernel_rfl) (by as_aux_lemma => kernel_rfl) boolType
    (fun ds h => by
      match ds, h with
      | [_], _ => rfl)
    ?_
  intro W base args ds q hval hA
  rw [Try.params8] at hA hval
  obtain ⟨v0, vs0, d0, ds0, p0, q0, hargs, rfl, rfl, h0, r0⟩ := trodAll_cons hA
  obtain ⟨rfl, rfl, rfl⟩ := trodAll_nil r0
  obtain rfl : args = #[v0] := by cases args; simp_all
  obtain ⟨a0, len0, cap0, z0, rfl, w0⟩ := open_bytes Try.underlying33 Try.underlying5 (by as_aux_lemma => kernel_rfl) (hval 0 33 v0 rfl rfl) h0
  exact shiftedFn_walk W a0 len0 cap0 z0 w0

theorem shiftedFn_facts : joinedFacts Try.pinned.checked.prog 8 Try.f8 Rows.fnShiftedSpec Rows.fnShiftedRow = true :=
  facts_of (P := Try.prog) (by as_aux_lemma => kernel_rfl) laidOut mapsRow (by as_aux_lemma => kernel_rfl) (by as_aux_lemma => kernel_rfl) rfl noStops rfl noKnobs (by as_aux_lemma => kernel_rfl) (by as_aux_lemma => kernel_rfl) (by as_aux_lemma => kernel_rfl) (by as_aux_lemma => kernel_rfl) (by as_aux_lemma => kernel_rfl) (by as_aux_lemma => kernel_rfl) (by as_aux_lemma => kernel_rfl) (by as_aux_lemma => kernel_rfl) (by as_aux_lemma => kernel_rfl) rfl (by as_aux_lemma => kernel_rfl) (by as_aux_lemma => kernel_rfl) (by as_aux_lemma => kernel_rfl) keysPlain rfl heard enters finals isMake rfl rfl rfl (by as_aux_lemma => kernel_rfl) (by as_aux_lemma => kernel_rfl)

/-- The given statement. -/
theorem shiftedFn_holds : Rows.FnShiftedSaid :=
  OpenClaim.holds_of_wide 8 Try.f8 rfl rfl rfl rfl rfl rfl rfl ⟨rfl, rfl, rfl, rfl, rfl⟩ rfl rfl rfl rfl rfl (by as_aux_lemma => kernel_rfl) Try.func8 shiftedFn_facts
    (of_decide_eq_true (by as_aux_lemma => kernel_rfl)) (by unfold Func.isWrapper; first | (rw [if_pos (by decide +kernel)]; kernel_rfl) | (rw [if_neg (by decide +kernel)]; exact ⟨rfl, rfl⟩))
    (fun os started H enc _ => shiftedFn_lifted os started H enc)
#print axioms shiftedFn_holds
end Go.Proofs.Ytiaiihagoopkfaa
