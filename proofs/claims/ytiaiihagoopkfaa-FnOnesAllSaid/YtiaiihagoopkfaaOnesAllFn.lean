/- A register and its opposite have eight ones together: at every drawn register. -/
import Derived.Test.YtiaiihagoopkfaaRegDraw
namespace Go.Proofs.Ytiaiihagoopkfaa
open Go.ChangeShapes Go.WideShapes Go.ChangeAt Go.RowKit
set_option linter.unusedVariables false

theorem opposite {n : Int} (h : regB n = true) : cameN (bitsTo n 8) + cameN (bitsTo (255 - n) 8) = 8 := by
  have := reg_all (p := fun n => cameN (bitsTo n 8) + cameN (bitsTo (255 - n) 8) == 8) (by decide +kernel) h
  simpa using this

set_option maxHeartbeats 1000000 in
theorem onesAll_walk (w : World) (a : Option Addr) (n cap z : Nat) (hz : z = n ∧ Code w.heap.size w (.slice a n cap) n) :
    Calls Try.prog 11 #[.slice a n cap] w fun e w' => e = .returned (.bool true) ∧ Below w.heap.size w w' := by
  obtain ⟨hzn, hc⟩ := hz
  clear hzn
  by_cases hbig : n ≤ 1048576
  · go_enter Try.func11, Try.ntmps11
    go_wp2_with (go_at_call 25; go_in)
    refine (drawOnes_c a n cap _ hc hbig).mono ?_
    rintro e w1 ⟨v, v0, v1, rfl, hb1⟩
    have HS := Lib.hid (ones_spec v)
    have HI := Lib.hid (ones_impl v)
    cases hr : regB v with
    | false =>
      rw [onesV_no hr] at HS HI
      go_wp2_with fail
      refine (HI.out _).mono ?_
      rintro e w2 ⟨rfl, hb2⟩
      have g2 := grow_next hb1 hb2
      go_wp2_with fail
      refine (HS.out _).mono ?_
      rintro e w3 ⟨rfl, rfl⟩
      go_wp2_with fail
      go_returns
      exact ⟨rfl, g2⟩
    | true =>
      obtain ⟨g0, g1⟩ := regB_iff.1 hr
      have hr2 : regB (255 - v) = true := regB_iff.2 ⟨by omega, by omega⟩
      have HJ := Lib.hid (ones_impl (255 - v))
      have ho := opposite hr
      rw [onesV_reg hr] at HS HI
      rw [onesV_reg hr2] at HJ
      have k0 := cameN_ge (bitsTo v 8)
      have k1 := cameN_ge (bitsTo (255 - v) 8)
      obtain ⟨p, hp⟩ : ∃ p, cameN (bitsTo v 8) = p := ⟨_, rfl⟩
      obtain ⟨q, hq⟩ : ∃ q, cameN (bitsTo (255 - v) 8) = q := ⟨_, rfl⟩
      rw [hp] at HS HI k0 ho
      rw [hq] at HJ k1 ho
      clear hp hq hr hr2
      obtain rfl : q = 8 - p := by omega
      go_wp2_with fail
      refine (HI.out _).mono ?_
      rintro e w2 ⟨rfl, hb2⟩
      have g2 := grow_next hb1 hb2
      go_wp2_with fail
      refine (HS.out _).mono ?_
      rintro e w3 ⟨rfl, rfl⟩
      go_wp2_with fail
      refine (HJ.out _).mono ?_
      rintro e w4 ⟨rfl, hb4⟩
      have g4 := grow_next g2 hb4
      have e8 : (p + (8 - p) == 8) = true := by simp; omega
      go_wp2_with fail
      go_returns
      exact ⟨by first | rfl | (simp; omega), g4⟩
  · go_enter Try.func11, Try.ntmps11
    go_wp2_with (go_at_call 25; go_in)
    go_returns
    exact ⟨rfl, Below.refl _ _⟩

set_option maxRecDepth 100000 in
theorem onesAll_lifted (os : Os) (started : os.Started) (H : Type) (enc : TypeId × Value → H) :
    ReturnsInHanded {} Try.checked os 11 .any (Rows.fnOnesAllSpec.pre6 enc Try.prog Try.f11 Rows.fnOnesAllRow.domain false) (Rows.fnOnesAllSpec.post enc Try.prog Try.f11 false true false false) := by
  refine lifted_of_walk (C := Try.checked) own started (by as_aux_lemma => kernel_rfl) Try.func11
    (ChangeSpec.witness6 (enc := enc) (C := Try.checked) false ⟨#[], #[.slice none 0 0], []⟩ 8 (by as_aux_lemma => kernel_rfl) (by as_aux_lemma => kernel_rfl) (by as_aux_lemma => kernel_rfl) (by as_aux_lemma => kernel_rfl) (by as_aux_lemma => kernel_rfl))
    laidOut rfl (by as_aux_lemma => kernel_rfl) (by as_aux_lemma => kernel_rfl) boolType
    (fun ds h => by
      match ds, h with
      | [_], _ => rfl)
    ?_
  intro W base args ds q hval hA
  rw [Try.params11] at hA hval
  obtain ⟨v0, vs0, d0, ds0, p0, q0, hargs, rfl, rfl, h0, r0⟩ := trodAll_cons hA
  obtain ⟨rfl, rfl, rfl⟩ := trodAll_nil r0
  obtain rfl : args = #[v0] := by cases args; simp_all
  obtain ⟨a0, len0, cap0, z0, rfl, w0⟩ := open_bytes Try.underlying33 Try.underlying5 (by as_aux_lemma => kernel_rfl) (hval 0 33 v0 rfl rfl) h0
  exact onesAll_walk W a0 len0 cap0 z0 w0

theorem onesAll_facts : joinedFacts Try.pinned.checked.prog 11 Try.f11 Rows.fnOnesAllSpec Rows.fnOnesAllRow = true :=
  facts_of (P := Try.prog) (by as_aux_lemma => kernel_rfl) laidOut mapsRow (by as_aux_lemma => kernel_rfl) (by as_aux_lemma => kernel_rfl) rfl noStops rfl noKnobs (by as_aux_lemma => kernel_rfl) (by as_aux_lemma => kernel_rfl) (by as_aux_lemma => kernel_rfl) (by as_aux_lemma => kernel_rfl) (by as_aux_lemma => kernel_rfl) (by as_aux_lemma => kernel_rfl) (by as_aux_lemma => kernel_rfl) (by as_aux_lemma => kernel_rfl) (by as_aux_lemma => kernel_rfl) rfl (by as_aux_lemma => kernel_rfl) (by as_aux_lemma => kernel_rfl) (by as_aux_lemma => kernel_rfl) keysPlain rfl heard enters finals isMake rfl rfl rfl (by as_aux_lemma => kernel_rfl) (by as_aux_lemma => kernel_rfl)

/-- The given statement. -/
theorem onesAll_holds : Rows.FnOnesAllSaid :=
  OpenClaim.holds_of_wide 11 Try.f11 rfl rfl rfl rfl rfl rfl rfl ⟨rfl, rfl, rfl, rfl, rfl⟩ rfl rfl rfl rfl rfl (by as_aux_lemma => kernel_rfl) Try.func11 onesAll_facts
    (of_decide_eq_true (by as_aux_lemma => kernel_rfl)) (by unfold Func.isWrapper; first | (rw [if_pos (by decide +kernel)]; kernel_rfl) | (rw [if_neg (by decide +kernel)]; exact ⟨rfl, rfl⟩))
    (fun os started H enc _ => onesAll_lifted os started H enc)
#print axioms onesAll_holds
end Go.Proofs.Ytiaiihagoopkfaa
