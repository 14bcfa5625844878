/- For every list of leaps and time the program's Smeared answers as the reference; its argument stays as it was. -/
import Derived.Test.YtlgmdicpmifcmaaLpI2
namespace Go.Proofs.Ytlgmdicpmifcmaa
open Go.ChangeShapes Go.WideShapes Go.ChangeAt Go.RowKit
set_option linter.unusedVariables false

set_option maxHeartbeats 1000000 in
theorem lpSm_walk (W : World) (x : Option Addr) (n cap : Nat) (l : List Lp) (h : Hid (n = l.length) ∧ n ≤ cap ∧ cap ≤ maxLen ∧ Lps W.heap.size W x l) (t : Int) (_ : (Lit.int .i64 t).wf = true) :
    Calls Try.prog 4 #[.slice x n cap, .int .i64 t] W fun e w' => e = .returned (.bool true) ∧ Below W.heap.size W w' := by
  obtain ⟨hn, hnc, hcm, hr⟩ := h
  have hnm : n ≤ maxLen := Nat.le_trans hnc hcm
  clear hnc hcm
  have hsz := szLeapS_c n 1048576 (by omega) (by omega) hnm x cap
  by_cases hlt : n ≤ 1048576
  · have HZ := Lib.hid (fun w => show Calls Try.prog 10 #[.slice x n cap, .int .i64 1048576] w fun e w' => e = .returned (.int .i64 (1048576 - n)) ∧ w = w' by have := hsz w; rwa [if_pos (by omega)] at this)
    have h1 : (0 : Int) ≤ 1048576 - n := by omega
    have h2 : (1048576 : Int) - n ≤ 1048576 := by omega
    clear hsz
    obtain ⟨u, hu⟩ : ∃ u, smearedV l t = u := ⟨_, rfl⟩
    have HS := Lib.hid (fun x cap w h => hu ▸ smeared_spec t l n hn hnm x cap w h)
    have HI := Lib.hid (fun x cap w h => hu ▸ smeared_impl t l n hn hnm x cap w h)
    have HT := Lib.hid (fun w h => toLeapS_c l n hn hlt x cap w h)
    have HE := Lib.hid (fun x y cap cap' w h h' => eqLeapS_c l n hn hnm x y cap cap' w h h')
    clear hu
    go_enter Try.func4, Try.ntmps4
    go_wp2_with fail
    refine (HZ.out _).mono ?_
    rintro e w1 ⟨rfl, rfl⟩
    go_wp2_with fail
    refine (HT.out _ hr).mono ?_
    rintro e w1 ⟨g1, rfl, t1, _, b1⟩
    go_wp2_with fail
    refine (HS.out _ _ _ t1.lps).mono ?_
    rintro e w2 ⟨rfl, b2⟩
    have G2 := grow_next b1 b2
    go_wp2_with fail
    refine (HT.out _ (hr.next G2)).mono ?_
    rintro e w3 ⟨g3, rfl, t3, hg3, b3⟩
    have G3 := grow_next G2 b3
    go_wp2_with fail
    refine (HI.out _ _ _ t3.lps).mono ?_
    rintro e w4 ⟨rfl, b4⟩
    have G4 := grow_next G3 b4
    have t4 := t3.next b4
    go_wp2_with fail
    refine (HT.out _ (hr.next G4)).mono ?_
    rintro e w5 ⟨g5, rfl, t5, hg5, b5⟩
    have G5 := grow_next G4 b5
    have t5' := t4.next b5
    go_wp2_with fail
    refine (HE.out _ _ _ _ _ t5'.lps t5.lps).mono ?_
    rintro e w6 ⟨rfl, b6⟩
    have G6 := grow_next G5 b6
    go_wp2_with fail
    go_returns
    exact ⟨rfl, G6⟩
  · have HZ := Lib.hid (fun w => show Calls Try.prog 10 #[.slice x n cap, .int .i64 1048576] w fun e w' => e = .returned (.int .i64 (-1)) ∧ w = w' by have := hsz w; rwa [if_neg (by omega)] at this)
    clear hsz
    go_enter Try.func4, Try.ntmps4
    go_wp2_with fail
    refine (HZ.out _).mono ?_
    rintro e w1 ⟨rfl, rfl⟩
    go_wp2_with fail
    go_returns
    exact ⟨rfl, Below.refl _ _⟩

set_option maxRecDepth 100000 in
theorem lpSm_lifted (os : Os) (started : os.Started) (H : Type) (enc : TypeId × Value → H) :
    ReturnsInHanded {} Try.checked os 4 .any (Rows.fnExactSmearedSpec.pre6 enc Try.prog Try.f4 Rows.fnExactSmearedRow.domain false) (Rows.fnExactSmearedSpec.post enc Try.prog Try.f4 false true false false) := by
  refine lifted_of_walk (C := Try.checked) own started (by as_aux_lemma => kernel_rfl) Try.func4
    (ChangeSpec.witness6 (enc := enc) (C := Try.checked) false ⟨#[], #[.slice none 0 0, .int .i64 0], []⟩ 8 (by as_aux_lemma => kernel_rfl) (by as_aux_lemma => kernel_rfl) (by as_aux_lemma => kernel_rfl) (by as_aux_lemma => kernel_rfl) (by as_aux_lemma => kernel_rfl))
    laidOut rfl (by as_aux_lemma => kernel_rfl) (by as_aux_lemma => kernel_rfl) boolType
    (fun ds h => by
      match ds, h with
      | [_, _], _ => rfl)
    ?_
  intro W base args ds q hval hA
  rw [Try.params4] at hA hval
  obtain ⟨v0, vs0, d0, ds0, p0, q0, hargs, rfl, rfl, h0, r0⟩ := trodAll_cons hA
  obtain ⟨v1, vs1, d1, ds1, p1, q1, rfl, rfl, rfl, h1, r1⟩ := trodAll_cons r0
  obtain ⟨rfl, rfl, rfl⟩ := trodAll_nil r1
  obtain rfl : args = #[v0, v1] := by cases args; simp_all
  obtain ⟨a0, len0, cap0, z0, rfl, w0⟩ := open_lps (hval 0 22 v0 rfl rfl) h0
  obtain ⟨a1, rfl, rfl, rfl, w1⟩ := open_int Try.underlying2 (hval 1 2 v1 rfl rfl) h1
  exact lpSm_walk W a0 len0 cap0 z0 w0 a1 w1

theorem lpSm_facts : joinedFacts Try.pinned.checked.prog 4 Try.f4 Rows.fnExactSmearedSpec Rows.fnExactSmearedRow = true :=
  facts_of (P := Try.prog) (by as_aux_lemma => kernel_rfl) laidOut mapsRow (by as_aux_lemma => kernel_rfl) (by as_aux_lemma => kernel_rfl) rfl noStops rfl noKnobs (by as_aux_lemma => kernel_rfl) (by as_aux_lemma => kernel_rfl) (by as_aux_lemma => kernel_rfl) (by as_aux_lemma => kernel_rfl) (by as_aux_lemma => kernel_rfl) (by as_aux_lemma => kernel_rfl) (by as_aux_lemma => kernel_rfl) (by as_aux_lemma => kernel_rfl) (by as_aux_lemma => kernel_rfl) rfl (by as_aux_lemma => kernel_rfl) (by as_aux_lemma => kernel_rfl) (by as_aux_lemma => kernel_rfl) keysPlain rfl heard enters finals isMake rfl rfl rfl (by as_aux_lemma => kernel_rfl) (by as_aux_lemma => kernel_rfl)

/-- The given statement. -/
theorem lpSm_holds : Rows.FnExactSmearedSaid :=
  OpenClaim.holds_of_wide 4 Try.f4 rfl rfl rfl rfl rfl rfl rfl ⟨rfl, rfl, rfl, rfl, rfl⟩ rfl rfl rfl rfl rfl (by as_aux_lemma => kernel_rfl) Try.func4 lpSm_facts
    (of_decide_eq_true (by as_aux_lemma => kernel_rfl)) (by unfold Func.isWrapper; first | (rw [if_pos (by decide +kernel)]; kernel_rfl) | (rw [if_neg (by decide +kernel)]; exact ⟨rfl, rfl⟩))
    (fun os started H enc _ => lpSm_lifted os started H enc)
#print axioms lpSm_holds
end Go.Proofs.Ytlgmdicpmifcmaa
