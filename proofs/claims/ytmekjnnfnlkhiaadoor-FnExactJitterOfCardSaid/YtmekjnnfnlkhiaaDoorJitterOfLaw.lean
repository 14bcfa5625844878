/- For every list of samples the program's JitterOf answers as the reference; its argument stays as it was. -/
import Derived.Test.YtmekjnnfnlkhiaaDoorSmsL
import Derived.Test.YtmekjnnfnlkhiaaDoorFilAddI
import Derived.Test.YtmekjnnfnlkhiaaDoorFilOthS
import Derived.Test.YtmekjnnfnlkhiaaDoorTie
import Derived.Test.YtmekjnnfnlkhiaaDoorCards
namespace Go.Proofs.YtmekjnnfnlkhiaaDoor
open Go.ChangeShapes Go.WideShapes Go.ChangeAt Go.RowKit
set_option linter.unusedVariables false
set_option linter.unusedSimpArgs false

set_option maxRecDepth 100000 in
set_option maxHeartbeats 2000000 in
theorem fxjit_walk (W : World) {ao an au : Addr} (L : Ld W ao an au) (x : Option Addr) (n cap : Nat) (l : List Sm) (h : Hid (n = l.length) ∧ n ≤ cap ∧ cap ≤ maxLen ∧ Sms W.heap.size W x l) :
    Calls Tryd.prog 11 #[.slice x n cap] W fun e w' => e = .returned (.bool true) ∧ Below W.heap.size W w' := by
  obtain ⟨hn, hnc, hcm, hr⟩ := h
  have hnm : n ≤ maxLen := Nat.le_trans hnc hcm
  clear hnc hcm
  have hsz := szSampleS_c n 1048576 (by omega) (by omega) hnm x cap
  by_cases hlt : n ≤ 1048576
  · have HZ := Lib.hid (fun w => show Calls Tryd.prog 31 #[.slice x n cap, .int .i64 1048576] w fun e w' => e = .returned (.int .i64 (1048576 - n)) ∧ w = w' by have := hsz w; rwa [if_pos (by omega)] at this)
    have h1 : (0 : Int) ≤ 1048576 - n := by omega
    have h2 : (1048576 : Int) - n ≤ 1048576 := by omega
    clear hsz
    obtain ⟨v, hv⟩ : ∃ v, (if okSms l then jitV l else -1) = v := ⟨_, rfl⟩
    have hS := fun x cap w h => jitterOf_spec l n hn hnm x cap w h
    have hI := fun x cap w h {ao an au} L => @jitterOf_impl l n hn hnm x cap w h ao an au L
    rw [hv] at hS hI
    have HS := Lib.hid hS
    have HI := Lib.hid hI
    clear hS hI hv
    have HT := Lib.hid (fun w h => toSampleS_c l n hn hlt x cap w h)
    have HE := Lib.hid (fun x y cap cap' w h h' => eqSampleS_c l n hn hnm x y cap cap' w h h')
    go_enter Tryd.func11, Tryd.ntmps11
    go_wp2_with fail
    refine (HZ.out _).mono ?_
    rintro e w1 ⟨rfl, rfl⟩
    go_wp2_with fail
    refine (HT.out _ hr).mono ?_
    rintro e w1 ⟨g1, rfl, t1, _, b1⟩
    go_wp2_with fail
    refine (HS.out _ _ _ t1.sms).mono ?_
    rintro e w2 ⟨rfl, b2⟩
    have G2 := grow_next b1 b2
    go_wp2_with fail
    refine (HT.out _ (hr.next G2)).mono ?_
    rintro e w3 ⟨g3, rfl, t3, _, b3⟩
    have G3 := grow_next G2 b3
    go_wp2_with fail
    refine (HI.out _ _ _ t3.sms (L.next G3)).mono ?_
    rintro e w4 ⟨rfl, b4⟩
    have G4 := grow_next G3 b4
    have t4 := t3.next b4
    go_wp2_with fail
    refine (HT.out _ (hr.next G4)).mono ?_
    rintro e w5 ⟨g5, rfl, t5, _, b5⟩
    have G5 := grow_next G4 b5
    have t4' := t4.next b5
    go_wp2_with fail
    refine (HE.out _ _ _ _ _ t4'.sms t5.sms).mono ?_
    rintro e w6 ⟨rfl, b6⟩
    have G6 := grow_next G5 b6
    go_wp2_with fail
    go_returns
    exact ⟨rfl, G6⟩
  · have HZ := Lib.hid (fun w => show Calls Tryd.prog 31 #[.slice x n cap, .int .i64 1048576] w fun e w' => e = .returned (.int .i64 (-1)) ∧ w = w' by have := hsz w; rwa [if_neg (by omega)] at this)
    clear hsz
    go_enter Tryd.func11, Tryd.ntmps11
    go_wp2_with fail
    refine (HZ.out _).mono ?_
    rintro e w1 ⟨rfl, rfl⟩
    go_wp2_with fail
    go_returns
    exact ⟨rfl, Below.refl _ _⟩
theorem fxjit_met (os : Os) (args : Array Value) : laidMetH Tryd.prog Rows.fnExactJitterOfRow.laid ((World.doorLaid Tryd.prog 400 os).forCall (fun _ _ => 0) ⟨#[], args, []⟩).memory :=
  laidMetH_of_parts3 (fuel := 8) (laidMet_of_run' 8 (by kernel_rfl) (by kernel_rfl)) (by kernel_rfl) (by kernel_rfl)
set_option maxRecDepth 100000 in
theorem fxjit_lifted (os : Os) (started : os.Started) (H : Type) (enc : TypeId × Value → H) :
    ReturnsInHanded {} Tryd.checked os 11 .any (fun w args => (Rows.fnExactJitterOfSpec.pre enc Tryd.prog Tryd.f11 [] false w args ∧ laidMetH Tryd.prog Rows.fnExactJitterOfRow.laid w) ∧ sizedMet enc Tryd.prog Tryd.f11 (OpenSpec.ofChange Rows.fnExactJitterOfSpec) false w args) (Rows.fnExactJitterOfSpec.post enc Tryd.prog Tryd.f11 false true false false) := by
  refine lifted_of_walk_laid (C := Tryd.checked) own started (by as_aux_lemma => kernel_rfl) Tryd.func11
    (ChangeSpec.witness_shaped (enc := enc) (C := Tryd.checked) (os := os) (X := fun w _ => laidMetH Tryd.prog Rows.fnExactJitterOfRow.laid w) false (World.doorLaid Tryd.prog 400 os) #[.slice none 0 0] 8 rfl (World.shaped_of_RefB (by kernel_rfl) (by kernel_rfl)) (by kernel_rfl) (by kernel_rfl) (by kernel_rfl) (fxjit_met os _))
    laidOut (by as_aux_lemma => kernel_rfl) (by as_aux_lemma => kernel_rfl) rfl boolType
    (fun ds gs h hg => by
      match ds, gs, h, hg with
      | [_], [_, _, _], _, _ => rfl)
    ?_
  intro W base args ds q hval hA hL
  have laidRow : Rows.fnExactJitterOfRow.laid = Rows.fnExactJitterOfRow.laid := rfl
  obtain ⟨ao, an, au, L⟩ := ld_of hL (by simp [Rows.fnExactJitterOfRow, handleD, sentD, Rows.laid_errors_errorType, Rows.laid_loop_example_g00656_impl_errNoTime, Rows.laid_loop_example_g00656_impl_errOutside, Rows.laid_loop_example_g00656_impl_errUnsure]) (by simp [Rows.fnExactJitterOfRow, handleD, sentD, Rows.laid_errors_errorType, Rows.laid_loop_example_g00656_impl_errNoTime, Rows.laid_loop_example_g00656_impl_errOutside, Rows.laid_loop_example_g00656_impl_errUnsure]) (by simp [Rows.fnExactJitterOfRow, handleD, sentD, Rows.laid_errors_errorType, Rows.laid_loop_example_g00656_impl_errNoTime, Rows.laid_loop_example_g00656_impl_errOutside, Rows.laid_loop_example_g00656_impl_errUnsure]) (by simp [Rows.fnExactJitterOfRow, handleD, sentD, Rows.laid_errors_errorType, Rows.laid_loop_example_g00656_impl_errNoTime, Rows.laid_loop_example_g00656_impl_errOutside, Rows.laid_loop_example_g00656_impl_errUnsure])
  clear hL
  rw [Tryd.params11] at hA hval
  obtain ⟨v0, vs0, d0, ds0, p0, q0, hargs, rfl, rfl, h0, r0⟩ := trodAll_cons hA
  obtain ⟨rfl, rfl, rfl⟩ := trodAll_nil r0
  obtain rfl : args = #[v0] := by cases args; simp_all
  obtain ⟨a0, len0, cap0, z0, rfl, w0⟩ := open_sms (hval 0 39 v0 rfl rfl) h0
  exact fxjit_walk W L a0 len0 cap0 z0 w0

theorem fxjit_facts : joinedFacts Tryd.pinned.checked.prog 11 Tryd.f11 Rows.fnExactJitterOfSpec Rows.fnExactJitterOfRow = true :=
  facts_of (P := Tryd.prog) (by as_aux_lemma => kernel_rfl) laidOut mapsRow (by as_aux_lemma => kernel_rfl) (by as_aux_lemma => kernel_rfl) rfl noStops rfl noKnobs (by as_aux_lemma => kernel_rfl) (by as_aux_lemma => kernel_rfl) (by as_aux_lemma => kernel_rfl) (by as_aux_lemma => kernel_rfl) (by as_aux_lemma => kernel_rfl) (by as_aux_lemma => kernel_rfl) (by as_aux_lemma => kernel_rfl) (by as_aux_lemma => kernel_rfl) (by as_aux_lemma => kernel_rfl) (by as_aux_lemma => kernel_rfl) (by as_aux_lemma => kernel_rfl) (by as_aux_lemma => kernel_rfl) (by as_aux_lemma => kernel_rfl) keysPlain rfl heard enters finals isMake rfl rfl rfl (by as_aux_lemma => kernel_rfl) (by as_aux_lemma => kernel_rfl)

theorem fxjit_row : Rows.FnExactJitterOfSaid :=
  OpenClaim.holds_of_wide 11 Tryd.f11 rfl rfl rfl rfl rfl rfl rfl ⟨rfl, rfl, rfl, rfl, rfl⟩ rfl rfl rfl rfl rfl (by as_aux_lemma => kernel_rfl) Tryd.func11 fxjit_facts
    (of_decide_eq_true (by as_aux_lemma => kernel_rfl)) (by unfold Func.isWrapper; first | (rw [if_pos (by decide +kernel)]; kernel_rfl) | (rw [if_neg (by decide +kernel)]; exact ⟨rfl, rfl⟩))
    (fun os started H enc _ => fxjit_lifted os started H enc)

/-- The given statement. -/
theorem fxjit_holds : Rows.FnExactJitterOfCardSaid :=
  Claim7.holds_tied_plain_at .later [] Rows.fnExactJitterOfCard.laidKinds true Rows.fnExactJitterOfCard.stood.harness true
    fxjit_row (fun _ h => by cases h) (by kernel_rfl) (fun _ h => by cases h) fnExactJitterOf_row_tie rfl ⟨rfl, rfl⟩ (by kernel_rfl) rfl
    (fun f fn hf hfn => by
      obtain rfl : f = 11 := Option.some.inj ((show Tryd.prog.funcNamed "loop.example/g00656/laws.FnExactJitterOf" = some 11 by kernel_rfl).symm.trans hf) |>.symm
      obtain rfl : fn = Tryd.f11 := (Option.some.inj (Tryd.func11.symm.trans hfn)).symm
      exact ⟨by kernel_rfl, fun j t ht => noStandIn (by rw [Tryd.params11]; kernel_rfl) j t ht⟩)
    (by kernel_rfl)
#print axioms fxjit_holds
end Go.Proofs.YtmekjnnfnlkhiaaDoor
