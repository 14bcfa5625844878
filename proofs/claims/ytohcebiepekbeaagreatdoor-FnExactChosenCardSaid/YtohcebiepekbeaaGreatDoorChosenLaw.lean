/- For every list of peers the program's Chosen answers as the reference; its argument stays as it was. -/
import Derived.Test.YtohcebiepekbeaaGreatDoorPeersS
import Derived.Test.YtohcebiepekbeaaGreatDoorChosenI
import Derived.Test.YtohcebiepekbeaaGreatDoorChosenS
import Derived.Test.YtohcebiepekbeaaGreatDoorTie
import Derived.Test.YtohcebiepekbeaaGreatDoorCards
namespace Go.Proofs.YtohcebiepekbeaaGreatDoor
open Go.ChangeShapes Go.WideShapes Go.ChangeAt Go.RowKit
set_option linter.unusedVariables false
set_option linter.unusedSimpArgs false

set_option maxRecDepth 100000 in
set_option maxHeartbeats 2000000 in
theorem cs_walk (W : World) {ao an au : Addr} (L : Ld W ao an au) (x : Option Addr) (n cap : Nat) (l : List Pr) (h : Hid (n = l.length) ∧ n ≤ cap ∧ cap ≤ maxLen ∧ Prs W.heap.size W x l) :
    Calls Tryz.prog 5 #[.slice x n cap] W fun e w' => e = .returned (.bool true) ∧ Below W.heap.size W w' := by
  obtain ⟨hn, hnc, hcm, hr⟩ := h
  have hnm : n ≤ maxLen := Nat.le_trans hnc hcm
  clear hnc hcm
  have hsz := szPeerS_c n 1048576 (by omega) (by omega) hnm x cap
  by_cases hlt : n ≤ 1048576
  · have HZ := Lib.hid (fun w => show Calls Tryz.prog 17 #[.slice x n cap, .int .i64 1048576] w fun e w' => e = .returned (.int .i64 (1048576 - n)) ∧ w = w' by have := hsz w; rwa [if_pos (by omega)] at this)
    have h1 : (0 : Int) ≤ 1048576 - n := by omega
    have h2 : (1048576 : Int) - n ≤ 1048576 := by omega
    clear hsz
    have HS := Lib.hid (fun x cap w h => chosen_spec l n hn hnm x cap w h)
    have HI := Lib.hid (fun x cap w h {ao an au} L => @chosen_impl l n hn hnm x cap w h ao an au L)
    have HT := Lib.hid (fun w h => toPeerS_c l n hn hlt x cap w h)
    have HE := Lib.hid (fun x y cap cap' w h h' => eqPeerS_c l n hn hnm x y cap cap' w h h')
    go_enter Tryz.func5, Tryz.ntmps5
    go_wp2_with fail
    refine (HZ.out _).mono ?_
    rintro e w1 ⟨rfl, rfl⟩
    go_wp2_with fail
    refine (HT.out _ hr).mono ?_
    rintro e w1 ⟨g1, rfl, t1, _, b1⟩
    go_wp2_with fail
    refine (HS.out _ _ _ t1.prs).mono ?_
    rintro e w2 ⟨o, id, b, rfl, hO, b2⟩
    have G2 := grow_next b1 b2
    have HO := Lib.hid hO
    clear hO
    go_wp2_with fail
    refine (HT.out _ (hr.next G2)).mono ?_
    rintro e w3 ⟨g3, rfl, t3, _, b3⟩
    have G3 := grow_next G2 b3
    go_wp2_with fail
    refine (HI.out _ _ _ t3.prs (L.next G3)).mono ?_
    rintro e w4 ⟨o', id', b', rfl, hO', b4⟩
    obtain ⟨e1, e2, e3⟩ := HO.out.same hO'
    subst e1 e2 e3
    clear hO'
    have G4 := grow_next G3 b4
    have t4 := t3.next b4
    go_wp2_with fail
    refine (HT.out _ (hr.next G4)).mono ?_
    rintro e w5 ⟨g5, rfl, t5, _, b5⟩
    have G5 := grow_next G4 b5
    have t4' := t4.next b5
    go_wp2_with fail
    refine (HE.out _ _ _ _ _ t4'.prs t5.prs).mono ?_
    rintro e w6 ⟨rfl, b6⟩
    have G6 := grow_next G5 b6
    go_wp2_with fail
    go_returns
    exact ⟨rfl, G6⟩
  · have HZ := Lib.hid (fun w => show Calls Tryz.prog 17 #[.slice x n cap, .int .i64 1048576] w fun e w' => e = .returned (.int .i64 (-1)) ∧ w = w' by have := hsz w; rwa [if_neg (by omega)] at this)
    clear hsz
    go_enter Tryz.func5, Tryz.ntmps5
    go_wp2_with fail
    refine (HZ.out _).mono ?_
    rintro e w1 ⟨rfl, rfl⟩
    go_wp2_with fail
    go_returns
    exact ⟨rfl, Below.refl _ _⟩

theorem cs_met (os : Os) (args : Array Value) : laidMetH Tryz.prog Rows.fnExactChosenRow.laid ((World.doorLaid Tryz.prog 400 os).forCall (fun _ _ => 0) ⟨#[], args, []⟩).memory :=
  laidMetH_of_parts3 (fuel := 8) (laidMet_of_run' 8 (by kernel_rfl) (by kernel_rfl)) (by kernel_rfl) (by kernel_rfl)
set_option maxRecDepth 100000 in
theorem cs_lifted (os : Os) (started : os.Started) (H : Type) (enc : TypeId × Value → H) :
    ReturnsInHanded {} Tryz.checked os 5 .any (fun w args => (Rows.fnExactChosenSpec.pre enc Tryz.prog Tryz.f5 [] false w args ∧ laidMetH Tryz.prog Rows.fnExactChosenRow.laid w) ∧ sizedMet enc Tryz.prog Tryz.f5 (OpenSpec.ofChange Rows.fnExactChosenSpec) false w args) (Rows.fnExactChosenSpec.post enc Tryz.prog Tryz.f5 false true false false) := by
  refine lifted_of_walk_laid (C := Tryz.checked) own started (by as_aux_lemma => kernel_rfl) Tryz.func5
    (ChangeSpec.witness_shaped (enc := enc) (C := Tryz.checked) (os := os) (X := fun w _ => laidMetH Tryz.prog Rows.fnExactChosenRow.laid w) false (World.doorLaid Tryz.prog 400 os) #[.slice none 0 0] 8 rfl (World.shaped_of_RefB (by kernel_rfl) (by kernel_rfl)) (by kernel_rfl) (by kernel_rfl) (by kernel_rfl) (cs_met os _))
    laidOut (by as_aux_lemma => kernel_rfl) (by as_aux_lemma => kernel_rfl) rfl boolType
    (fun ds gs h hg => by
      match ds, gs, h, hg with
      | [_], [_, _, _], _, _ => rfl)
    ?_
  intro W base args ds q hval hA hL
  have laidRow : Rows.fnExactChosenRow.laid = Rows.fnExactChosenRow.laid := rfl
  obtain ⟨ao, an, au, L⟩ := ld_of hL (by simp [Rows.fnExactChosenRow, handleD, sentD, Rows.laid_errors_errorType, Rows.laid_loop_example_g00656_impl_errNoTime, Rows.laid_loop_example_g00656_impl_errOutside, Rows.laid_loop_example_g00656_impl_errUnsure]) (by simp [Rows.fnExactChosenRow, handleD, sentD, Rows.laid_errors_errorType, Rows.laid_loop_example_g00656_impl_errNoTime, Rows.laid_loop_example_g00656_impl_errOutside, Rows.laid_loop_example_g00656_impl_errUnsure]) (by simp [Rows.fnExactChosenRow, handleD, sentD, Rows.laid_errors_errorType, Rows.laid_loop_example_g00656_impl_errNoTime, Rows.laid_loop_example_g00656_impl_errOutside, Rows.laid_loop_example_g00656_impl_errUnsure]) (by simp [Rows.fnExactChosenRow, handleD, sentD, Rows.laid_errors_errorType, Rows.laid_loop_example_g00656_impl_errNoTime, Rows.laid_loop_example_g00656_impl_errOutside, Rows.laid_loop_example_g00656_impl_errUnsure])
  clear hL
  rw [Tryz.params5] at hA hval
  obtain ⟨v0, vs0, d0, ds0, p0, q0, hargs, rfl, rfl, h0, r0⟩ := trodAll_cons hA
  obtain ⟨rfl, rfl, rfl⟩ := trodAll_nil r0
  obtain rfl : args = #[v0] := by cases args; simp_all
  obtain ⟨a0, len0, cap0, z0, rfl, w0⟩ := open_prs (hval 0 34 v0 rfl rfl) h0
  exact cs_walk W L a0 len0 cap0 z0 w0

set_option maxHeartbeats 4000000 in
theorem cs_facts : joinedFacts Tryz.pinned.checked.prog 5 Tryz.f5 Rows.fnExactChosenSpec Rows.fnExactChosenRow = true :=
  facts_of (P := Tryz.prog) (by as_aux_lemma => kernel_rfl) laidOut mapsRow (by as_aux_lemma => kernel_rfl) (by as_aux_lemma => kernel_rfl) rfl noStops rfl noKnobs (by as_aux_lemma => kernel_rfl) (by as_aux_lemma => kernel_rfl) (by as_aux_lemma => kernel_rfl) (by as_aux_lemma => kernel_rfl) (by as_aux_lemma => kernel_rfl) (by as_aux_lemma => kernel_rfl) (by as_aux_lemma => kernel_rfl) (by as_aux_lemma => kernel_rfl) (by as_aux_lemma => kernel_rfl) (by as_aux_lemma => kernel_rfl) (by as_aux_lemma => kernel_rfl) (by as_aux_lemma => kernel_rfl) (by as_aux_lemma => kernel_rfl) keysPlain rfl heard enters finals isMake rfl rfl rfl (by as_aux_lemma => kernel_rfl) (by as_aux_lemma => kernel_rfl)

theorem cs_row : Rows.FnExactChosenSaid :=
  OpenClaim.holds_of_wide 5 Tryz.f5 rfl rfl rfl rfl rfl rfl rfl ⟨rfl, rfl, rfl, rfl, rfl⟩ rfl rfl rfl rfl rfl (by as_aux_lemma => kernel_rfl) Tryz.func5 cs_facts
    (of_decide_eq_true (by as_aux_lemma => kernel_rfl)) (by unfold Func.isWrapper; first | (rw [if_pos (by decide +kernel)]; kernel_rfl) | (rw [if_neg (by decide +kernel)]; exact ⟨rfl, rfl⟩))
    (fun os started H enc _ => cs_lifted os started H enc)

/-- The given statement. -/
theorem cs_holds : Rows.FnExactChosenCardSaid :=
  Claim7.holds_tied_plain_at .later [] Rows.fnExactChosenCard.laidKinds true Rows.fnExactChosenCard.stood.harness true
    cs_row (fun _ h => by cases h) (by kernel_rfl) (fun _ h => by cases h) fnExactChosen_row_tie rfl ⟨rfl, rfl⟩ (by kernel_rfl) rfl
    (fun f fn hf hfn => by
      obtain rfl : f = 5 := Option.some.inj ((show Tryz.prog.funcNamed "loop.example/g00656/laws.FnExactChosen" = some 5 by kernel_rfl).symm.trans hf) |>.symm
      obtain rfl : fn = Tryz.f5 := (Option.some.inj (Tryz.func5.symm.trans hfn)).symm
      exact ⟨by kernel_rfl, fun j t ht => noStandIn (by rw [Tryz.params5]; kernel_rfl) j t ht⟩)
    (by kernel_rfl)
#print axioms cs_holds
end Go.Proofs.YtohcebiepekbeaaGreatDoor
