/- For every list of samples and every sample the program's Popcorn answers as the reference; its arguments stay as they were. -/
import Derived.Test.YtmekjnnfnlkhiaaDoorSmsL
import Derived.Test.YtmekjnnfnlkhiaaDoorFilAddI
import Derived.Test.YtmekjnnfnlkhiaaDoorFilOthS
import Derived.Test.YtmekjnnfnlkhiaaDoorTie
import Derived.Test.YtmekjnnfnlkhiaaDoorCards
import Derived.Deep.RegionWith
namespace Go.Proofs.YtmekjnnfnlkhiaaDoor
open Go.ChangeShapes Go.WideShapes Go.ChangeAt Go.RowKit
set_option linter.unusedVariables false
set_option linter.unusedSimpArgs false

set_option maxRecDepth 100000 in
set_option maxHeartbeats 4000000 in
theorem fxpop_walk (W : World) {ao an au : Addr} (L : Ld W ao an au) (x : Option Addr) (n cap : Nat) (l : List Sm) (h : Hid (n = l.length) ∧ n ≤ cap ∧ cap ≤ maxLen ∧ Sms W.heap.size W x l) (s : Sm) :
    Calls Tryd.prog 12 #[.slice x n cap, .agg #[.int .i64 s.off, .int .i64 s.delay, .int .i64 s.disp, .int .i64 s.at_]] W fun e w' => e = .returned (.bool true) ∧ Below W.heap.size W w' := by
  obtain ⟨hn, hnc, hcm, hr⟩ := h
  have hnm : n ≤ maxLen := Nat.le_trans hnc hcm
  clear hnc hcm
  have hsz := szSampleS_c n 1048576 (by omega) (by omega) hnm x cap
  by_cases hlt : n ≤ 1048576
  · have HZ := Lib.hid (fun w => show Calls Tryd.prog 31 #[.slice x n cap, .int .i64 1048576] w fun e w' => e = .returned (.int .i64 (1048576 - n)) ∧ w = w' by have := hsz w; rwa [if_pos (by omega)] at this)
    have h1 : (0 : Int) ≤ 1048576 - n := by omega
    have h2 : (1048576 : Int) - n ≤ 1048576 := by omega
    clear hsz
    have HT := Lib.hid (fun w h => toSampleS_c l n hn hlt x cap w h)
    have HE := Lib.hid (fun x y cap cap' w h h' => eqSampleS_c l n hn hnm x y cap cap' w h h')
    obtain ⟨v, hv⟩ : ∃ v, popV l s = v := ⟨_, rfl⟩
    have hS := fun x cap w h => popcorn_spec l n hn hnm x cap w h s
    have hI := fun x cap w h {ao an au} L => @popcorn_impl l s n hn hnm x cap w h ao an au L
    rw [hv] at hS hI
    have HS := Lib.hid hS
    have HI := Lib.hid hI
    have hbb : (v != v) = false := by cases v <;> rfl
    have B0 : Below W.heap.size W (W.alloc (.cells #[.int .i64 s.off, .int .i64 s.delay, .int .i64 s.disp, .int .i64 s.at_] 43)) := below_new _ _
    have Q0 := blk_new W (.cells #[.int .i64 s.off, .int .i64 s.delay, .int .i64 s.disp, .int .i64 s.at_] 43)
    clear hS hI hv
    go_enter Tryd.func12, Tryd.ntmps12
    go_wp2_with fail
    refine (HZ.out _).mono ?_
    rintro e w1 ⟨rfl, rfl⟩
    generalize hW0 : W.alloc (.cells #[.int .i64 s.off, .int .i64 s.delay, .int .i64 s.disp, .int .i64 s.at_] 43) = W0 at *
    obtain ⟨q0, q1, q2, q3⟩ := sample_cells Q0
    have bd : Below W0.heap.size W0 W0.drew := below_drewS (Below.refl _ _)
    have gd := grow_next B0 bd
    have hrd := hr.next gd
    go_wp2_with fail
    go_region_with (first
      | (go_at_call 32; (with_reducible refine (HT.out _ hrd).mono ?_); rintro e w1 ⟨g1, rfl, t1, _, b1⟩; have G1 := grow_next gd b1; obtain ⟨x0, x1, x2, x3⟩ := sample_cells (blk_next b1 (blk_next bd Q0)))
      | (go_at_call 34; (with_reducible refine (toSample_c s _).mono ?_); rintro e w2 ⟨rfl, b2⟩; have t2 := t1.next b2; have G2 := grow_next G1 b2)
      | (go_at_call 29; (with_reducible refine (HS.out _ _ _ t2.sms).mono ?_); rintro e w3 ⟨rfl, b3⟩; have G3 := grow_next G2 b3; have Q3 := blk_next b3 (blk_next b2 (blk_next b1 (blk_next bd Q0)))))
    all_goals
      go_wp2_with fail
      refine (HT.out _ (hr.next G3)).mono ?_
      rintro e w4 ⟨g4, rfl, t4, _, b4⟩
      have G4 := grow_next G3 b4
      have Q4 := blk_next b4 Q3
      obtain ⟨x0, x1, x2, x3⟩ := sample_cells Q4
      go_wp2_with fail
      refine (toSample_c s _).mono ?_
      rintro e w5 ⟨rfl, b5⟩
      have G5 := grow_next G4 b5
      have t5 := t4.next b5
      go_wp2_with fail
      refine (HI.out _ _ _ t5.sms (L.next G5)).mono ?_
      rintro e w6 ⟨rfl, b6⟩
      have G6 := grow_next G5 b6
      have t6 := t5.next b6
      go_wp2_with fail
      refine (HT.out _ (hr.next G6)).mono ?_
      rintro e w7 ⟨g7, rfl, t7, _, b7⟩
      have G7 := grow_next G6 b7
      have t6' := t6.next b7
      go_wp2_with fail
      refine (HE.out _ _ _ _ _ t6'.sms t7.sms).mono ?_
      rintro e w8 ⟨rfl, b8⟩
      have G8 := grow_next G7 b8
      go_wp2_with fail
      go_returns
      exact ⟨rfl, G8⟩
  · have HZ := Lib.hid (fun w => show Calls Tryd.prog 31 #[.slice x n cap, .int .i64 1048576] w fun e w' => e = .returned (.int .i64 (-1)) ∧ w = w' by have := hsz w; rwa [if_neg (by omega)] at this)
    clear hsz
    go_enter Tryd.func12, Tryd.ntmps12
    go_wp2_with fail
    refine (HZ.out _).mono ?_
    rintro e w1 ⟨rfl, rfl⟩
    go_wp2_with fail
    go_returns
    exact ⟨rfl, by go_grown⟩
theorem fxpop_met (os : Os) (args : Array Value) : laidMetH Tryd.prog Rows.fnExactPopcornRow.laid ((World.doorLaid Tryd.prog 400 os).forCall (fun _ _ => 0) ⟨#[], args, []⟩).memory :=
  laidMetH_of_parts3 (fuel := 8) (laidMet_of_run' 8 (by kernel_rfl) (by kernel_rfl)) (by kernel_rfl) (by kernel_rfl)
set_option maxRecDepth 100000 in
theorem fxpop_lifted (os : Os) (started : os.Started) (H : Type) (enc : TypeId × Value → H) :
    ReturnsInHanded {} Tryd.checked os 12 .any (fun w args => (Rows.fnExactPopcornSpec.pre enc Tryd.prog Tryd.f12 [] false w args ∧ laidMetH Tryd.prog Rows.fnExactPopcornRow.laid w) ∧ sizedMet enc Tryd.prog Tryd.f12 (OpenSpec.ofChange Rows.fnExactPopcornSpec) false w args) (Rows.fnExactPopcornSpec.post enc Tryd.prog Tryd.f12 false true false false) := by
  refine lifted_of_walk_laid (C := Tryd.checked) own started (by as_aux_lemma => kernel_rfl) Tryd.func12
    (ChangeSpec.witness_shaped (enc := enc) (C := Tryd.checked) (os := os) (X := fun w _ => laidMetH Tryd.prog Rows.fnExactPopcornRow.laid w) false (World.doorLaid Tryd.prog 400 os) #[.slice none 0 0, .agg #[.int .i64 0, .int .i64 0, .int .i64 0, .int .i64 0]] 8 rfl (World.shaped_of_RefB (by kernel_rfl) (by kernel_rfl)) (by kernel_rfl) (by kernel_rfl) (by kernel_rfl) (fxpop_met os _))
    laidOut (by as_aux_lemma => kernel_rfl) (by as_aux_lemma => kernel_rfl) rfl boolType
    (fun ds gs h hg => by
      match ds, gs, h, hg with
      | [_, _], [_, _, _], _, _ => rfl)
    ?_
  intro W base args ds q hval hA hL
  have laidRow : Rows.fnExactPopcornRow.laid = Rows.fnExactPopcornRow.laid := rfl
  obtain ⟨ao, an, au, L⟩ := ld_of hL (by simp [Rows.fnExactPopcornRow, handleD, sentD, Rows.laid_errors_errorType, Rows.laid_loop_example_g00656_impl_errNoTime, Rows.laid_loop_example_g00656_impl_errOutside, Rows.laid_loop_example_g00656_impl_errUnsure]) (by simp [Rows.fnExactPopcornRow, handleD, sentD, Rows.laid_errors_errorType, Rows.laid_loop_example_g00656_impl_errNoTime, Rows.laid_loop_example_g00656_impl_errOutside, Rows.laid_loop_example_g00656_impl_errUnsure]) (by simp [Rows.fnExactPopcornRow, handleD, sentD, Rows.laid_errors_errorType, Rows.laid_loop_example_g00656_impl_errNoTime, Rows.laid_loop_example_g00656_impl_errOutside, Rows.laid_loop_example_g00656_impl_errUnsure]) (by simp [Rows.fnExactPopcornRow, handleD, sentD, Rows.laid_errors_errorType, Rows.laid_loop_example_g00656_impl_errNoTime, Rows.laid_loop_example_g00656_impl_errOutside, Rows.laid_loop_example_g00656_impl_errUnsure])
  clear hL
  rw [Tryd.params12] at hA hval
  obtain ⟨v0, vs0, d0, ds0, p0, q0, hargs, rfl, rfl, h0, r0⟩ := trodAll_cons hA
  obtain ⟨v1, vs1, d1, ds1, p1, q1, rfl, rfl, rfl, h1, r1⟩ := trodAll_cons r0
  obtain ⟨rfl, rfl, rfl⟩ := trodAll_nil r1
  obtain rfl : args = #[v0, v1] := by cases args; simp_all
  obtain ⟨a0, len0, cap0, z0, rfl, w0⟩ := open_sms (hval 0 39 v0 rfl rfl) h0
  obtain ⟨a1, rfl⟩ := open_sample (hval 1 43 v1 rfl rfl) h1
  exact fxpop_walk W L a0 len0 cap0 z0 w0 a1

theorem fxpop_facts : joinedFacts Tryd.pinned.checked.prog 12 Tryd.f12 Rows.fnExactPopcornSpec Rows.fnExactPopcornRow = true :=
  facts_of (P := Tryd.prog) (by as_aux_lemma => kernel_rfl) laidOut mapsRow (by as_aux_lemma => kernel_rfl) (by as_aux_lemma => kernel_rfl) rfl noStops rfl noKnobs (by as_aux_lemma => kernel_rfl) (by as_aux_lemma => kernel_rfl) (by as_aux_lemma => kernel_rfl) (by as_aux_lemma => kernel_rfl) (by as_aux_lemma => kernel_rfl) (by as_aux_lemma => kernel_rfl) (by as_aux_lemma => kernel_rfl) (by as_aux_lemma => kernel_rfl) (by as_aux_lemma => kernel_rfl) (by as_aux_lemma => kernel_rfl) (by as_aux_lemma => kernel_rfl) (by as_aux_lemma => kernel_rfl) (by as_aux_lemma => kernel_rfl) keysPlain rfl heard enters finals isMake rfl rfl rfl (by as_aux_lemma => kernel_rfl) (by as_aux_lemma => kernel_rfl)

theorem fxpop_row : Rows.FnExactPopcornSaid :=
  OpenClaim.holds_of_wide 12 Tryd.f12 rfl rfl rfl rfl rfl rfl rfl ⟨rfl, rfl, rfl, rfl, rfl⟩ rfl rfl rfl rfl rfl (by as_aux_lemma => kernel_rfl) Tryd.func12 fxpop_facts
    (of_decide_eq_true (by as_aux_lemma => kernel_rfl)) (by unfold Func.isWrapper; first | (rw [if_pos (by decide +kernel)]; kernel_rfl) | (rw [if_neg (by decide +kernel)]; exact ⟨rfl, rfl⟩))
    (fun os started H enc _ => fxpop_lifted os started H enc)

/-- The given statement. -/
theorem fxpop_holds : Rows.FnExactPopcornCardSaid :=
  Claim7.holds_tied_plain_at .later [] Rows.fnExactPopcornCard.laidKinds true Rows.fnExactPopcornCard.stood.harness true
    fxpop_row (fun _ h => by cases h) (by kernel_rfl) (fun _ h => by cases h) fnExactPopcorn_row_tie rfl ⟨rfl, rfl⟩ (by kernel_rfl) rfl
    (fun f fn hf hfn => by
      obtain rfl : f = 12 := Option.some.inj ((show Tryd.prog.funcNamed "loop.example/g00656/laws.FnExactPopcorn" = some 12 by kernel_rfl).symm.trans hf) |>.symm
      obtain rfl : fn = Tryd.f12 := (Option.some.inj (Tryd.func12.symm.trans hfn)).symm
      exact ⟨by kernel_rfl, fun j t ht => noStandIn (by rw [Tryd.params12]; kernel_rfl) j t ht⟩)
    (by kernel_rfl)
#print axioms fxpop_holds
end Go.Proofs.YtmekjnnfnlkhiaaDoor
