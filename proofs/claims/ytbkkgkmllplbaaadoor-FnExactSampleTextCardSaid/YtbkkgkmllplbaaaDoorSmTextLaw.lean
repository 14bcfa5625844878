/- For every sample the program's SampleText answers as the reference. -/
import Derived.Test.YtbkkgkmllplbaaaDoorSmText
import Derived.Test.YtbkkgkmllplbaaaDoorClkTextLaw
namespace Go.Proofs.YtbkkgkmllplbaaaDoor
open Go.ChangeShapes Go.WideShapes Go.ChangeAt Go.RowKit
set_option linter.unusedVariables false
set_option linter.unusedSimpArgs false

set_option maxHeartbeats 1000000 in
theorem sampleText_walk (W : World) {ao an au : Addr} (L : Ld W ao an au) (hp : Pow W) (c : Sm) :
    Calls Tryd.prog 4 #[.agg #[.int .i64 c.off, .int .i64 c.delay, .int .i64 c.disp, .int .i64 c.at_]] W fun e w' => e = .returned (.bool true) ∧ Below W.heap.size W w' := by
  have HS := Lib.hid (fun w => sampleText_spec c w)
  have HI := Lib.hid (fun w {ao an au} L h => @sampleText_impl c w ao an au L h)
  obtain ⟨s, hs⟩ : ∃ s, c.text = s := ⟨_, rfl⟩
  simp only [hs] at HS HI
  clear hs
  have Q := blk_new W (.cells #[.int .i64 c.off, .int .i64 c.delay, .int .i64 c.disp, .int .i64 c.at_] 29)
  have g0 : Below W.heap.size W (W.alloc (.cells #[.int .i64 c.off, .int .i64 c.delay, .int .i64 c.disp, .int .i64 c.at_] 29)) := by go_grown
  go_enter Tryd.func4, Tryd.ntmps4
  go_wp2_with fail
  refine (toSample_c c _).mono ?_
  rintro e w1 ⟨rfl, hb1⟩
  go_wp2_with fail
  refine (HS.out _).mono ?_
  rintro e w2 ⟨rfl, hb2⟩
  obtain ⟨q0, q1, q2, q3⟩ := sample_cells (blk_next hb2 (blk_next hb1 Q))
  have g2 := grow_next (grow_next g0 hb1) hb2
  go_wp2_with fail
  refine (toSample_c c _).mono ?_
  rintro e w3 ⟨rfl, hb3⟩
  have g3 := grow_next g2 hb3
  go_wp2_with fail
  refine (HI.out _ (L.next g3) (hp.next g3)).mono ?_
  rintro e w4 ⟨rfl, hb4⟩
  go_wp2_with fail
  go_returns
  exact ⟨rfl, grow_next g3 hb4⟩
theorem sampleText_met (os : Os) (args : Array Value) : laidMetH Tryd.prog Rows.fnExactSampleTextRow.laid ((World.doorLaid Tryd.prog 400 os).forCall (fun _ _ => 0) ⟨#[], args, []⟩).memory :=
  laidMetH_of_parts3 (fuel := 8) (laidMet_of_run' 8 (by kernel_rfl) (by kernel_rfl)) (by kernel_rfl) (by kernel_rfl)
set_option maxRecDepth 100000 in
theorem sampleText_lifted (os : Os) (started : os.Started) (H : Type) (enc : TypeId × Value → H) :
    ReturnsInHanded {} Tryd.checked os 4 .any (fun w args => (Rows.fnExactSampleTextSpec.pre enc Tryd.prog Tryd.f4 [] false w args ∧ laidMetH Tryd.prog Rows.fnExactSampleTextRow.laid w) ∧ sizedMet enc Tryd.prog Tryd.f4 (OpenSpec.ofChange Rows.fnExactSampleTextSpec) false w args) (Rows.fnExactSampleTextSpec.post enc Tryd.prog Tryd.f4 false true false false) := by
  refine lifted_of_walk_laid (C := Tryd.checked) own started (by as_aux_lemma => kernel_rfl) Tryd.func4
    (ChangeSpec.witness_shaped (enc := enc) (C := Tryd.checked) (os := os) (X := fun w _ => laidMetH Tryd.prog Rows.fnExactSampleTextRow.laid w) false (World.doorLaid Tryd.prog 400 os) #[.agg #[.int .i64 0, .int .i64 0, .int .i64 0, .int .i64 0]] 8 rfl (World.shaped_of_RefB (by kernel_rfl) (by kernel_rfl)) (by kernel_rfl) (by kernel_rfl) (by kernel_rfl) (sampleText_met os _))
    laidOut (by as_aux_lemma => kernel_rfl) (by as_aux_lemma => kernel_rfl) rfl boolType
    (fun ds gs h hg => by
      match ds, gs, h, hg with
      | [_], [_, _, _], _, _ => rfl)
    ?_
  intro W base args ds q hval hA hL
  have laidRow : Rows.fnExactSampleTextRow.laid = Rows.fnExactSampleTextRow.laid := rfl
  have hp := pow_of hL (by rfl)
  obtain ⟨ao, an, au, L⟩ := ld_of hL (by simp [Rows.fnExactSampleTextRow, handleD, sentD, Rows.laid_errors_errorType, Rows.laid_loop_example_g00656_impl_errNoTime, Rows.laid_loop_example_g00656_impl_errOutside, Rows.laid_loop_example_g00656_impl_errUnsure]) (by simp [Rows.fnExactSampleTextRow, handleD, sentD, Rows.laid_errors_errorType, Rows.laid_loop_example_g00656_impl_errNoTime, Rows.laid_loop_example_g00656_impl_errOutside, Rows.laid_loop_example_g00656_impl_errUnsure]) (by simp [Rows.fnExactSampleTextRow, handleD, sentD, Rows.laid_errors_errorType, Rows.laid_loop_example_g00656_impl_errNoTime, Rows.laid_loop_example_g00656_impl_errOutside, Rows.laid_loop_example_g00656_impl_errUnsure]) (by simp [Rows.fnExactSampleTextRow, handleD, sentD, Rows.laid_errors_errorType, Rows.laid_loop_example_g00656_impl_errNoTime, Rows.laid_loop_example_g00656_impl_errOutside, Rows.laid_loop_example_g00656_impl_errUnsure])
  clear hL
  rw [Tryd.params4] at hA hval
  obtain ⟨v0, vs0, d0, ds0, p0, q0, hargs, rfl, rfl, h0, r0⟩ := trodAll_cons hA
  obtain ⟨rfl, rfl, rfl⟩ := trodAll_nil r0
  obtain rfl : args = #[v0] := by cases args; simp_all
  obtain ⟨a0, rfl⟩ := open_sample (hval 0 29 v0 rfl rfl) h0
  exact sampleText_walk W L hp a0

set_option maxHeartbeats 4000000 in
theorem sampleText_facts : joinedFacts Tryd.pinned.checked.prog 4 Tryd.f4 Rows.fnExactSampleTextSpec Rows.fnExactSampleTextRow = true :=
  facts_of (P := Tryd.prog) (by as_aux_lemma => kernel_rfl) laidOut mapsRow (by as_aux_lemma => kernel_rfl) (by as_aux_lemma => kernel_rfl) rfl noStops rfl noKnobs (by as_aux_lemma => kernel_rfl) (by as_aux_lemma => kernel_rfl) (by as_aux_lemma => kernel_rfl) (by as_aux_lemma => kernel_rfl) (by as_aux_lemma => kernel_rfl) (by as_aux_lemma => kernel_rfl) (by as_aux_lemma => kernel_rfl) (by as_aux_lemma => kernel_rfl) (by as_aux_lemma => kernel_rfl) (by as_aux_lemma => kernel_rfl) (by as_aux_lemma => kernel_rfl) (by as_aux_lemma => kernel_rfl) (by as_aux_lemma => kernel_rfl) keysPlain rfl heard enters finals isMake rfl rfl rfl (by as_aux_lemma => kernel_rfl) (by as_aux_lemma => kernel_rfl)

theorem sampleText_row : Rows.FnExactSampleTextSaid :=
  OpenClaim.holds_of_wide 4 Tryd.f4 rfl rfl rfl rfl rfl rfl rfl ⟨rfl, rfl, rfl, rfl, rfl⟩ rfl rfl rfl rfl rfl (by as_aux_lemma => kernel_rfl) Tryd.func4 sampleText_facts
    (of_decide_eq_true (by as_aux_lemma => kernel_rfl)) (by unfold Func.isWrapper; first | (rw [if_pos (by decide +kernel)]; kernel_rfl) | (rw [if_neg (by decide +kernel)]; exact ⟨rfl, rfl⟩))
    (fun os started H enc _ => sampleText_lifted os started H enc)

/-- The given statement. -/
theorem sampleText_holds : Rows.FnExactSampleTextCardSaid :=
  Claim7.holds_tied_plain_at .later [] Rows.fnExactSampleTextCard.laidKinds true Rows.fnExactSampleTextCard.stood.harness true
    sampleText_row (fun _ h => by cases h) (by kernel_rfl) (fun _ h => by cases h) fnExactSampleText_row_tie rfl ⟨rfl, rfl⟩ (by kernel_rfl) rfl
    (fun f fn hf hfn => by
      obtain rfl : f = 4 := Option.some.inj ((show Tryd.prog.funcNamed "loop.example/g00656/laws.FnExactSampleText" = some 4 by kernel_rfl).symm.trans hf) |>.symm
      obtain rfl : fn = Tryd.f4 := (Option.some.inj (Tryd.func4.symm.trans hfn)).symm
      exact ⟨by kernel_rfl, fun j t ht => noStandIn (by rw [Tryd.params4]; kernel_rfl) j t ht⟩)
    (by kernel_rfl)
#print axioms sampleText_holds
end Go.Proofs.YtbkkgkmllplbaaaDoor
