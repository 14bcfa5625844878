/- For every sample the program's IntervalOf answers as the reference. -/
import Derived.Test.YtecedbhjfpgkmaaDoorIvOf
import Derived.Test.YtecedbhjfpgkmaaDoorTie
import Derived.Test.YtecedbhjfpgkmaaDoorCards
namespace Go.Proofs.YtecedbhjfpgkmaaDoor
open Go.ChangeShapes Go.WideShapes Go.ChangeAt Go.RowKit
set_option linter.unusedVariables false
set_option linter.unusedSimpArgs false

theorem ivOf_walk (W : World) {ao an au : Addr} (L : Ld W ao an au) (s : Sm) :
    Calls Tryd.prog 3 #[.agg #[.int .i64 s.off, .int .i64 s.delay, .int .i64 s.disp, .int .i64 s.at_]] W fun e w' => e = .returned (.bool true) ∧ Below W.heap.size W w' := by
  have Q := blk_new W (.cells #[.int .i64 s.off, .int .i64 s.delay, .int .i64 s.disp, .int .i64 s.at_] 23)
  have g0 : Below W.heap.size W (W.alloc (.cells #[.int .i64 s.off, .int .i64 s.delay, .int .i64 s.disp, .int .i64 s.at_] 23)) := by go_grown
  obtain ⟨v, hv⟩ : ∃ v, ivV s = v := ⟨_, rfl⟩
  obtain ⟨ok, hk⟩ : ∃ k, s.ok = k := ⟨_, rfl⟩
  have hI := fun W {ao an au} L => @intervalOf_impl s W ao an au L
  have hS := fun W => intervalOf_spec s W
  rw [hv, hk] at hS hI
  have HI := Lib.hid (fun W {ao an au} L => @hI W ao an au L)
  have HS := Lib.hid hS
  clear hv hk hI hS
  go_enter Tryd.func3, Tryd.ntmps3
  go_wp2_with fail
  refine (toSample_c s _).mono ?_
  rintro e w1 ⟨rfl, hb1⟩
  go_wp2_with fail
  refine (HS.out _).mono ?_
  rintro e w2 ⟨rfl, hb2⟩
  have g2 := grow_next (grow_next g0 hb1) hb2
  have Q2 := blk_alloc (blk_next hb2 (blk_next hb1 Q)) (.cells #[.int .i64 v.lo, .int .i64 v.hi] 25)
  have V2 := blk_new w2 (.cells #[.int .i64 v.lo, .int .i64 v.hi] 25)
  have g2' : Below W.heap.size W (w2.alloc (.cells #[.int .i64 v.lo, .int .i64 v.hi] 25)) := g2.alloc (by have := g2.size; omega) _
  have l2 := (Array.getElem?_eq_some_iff.1 (blk_next hb2 (blk_next hb1 Q))).1
  obtain ⟨q0, q1, q2, q3⟩ := sample_cells (blk_next hb2 (blk_next hb1 Q))
  go_wp2_with fail
  refine (toSample_c s _).mono ?_
  rintro e w3 ⟨rfl, hb3⟩
  have g3 := grow_next g2' hb3
  have V3 := blk_next hb3 V2
  go_wp2_with fail
  refine (HI.out _ (L.next g3)).mono ?_
  rintro e w4 ⟨rfl, hb4⟩
  have g4 := grow_next g3 hb4
  have V4 := blk_next hb4 V3
  have l4 := (Array.getElem?_eq_some_iff.1 V4).1
  obtain ⟨v0, v1⟩ := iv_cells V4
  have g4' : Below W.heap.size W (w4.alloc (.cells #[.int .i64 v.lo, .int .i64 v.hi] 25)) := g4.alloc (by have := g4.size; omega) _
  go_wp2_with fail
  refine (eqInterval_same v _).mono ?_
  rintro e w5 ⟨rfl, hb5⟩
  have g5 := grow_next g4' hb5
  go_wp2_with fail
  go_returns
  exact ⟨rfl, g5⟩

theorem ivOf_met (os : Os) (args : Array Value) : laidMetH Tryd.prog Rows.fnExactIntervalOfRow.laid ((World.doorLaid Tryd.prog 400 os).forCall (fun _ _ => 0) ⟨#[], args, []⟩).memory :=
  laidMetH_of_parts3 (fuel := 8) (laidMet_of_run' 8 (by kernel_rfl) (by kernel_rfl)) (by kernel_rfl) (by kernel_rfl)
set_option maxRecDepth 100000 in
theorem ivOf_lifted (os : Os) (started : os.Started) (H : Type) (enc : TypeId × Value → H) :
    ReturnsInHanded {} Tryd.checked os 3 .any (fun w args => (Rows.fnExactIntervalOfSpec.pre enc Tryd.prog Tryd.f3 [] false w args ∧ laidMetH Tryd.prog Rows.fnExactIntervalOfRow.laid w) ∧ sizedMet enc Tryd.prog Tryd.f3 (OpenSpec.ofChange Rows.fnExactIntervalOfSpec) false w args) (Rows.fnExactIntervalOfSpec.post enc Tryd.prog Tryd.f3 false true false false) := by
  refine lifted_of_walk_laid (C := Tryd.checked) own started (by as_aux_lemma => kernel_rfl) Tryd.func3
    (ChangeSpec.witness_shaped (enc := enc) (C := Tryd.checked) (os := os) (X := fun w _ => laidMetH Tryd.prog Rows.fnExactIntervalOfRow.laid w) false (World.doorLaid Tryd.prog 400 os) #[.agg #[.int .i64 0, .int .i64 0, .int .i64 0, .int .i64 0]] 8 rfl (World.shaped_of_RefB (by kernel_rfl) (by kernel_rfl)) (by kernel_rfl) (by kernel_rfl) (by kernel_rfl) (ivOf_met os _))
    laidOut (by as_aux_lemma => kernel_rfl) (by as_aux_lemma => kernel_rfl) rfl boolType
    (fun ds gs h hg => by
      match ds, gs, h, hg with
      | [_], [_, _, _], _, _ => rfl)
    ?_
  intro W base args ds q hval hA hL
  have laidRow : Rows.fnExactIntervalOfRow.laid = Rows.fnExactIntervalOfRow.laid := rfl
  obtain ⟨ao, an, au, L⟩ := ld_of hL (by simp [Rows.fnExactIntervalOfRow, handleD, sentD, Rows.laid_errors_errorType, Rows.laid_loop_example_g00656_impl_errNoTime, Rows.laid_loop_example_g00656_impl_errOutside, Rows.laid_loop_example_g00656_impl_errUnsure]) (by simp [Rows.fnExactIntervalOfRow, handleD, sentD, Rows.laid_errors_errorType, Rows.laid_loop_example_g00656_impl_errNoTime, Rows.laid_loop_example_g00656_impl_errOutside, Rows.laid_loop_example_g00656_impl_errUnsure]) (by simp [Rows.fnExactIntervalOfRow, handleD, sentD, Rows.laid_errors_errorType, Rows.laid_loop_example_g00656_impl_errNoTime, Rows.laid_loop_example_g00656_impl_errOutside, Rows.laid_loop_example_g00656_impl_errUnsure]) (by simp [Rows.fnExactIntervalOfRow, handleD, sentD, Rows.laid_errors_errorType, Rows.laid_loop_example_g00656_impl_errNoTime, Rows.laid_loop_example_g00656_impl_errOutside, Rows.laid_loop_example_g00656_impl_errUnsure])
  clear hL
  rw [Tryd.params3] at hA hval
  obtain ⟨v0, vs0, d0, ds0, p0, q0, hargs, rfl, rfl, h0, r0⟩ := trodAll_cons hA
  obtain ⟨rfl, rfl, rfl⟩ := trodAll_nil r0
  obtain rfl : args = #[v0] := by cases args; simp_all
  obtain ⟨a0, rfl⟩ := open_sample (hval 0 23 v0 rfl rfl) h0
  exact ivOf_walk W L a0

theorem ivOf_facts : joinedFacts Tryd.pinned.checked.prog 3 Tryd.f3 Rows.fnExactIntervalOfSpec Rows.fnExactIntervalOfRow = true :=
  facts_of (P := Tryd.prog) (by as_aux_lemma => kernel_rfl) laidOut mapsRow (by as_aux_lemma => kernel_rfl) (by as_aux_lemma => kernel_rfl) rfl noStops rfl noKnobs (by as_aux_lemma => kernel_rfl) (by as_aux_lemma => kernel_rfl) (by as_aux_lemma => kernel_rfl) (by as_aux_lemma => kernel_rfl) (by as_aux_lemma => kernel_rfl) (by as_aux_lemma => kernel_rfl) (by as_aux_lemma => kernel_rfl) (by as_aux_lemma => kernel_rfl) (by as_aux_lemma => kernel_rfl) (by as_aux_lemma => kernel_rfl) (by as_aux_lemma => kernel_rfl) (by as_aux_lemma => kernel_rfl) (by as_aux_lemma => kernel_rfl) keysPlain rfl heard enters finals isMake rfl rfl rfl (by as_aux_lemma => kernel_rfl) (by as_aux_lemma => kernel_rfl)

theorem ivOf_row : Rows.FnExactIntervalOfSaid :=
  OpenClaim.holds_of_wide 3 Tryd.f3 rfl rfl rfl rfl rfl rfl rfl ⟨rfl, rfl, rfl, rfl, rfl⟩ rfl rfl rfl rfl rfl (by as_aux_lemma => kernel_rfl) Tryd.func3 ivOf_facts
    (of_decide_eq_true (by as_aux_lemma => kernel_rfl)) (by unfold Func.isWrapper; first | (rw [if_pos (by decide +kernel)]; kernel_rfl) | (rw [if_neg (by decide +kernel)]; exact ⟨rfl, rfl⟩))
    (fun os started H enc _ => ivOf_lifted os started H enc)

/-- The given statement. -/
theorem ivOf_holds : Rows.FnExactIntervalOfCardSaid :=
  Claim7.holds_tied_plain_at .later [] Rows.fnExactIntervalOfCard.laidKinds true Rows.fnExactIntervalOfCard.stood.harness true
    ivOf_row (fun _ h => by cases h) (by kernel_rfl) (fun _ h => by cases h) fnExactIntervalOf_row_tie rfl ⟨rfl, rfl⟩ (by kernel_rfl) rfl
    (fun f fn hf hfn => by
      obtain rfl : f = 3 := Option.some.inj ((show Tryd.prog.funcNamed "loop.example/g00656/laws.FnExactIntervalOf" = some 3 by kernel_rfl).symm.trans hf) |>.symm
      obtain rfl : fn = Tryd.f3 := (Option.some.inj (Tryd.func3.symm.trans hfn)).symm
      exact ⟨by kernel_rfl, fun j t ht => noStandIn (by rw [Tryd.params3]; kernel_rfl) j t ht⟩)
    (by kernel_rfl)
#print axioms ivOf_holds
end Go.Proofs.YtecedbhjfpgkmaaDoor
