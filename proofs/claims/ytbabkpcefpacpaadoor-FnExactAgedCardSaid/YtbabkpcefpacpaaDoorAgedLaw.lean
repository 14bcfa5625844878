/- For every sample and time the program's Aged answers as the reference. -/
import Derived.Test.YtbabkpcefpacpaaDoorAged
import Derived.Test.YtbabkpcefpacpaaDoorTie
import Derived.Test.YtbabkpcefpacpaaDoorCards
namespace Go.Proofs.YtbabkpcefpacpaaDoor
open Go.ChangeShapes Go.WideShapes Go.ChangeAt Go.RowKit
set_option linter.unusedVariables false
set_option linter.unusedSimpArgs false

theorem aged_walk (W : World) {ao an au ab : Addr} {tx : List UInt8} (L : Ld W ao an au) (B : Sent W 3 tx ab) (s : Sm) (now : Int) (_ : (Lit.int .i64 now).wf = true) :
    Calls Tryd.prog 5 #[.agg #[.int .i64 s.off, .int .i64 s.delay, .int .i64 s.disp, .int .i64 s.at_], .int .i64 now] W fun e w' => e = .returned (.bool true) ∧ Below W.heap.size W w' := by
  have Q := blk_new W (.cells #[.int .i64 s.off, .int .i64 s.delay, .int .i64 s.disp, .int .i64 s.at_] 23)
  have g0 : Below W.heap.size W (W.alloc (.cells #[.int .i64 s.off, .int .i64 s.delay, .int .i64 s.disp, .int .i64 s.at_] 23)) := by go_grown
  have hS := fun w => aged_spec s now w
  have hI := fun w => @aged_impl s now w
  obtain ⟨v, hv⟩ : ∃ v, agedV s now = v := ⟨_, rfl⟩
  obtain ⟨ok, hk⟩ : ∃ k, agedOk s now = k := ⟨_, rfl⟩
  rw [hv, hk] at hS hI
  have HS := Lib.hid hS
  have HI := Lib.hid hI
  clear hS hI hv hk
  cases ok with
  | false =>
    go_enter Tryd.func5, Tryd.ntmps5
    go_wp2_with fail
    refine (toSample_c s _).mono ?_
    rintro e w1 ⟨rfl, hb1⟩
    have Q1 := blk_next hb1 Q
    have g1 := grow_next g0 hb1
    go_wp2_with fail
    refine (HS.out _).mono ?_
    rintro e w2 ⟨rfl, hb2⟩
    have Q2 := blk_next hb2 Q1
    obtain ⟨u0, u1, u2, u3⟩ := sample_cells Q2
    have l2 := cell_lt u0
    have g2 := grow_next g1 hb2
    have P2 := blk_new w2 (.cells #[.int .i64 v.off, .int .i64 v.delay, .int .i64 v.disp, .int .i64 v.at_] 25)
    have g3 : Below W.heap.size W (w2.alloc (.cells #[.int .i64 v.off, .int .i64 v.delay, .int .i64 v.disp, .int .i64 v.at_] 25)) := g2.alloc (by have := g2.size; omega) _
    go_wp2_with fail
    refine (toSample_c s _).mono ?_
    rintro e w3 ⟨rfl, hb3⟩
    have P3 := blk_next hb3 P2
    have g4 := grow_next g3 hb3
    go_wp2_with fail
    refine (HI.out _ (L.next g4) (B.next g4)).mono ?_
    rintro e w4 ⟨rfl, hb4⟩
    have P4 := blk_next hb4 P3
    have g5 := grow_next g4 hb4
    obtain ⟨x0, x1, x2, x3⟩ := sample_cells P4
    have l4 := cell_lt x0
    go_wp2_with fail
    refine (eqSample_same _ _).mono ?_
    rintro e w5 ⟨rfl, hb5⟩
    have g6 : Below W.heap.size W (w4.alloc (.cells #[.int .i64 v.off, .int .i64 v.delay, .int .i64 v.disp, .int .i64 v.at_] 25)) := g5.alloc (by have := g5.size; omega) _
    have g7 := grow_next g6 hb5
    go_wp2_with fail
    go_returns
    exact ⟨rfl, g7⟩
  | true =>
    go_enter Tryd.func5, Tryd.ntmps5
    go_wp2_with fail
    refine (toSample_c s _).mono ?_
    rintro e w1 ⟨rfl, hb1⟩
    have Q1 := blk_next hb1 Q
    have g1 := grow_next g0 hb1
    go_wp2_with fail
    refine (HS.out _).mono ?_
    rintro e w2 ⟨rfl, hb2⟩
    have Q2 := blk_next hb2 Q1
    obtain ⟨u0, u1, u2, u3⟩ := sample_cells Q2
    have l2 := cell_lt u0
    have g2 := grow_next g1 hb2
    have P2 := blk_new w2 (.cells #[.int .i64 v.off, .int .i64 v.delay, .int .i64 v.disp, .int .i64 v.at_] 25)
    have g3 : Below W.heap.size W (w2.alloc (.cells #[.int .i64 v.off, .int .i64 v.delay, .int .i64 v.disp, .int .i64 v.at_] 25)) := g2.alloc (by have := g2.size; omega) _
    go_wp2_with fail
    refine (toSample_c s _).mono ?_
    rintro e w3 ⟨rfl, hb3⟩
    have P3 := blk_next hb3 P2
    have g4 := grow_next g3 hb3
    go_wp2_with fail
    refine (HI.out _ (L.next g4) (B.next g4)).mono ?_
    rintro e w4 ⟨rfl, hb4⟩
    have P4 := blk_next hb4 P3
    have g5 := grow_next g4 hb4
    obtain ⟨x0, x1, x2, x3⟩ := sample_cells P4
    have l4 := cell_lt x0
    go_wp2_with fail
    refine (eqSample_same _ _).mono ?_
    rintro e w5 ⟨rfl, hb5⟩
    have g6 : Below W.heap.size W (w4.alloc (.cells #[.int .i64 v.off, .int .i64 v.delay, .int .i64 v.disp, .int .i64 v.at_] 25)) := g5.alloc (by have := g5.size; omega) _
    have g7 := grow_next g6 hb5
    go_wp2_with fail
    go_returns
    exact ⟨rfl, g7⟩

theorem aged_met (os : Os) (args : Array Value) : laidMetH Tryd.prog Rows.fnExactAgedRow.laid ((World.doorLaid Tryd.prog 400 os).forCall (fun _ _ => 0) ⟨#[], args, []⟩).memory :=
  laidMetH_of_parts3 (fuel := 8) (laidMet_of_run' 8 (by kernel_rfl) (by kernel_rfl)) (by kernel_rfl) (by kernel_rfl)
set_option maxRecDepth 100000 in
theorem aged_lifted (os : Os) (started : os.Started) (H : Type) (enc : TypeId × Value → H) :
    ReturnsInHanded {} Tryd.checked os 5 .any (fun w args => (Rows.fnExactAgedSpec.pre enc Tryd.prog Tryd.f5 [] false w args ∧ laidMetH Tryd.prog Rows.fnExactAgedRow.laid w) ∧ sizedMet enc Tryd.prog Tryd.f5 (OpenSpec.ofChange Rows.fnExactAgedSpec) false w args) (Rows.fnExactAgedSpec.post enc Tryd.prog Tryd.f5 false true false false) := by
  refine lifted_of_walk_laid (C := Tryd.checked) own started (by as_aux_lemma => kernel_rfl) Tryd.func5
    (ChangeSpec.witness_shaped (enc := enc) (C := Tryd.checked) (os := os) (X := fun w _ => laidMetH Tryd.prog Rows.fnExactAgedRow.laid w) false (World.doorLaid Tryd.prog 400 os) #[.agg #[.int .i64 0, .int .i64 0, .int .i64 0, .int .i64 0], .int .i64 0] 8 rfl (World.shaped_of_RefB (by kernel_rfl) (by kernel_rfl)) (by kernel_rfl) (by kernel_rfl) (by kernel_rfl) (aged_met os _))
    laidOut (by as_aux_lemma => kernel_rfl) (by as_aux_lemma => kernel_rfl) rfl boolType
    (fun ds gs h hg => by
      match ds, gs, h, hg with
      | [_, _], [_, _, _, _], _, _ => rfl)
    ?_
  intro W base args ds q hval hA hL
  have laidRow : Rows.fnExactAgedRow.laid = Rows.fnExactAgedRow.laid := rfl
  obtain ⟨ao, an, au, L⟩ := ld_of hL (by simp [Rows.fnExactAgedRow, handleD, sentD, Rows.laid_errors_errorType, Rows.laid_loop_example_g00656_impl_errNoTime, Rows.laid_loop_example_g00656_impl_errOutside, Rows.laid_loop_example_g00656_impl_errUnsure, Rows.laid_loop_example_g00656_impl_errBack]) (by simp [Rows.fnExactAgedRow, handleD, sentD, Rows.laid_errors_errorType, Rows.laid_loop_example_g00656_impl_errNoTime, Rows.laid_loop_example_g00656_impl_errOutside, Rows.laid_loop_example_g00656_impl_errUnsure, Rows.laid_loop_example_g00656_impl_errBack]) (by simp [Rows.fnExactAgedRow, handleD, sentD, Rows.laid_errors_errorType, Rows.laid_loop_example_g00656_impl_errNoTime, Rows.laid_loop_example_g00656_impl_errOutside, Rows.laid_loop_example_g00656_impl_errUnsure, Rows.laid_loop_example_g00656_impl_errBack]) (by simp [Rows.fnExactAgedRow, handleD, sentD, Rows.laid_errors_errorType, Rows.laid_loop_example_g00656_impl_errNoTime, Rows.laid_loop_example_g00656_impl_errOutside, Rows.laid_loop_example_g00656_impl_errUnsure, Rows.laid_loop_example_g00656_impl_errBack])
  obtain ⟨ab, B⟩ := sentH_of (n := "loop.example/g00656/impl.errBack") (text := [116, 105, 109, 101, 32, 103, 111, 101, 115, 32, 98, 97, 99, 107]) (g := 3) hL (by simp [Rows.fnExactAgedRow, handleD, sentD, Rows.laid_errors_errorType, Rows.laid_loop_example_g00656_impl_errNoTime, Rows.laid_loop_example_g00656_impl_errOutside, Rows.laid_loop_example_g00656_impl_errUnsure, Rows.laid_loop_example_g00656_impl_errBack]) (by simp [Rows.fnExactAgedRow, handleD, sentD, Rows.laid_errors_errorType, Rows.laid_loop_example_g00656_impl_errNoTime, Rows.laid_loop_example_g00656_impl_errOutside, Rows.laid_loop_example_g00656_impl_errUnsure, Rows.laid_loop_example_g00656_impl_errBack]) (by kernel_rfl) (by kernel_rfl)
  clear hL
  rw [Tryd.params5] at hA hval
  obtain ⟨v0, vs0, d0, ds0, p0, q0, hargs, rfl, rfl, h0, r0⟩ := trodAll_cons hA
  obtain ⟨v1, vs1, d1, ds1, p1, q1, rfl, rfl, rfl, h1, r1⟩ := trodAll_cons r0
  obtain ⟨rfl, rfl, rfl⟩ := trodAll_nil r1
  obtain rfl : args = #[v0, v1] := by cases args; simp_all
  obtain ⟨a0, rfl⟩ := open_sample (hval 0 23 v0 rfl rfl) h0
  obtain ⟨a1, rfl, rfl, rfl, w1⟩ := open_int Tryd.underlying2 (hval 1 2 v1 rfl rfl) h1
  exact aged_walk W L B a0 a1 w1

theorem aged_facts : joinedFacts Tryd.pinned.checked.prog 5 Tryd.f5 Rows.fnExactAgedSpec Rows.fnExactAgedRow = true :=
  facts_of (P := Tryd.prog) (by as_aux_lemma => kernel_rfl) laidOut mapsRow (by as_aux_lemma => kernel_rfl) (by as_aux_lemma => kernel_rfl) rfl noStops rfl noKnobs (by as_aux_lemma => kernel_rfl) (by as_aux_lemma => kernel_rfl) (by as_aux_lemma => kernel_rfl) (by as_aux_lemma => kernel_rfl) (by as_aux_lemma => kernel_rfl) (by as_aux_lemma => kernel_rfl) (by as_aux_lemma => kernel_rfl) (by as_aux_lemma => kernel_rfl) (by as_aux_lemma => kernel_rfl) (by as_aux_lemma => kernel_rfl) (by as_aux_lemma => kernel_rfl) (by as_aux_lemma => kernel_rfl) (by as_aux_lemma => kernel_rfl) keysPlain rfl heard enters finals isMake rfl rfl rfl (by as_aux_lemma => kernel_rfl) (by as_aux_lemma => kernel_rfl)

theorem aged_row : Rows.FnExactAgedSaid :=
  OpenClaim.holds_of_wide 5 Tryd.f5 rfl rfl rfl rfl rfl rfl rfl ⟨rfl, rfl, rfl, rfl, rfl⟩ rfl rfl rfl rfl rfl (by as_aux_lemma => kernel_rfl) Tryd.func5 aged_facts
    (of_decide_eq_true (by as_aux_lemma => kernel_rfl)) (by unfold Func.isWrapper; first | (rw [if_pos (by decide +kernel)]; kernel_rfl) | (rw [if_neg (by decide +kernel)]; exact ⟨rfl, rfl⟩))
    (fun os started H enc _ => aged_lifted os started H enc)

/-- The given statement. -/
theorem aged_holds : Rows.FnExactAgedCardSaid :=
  Claim7.holds_tied_plain_at .later [] Rows.fnExactAgedCard.laidKinds true Rows.fnExactAgedCard.stood.harness true
    aged_row (fun _ h => by cases h) (by kernel_rfl) (fun _ h => by cases h) fnExactAged_row_tie rfl ⟨rfl, rfl⟩ (by kernel_rfl) rfl
    (fun f fn hf hfn => by
      obtain rfl : f = 5 := Option.some.inj ((show Tryd.prog.funcNamed "loop.example/g00656/laws.FnExactAged" = some 5 by kernel_rfl).symm.trans hf) |>.symm
      obtain rfl : fn = Tryd.f5 := (Option.some.inj (Tryd.func5.symm.trans hfn)).symm
      exact ⟨by kernel_rfl, fun j t ht => noStandIn (by rw [Tryd.params5]; kernel_rfl) j t ht⟩)
    (by kernel_rfl)
#print axioms aged_holds
end Go.Proofs.YtbabkpcefpacpaaDoor
