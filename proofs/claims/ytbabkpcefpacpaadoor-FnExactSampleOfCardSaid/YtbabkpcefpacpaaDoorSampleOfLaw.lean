/- For all four times the program's SampleOf answers as the reference. -/
import Derived.Test.YtbabkpcefpacpaaDoorSampleMk
import Derived.Test.YtbabkpcefpacpaaDoorTie
import Derived.Test.YtbabkpcefpacpaaDoorCards
namespace Go.Proofs.YtbabkpcefpacpaaDoor
open Go.ChangeShapes Go.WideShapes Go.ChangeAt Go.RowKit
set_option linter.unusedVariables false
set_option linter.unusedSimpArgs false

theorem sampleOf_walk (W : World) {ao an au ab : Addr} {tx : List UInt8} (L : Ld W ao an au) (B : Sent W 3 tx ab)
    (a : Int) (_ : (Lit.int .i64 a).wf = true) (b : Int) (_ : (Lit.int .i64 b).wf = true) (c : Int) (_ : (Lit.int .i64 c).wf = true) (d : Int) (_ : (Lit.int .i64 d).wf = true) :
    Calls Tryd.prog 4 #[.int .i64 a, .int .i64 b, .int .i64 c, .int .i64 d] W fun e w' => e = .returned (.bool true) ∧ Below W.heap.size W w' := by
  have hS := fun w => sampleOf_spec a b c d w
  have hI := fun w => @sampleOf_impl a b c d w
  obtain ⟨v, hv⟩ : ∃ v, smOfV a b c d = v := ⟨_, rfl⟩
  obtain ⟨ok, hk⟩ : ∃ k, smOfOk a b c d = k := ⟨_, rfl⟩
  rw [hv, hk] at hS hI
  have HS := Lib.hid hS
  have HI := Lib.hid hI
  clear hS hI hv hk
  cases ok with
  | false =>
    go_enter Tryd.func4, Tryd.ntmps4
    go_wp2_with fail
    refine (HS.out _).mono ?_
    rintro e w1 ⟨rfl, hb1⟩
    have g1 := grow_next (show Below W.heap.size W _ by go_grown) hb1
    have P1 := blk_new w1 (.cells #[.int .i64 v.off, .int .i64 v.delay, .int .i64 v.disp, .int .i64 v.at_] 25)
    have g2 : Below W.heap.size W (w1.alloc (.cells #[.int .i64 v.off, .int .i64 v.delay, .int .i64 v.disp, .int .i64 v.at_] 25)) := g1.alloc (by have := g1.size; omega) _
    go_wp2_with fail
    refine (HI.out _ (L.next g2) (B.next g2)).mono ?_
    rintro e w2 ⟨rfl, hb2⟩
    have P2 := blk_next hb2 P1
    obtain ⟨x0, x1, x2, x3⟩ := sample_cells P2
    have g3 := grow_next g2 hb2
    have l2 := cell_lt x0
    go_wp2_with fail
    refine (eqSample_same _ _).mono ?_
    rintro e w3 ⟨rfl, hb3⟩
    have g4 : Below W.heap.size W (w2.alloc (.cells #[.int .i64 v.off, .int .i64 v.delay, .int .i64 v.disp, .int .i64 v.at_] 25)) := g3.alloc (by have := g3.size; omega) _
    have g5 := grow_next g4 hb3
    go_wp2_with fail
    go_returns
    exact ⟨rfl, g5⟩
  | true =>
    go_enter Tryd.func4, Tryd.ntmps4
    go_wp2_with fail
    refine (HS.out _).mono ?_
    rintro e w1 ⟨rfl, hb1⟩
    have g1 := grow_next (show Below W.heap.size W _ by go_grown) hb1
    have P1 := blk_new w1 (.cells #[.int .i64 v.off, .int .i64 v.delay, .int .i64 v.disp, .int .i64 v.at_] 25)
    have g2 : Below W.heap.size W (w1.alloc (.cells #[.int .i64 v.off, .int .i64 v.delay, .int .i64 v.disp, .int .i64 v.at_] 25)) := g1.alloc (by have := g1.size; omega) _
    go_wp2_with fail
    refine (HI.out _ (L.next g2) (B.next g2)).mono ?_
    rintro e w2 ⟨rfl, hb2⟩
    have P2 := blk_next hb2 P1
    obtain ⟨x0, x1, x2, x3⟩ := sample_cells P2
    have g3 := grow_next g2 hb2
    have l2 := cell_lt x0
    go_wp2_with fail
    refine (eqSample_same _ _).mono ?_
    rintro e w3 ⟨rfl, hb3⟩
    have g4 : Below W.heap.size W (w2.alloc (.cells #[.int .i64 v.off, .int .i64 v.delay, .int .i64 v.disp, .int .i64 v.at_] 25)) := g3.alloc (by have := g3.size; omega) _
    have g5 := grow_next g4 hb3
    go_wp2_with fail
    go_returns
    exact ⟨rfl, g5⟩

theorem sampleOf_met (os : Os) (args : Array Value) : laidMetH Tryd.prog Rows.fnExactSampleOfRow.laid ((World.doorLaid Tryd.prog 400 os).forCall (fun _ _ => 0) ⟨#[], args, []⟩).memory :=
  laidMetH_of_parts3 (fuel := 8) (laidMet_of_run' 8 (by kernel_rfl) (by kernel_rfl)) (by kernel_rfl) (by kernel_rfl)
set_option maxRecDepth 100000 in
theorem sampleOf_lifted (os : Os) (started : os.Started) (H : Type) (enc : TypeId × Value → H) :
    ReturnsInHanded {} Tryd.checked os 4 .any (fun w args => (Rows.fnExactSampleOfSpec.pre enc Tryd.prog Tryd.f4 [] false w args ∧ laidMetH Tryd.prog Rows.fnExactSampleOfRow.laid w) ∧ sizedMet enc Tryd.prog Tryd.f4 (OpenSpec.ofChange Rows.fnExactSampleOfSpec) false w args) (Rows.fnExactSampleOfSpec.post enc Tryd.prog Tryd.f4 false true false false) := by
  refine lifted_of_walk_laid (C := Tryd.checked) own started (by as_aux_lemma => kernel_rfl) Tryd.func4
    (ChangeSpec.witness_shaped (enc := enc) (C := Tryd.checked) (os := os) (X := fun w _ => laidMetH Tryd.prog Rows.fnExactSampleOfRow.laid w) false (World.doorLaid Tryd.prog 400 os) #[.int .i64 0, .int .i64 0, .int .i64 0, .int .i64 0] 8 rfl (World.shaped_of_RefB (by kernel_rfl) (by kernel_rfl)) (by kernel_rfl) (by kernel_rfl) (by kernel_rfl) (sampleOf_met os _))
    laidOut (by as_aux_lemma => kernel_rfl) (by as_aux_lemma => kernel_rfl) rfl boolType
    (fun ds gs h hg => by
      match ds, gs, h, hg with
      | [_, _, _, _], [_, _, _, _], _, _ => rfl)
    ?_
  intro W base args ds q hval hA hL
  have laidRow : Rows.fnExactSampleOfRow.laid = Rows.fnExactSampleOfRow.laid := rfl
  obtain ⟨ao, an, au, L⟩ := ld_of hL (by simp [Rows.fnExactSampleOfRow, handleD, sentD, Rows.laid_errors_errorType, Rows.laid_loop_example_g00656_impl_errNoTime, Rows.laid_loop_example_g00656_impl_errOutside, Rows.laid_loop_example_g00656_impl_errUnsure, Rows.laid_loop_example_g00656_impl_errBack]) (by simp [Rows.fnExactSampleOfRow, handleD, sentD, Rows.laid_errors_errorType, Rows.laid_loop_example_g00656_impl_errNoTime, Rows.laid_loop_example_g00656_impl_errOutside, Rows.laid_loop_example_g00656_impl_errUnsure, Rows.laid_loop_example_g00656_impl_errBack]) (by simp [Rows.fnExactSampleOfRow, handleD, sentD, Rows.laid_errors_errorType, Rows.laid_loop_example_g00656_impl_errNoTime, Rows.laid_loop_example_g00656_impl_errOutside, Rows.laid_loop_example_g00656_impl_errUnsure, Rows.laid_loop_example_g00656_impl_errBack]) (by simp [Rows.fnExactSampleOfRow, handleD, sentD, Rows.laid_errors_errorType, Rows.laid_loop_example_g00656_impl_errNoTime, Rows.laid_loop_example_g00656_impl_errOutside, Rows.laid_loop_example_g00656_impl_errUnsure, Rows.laid_loop_example_g00656_impl_errBack])
  obtain ⟨ab, B⟩ := sentH_of (n := "loop.example/g00656/impl.errBack") (text := [116, 105, 109, 101, 32, 103, 111, 101, 115, 32, 98, 97, 99, 107]) (g := 3) hL (by simp [Rows.fnExactSampleOfRow, handleD, sentD, Rows.laid_errors_errorType, Rows.laid_loop_example_g00656_impl_errNoTime, Rows.laid_loop_example_g00656_impl_errOutside, Rows.laid_loop_example_g00656_impl_errUnsure, Rows.laid_loop_example_g00656_impl_errBack]) (by simp [Rows.fnExactSampleOfRow, handleD, sentD, Rows.laid_errors_errorType, Rows.laid_loop_example_g00656_impl_errNoTime, Rows.laid_loop_example_g00656_impl_errOutside, Rows.laid_loop_example_g00656_impl_errUnsure, Rows.laid_loop_example_g00656_impl_errBack]) (by kernel_rfl) (by kernel_rfl)
  clear hL
  rw [Tryd.params4] at hA hval
  obtain ⟨v0, vs0, d0, ds0, p0, q0, hargs, rfl, rfl, h0, r0⟩ := trodAll_cons hA
  obtain ⟨v1, vs1, d1, ds1, p1, q1, rfl, rfl, rfl, h1, r1⟩ := trodAll_cons r0
  obtain ⟨v2, vs2, d2, ds2, p2, q2, rfl, rfl, rfl, h2, r2⟩ := trodAll_cons r1
  obtain ⟨v3, vs3, d3, ds3, p3, q3, rfl, rfl, rfl, h3, r3⟩ := trodAll_cons r2
  obtain ⟨rfl, rfl, rfl⟩ := trodAll_nil r3
  obtain rfl : args = #[v0, v1, v2, v3] := by cases args; simp_all
  obtain ⟨a0, rfl, rfl, rfl, w0⟩ := open_int Tryd.underlying2 (hval 0 2 v0 rfl rfl) h0
  obtain ⟨a1, rfl, rfl, rfl, w1⟩ := open_int Tryd.underlying2 (hval 1 2 v1 rfl rfl) h1
  obtain ⟨a2, rfl, rfl, rfl, w2⟩ := open_int Tryd.underlying2 (hval 2 2 v2 rfl rfl) h2
  obtain ⟨a3, rfl, rfl, rfl, w3⟩ := open_int Tryd.underlying2 (hval 3 2 v3 rfl rfl) h3
  exact sampleOf_walk W L B a0 w0 a1 w1 a2 w2 a3 w3

theorem sampleOf_facts : joinedFacts Tryd.pinned.checked.prog 4 Tryd.f4 Rows.fnExactSampleOfSpec Rows.fnExactSampleOfRow = true :=
  facts_of (P := Tryd.prog) (by as_aux_lemma => kernel_rfl) laidOut mapsRow (by as_aux_lemma => kernel_rfl) (by as_aux_lemma => kernel_rfl) rfl noStops rfl noKnobs (by as_aux_lemma => kernel_rfl) (by as_aux_lemma => kernel_rfl) (by as_aux_lemma => kernel_rfl) (by as_aux_lemma => kernel_rfl) (by as_aux_lemma => kernel_rfl) (by as_aux_lemma => kernel_rfl) (by as_aux_lemma => kernel_rfl) (by as_aux_lemma => kernel_rfl) (by as_aux_lemma => kernel_rfl) (by as_aux_lemma => kernel_rfl) (by as_aux_lemma => kernel_rfl) (by as_aux_lemma => kernel_rfl) (by as_aux_lemma => kernel_rfl) keysPlain rfl heard enters finals isMake rfl rfl rfl (by as_aux_lemma => kernel_rfl) (by as_aux_lemma => kernel_rfl)

theorem sampleOf_row : Rows.FnExactSampleOfSaid :=
  OpenClaim.holds_of_wide 4 Tryd.f4 rfl rfl rfl rfl rfl rfl rfl ⟨rfl, rfl, rfl, rfl, rfl⟩ rfl rfl rfl rfl rfl (by as_aux_lemma => kernel_rfl) Tryd.func4 sampleOf_facts
    (of_decide_eq_true (by as_aux_lemma => kernel_rfl)) (by unfold Func.isWrapper; first | (rw [if_pos (by decide +kernel)]; kernel_rfl) | (rw [if_neg (by decide +kernel)]; exact ⟨rfl, rfl⟩))
    (fun os started H enc _ => sampleOf_lifted os started H enc)

/-- The given statement. -/
theorem sampleOf_holds : Rows.FnExactSampleOfCardSaid :=
  Claim7.holds_tied_plain_at .later [] Rows.fnExactSampleOfCard.laidKinds true Rows.fnExactSampleOfCard.stood.harness true
    sampleOf_row (fun _ h => by cases h) (by kernel_rfl) (fun _ h => by cases h) fnExactSampleOf_row_tie rfl ⟨rfl, rfl⟩ (by kernel_rfl) rfl
    (fun f fn hf hfn => by
      obtain rfl : f = 4 := Option.some.inj ((show Tryd.prog.funcNamed "loop.example/g00656/laws.FnExactSampleOf" = some 4 by kernel_rfl).symm.trans hf) |>.symm
      obtain rfl : fn = Tryd.f4 := (Option.some.inj (Tryd.func4.symm.trans hfn)).symm
      exact ⟨by kernel_rfl, fun j t ht => noStandIn (by rw [Tryd.params4]; kernel_rfl) j t ht⟩)
    (by kernel_rfl)
#print axioms sampleOf_holds
end Go.Proofs.YtbabkpcefpacpaaDoor
