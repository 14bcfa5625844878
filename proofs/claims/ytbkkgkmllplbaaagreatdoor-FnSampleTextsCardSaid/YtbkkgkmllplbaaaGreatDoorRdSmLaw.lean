/- For every text the program's ReadSample answers as the reference. -/
import Derived.Test.YtbkkgkmllplbaaaGreatDoorRdSmI
import Derived.Test.YtbkkgkmllplbaaaGreatDoorRdClkLaw
import Derived.Test.YtbkkgkmllplbaaaGreatDoorSmTextLaw
namespace Go.Proofs.YtbkkgkmllplbaaaGreatDoor
open Go.ChangeShapes Go.WideShapes Go.ChangeAt Go.RowKit
set_option linter.unusedVariables false
set_option linter.unusedSimpArgs false

/-- A world into which the listed variables are laid reads as they are listed. -/
theorem layVars_all {P : Program} {w0 : World} {l : List (String × DataW Unit)} (args : Array Value) (hf : w0.layFits P l [] = true) (hi : w0.layIfaces P l (w0.layVars P l) = true) :
    laidMet P l ((w0.layVars P l).forCall (fun _ _ => 0) ⟨#[], args, []⟩).memory := by
  have e1 : (l.filter fun x => (l.map (·.1)).contains x.1) = l := List.filter_eq_self.2 fun x hx => List.contains_iff_mem.2 (List.mem_map.2 ⟨x, hx, rfl⟩)
  have e2 : (l.filter fun x => !(l.map (·.1)).contains x.1) = [] := List.filter_eq_nil_iff.2 fun x hx => by
    rw [List.contains_iff_mem.2 (List.mem_map.2 ⟨x, hx, rfl⟩)]; simp
  have h : laidMet P l (w0.layVars P l) := laidMet_layVars (w0 := w0) (l.map (·.1)) [] (by rw [e1]) (by rw [e1]; exact hf) (by rw [e1]; exact hi) (by rw [e2]; exact LaidIn.none)
  exact h.of_heap (by simp [World.memory, World.forCall, Input.heap])
set_option maxRecDepth 100000 in
set_option maxHeartbeats 1000000 in
theorem readSample_walk (W : World) {ao an au : Addr} (L : Ld W ao an au) (hp : DecW W) (s : ByteArray) (hm : s.size ≤ maxLen) :
    Calls Tryz.prog 3 #[.string s] W fun e w' => e = .returned (.bool true) ∧ Below W.heap.size W w' := by
  by_cases hs : s.size ≤ 1048576
  · have hd : decide ((1048576 : Int) < (s.size : Int)) = false := decide_eq_false (by omega)
    have HS := Lib.hid (fun w => readSample_spec s hs w)
    have HI := Lib.hid (fun w {ao an au} L h => @readSample_impl s hs w ao an au L h)
    go_enter Tryz.func3, Tryz.ntmps3
    go_wp2_with fail
    refine (HS.out _).mono ?_
    rintro e w1 ⟨c, b, rfl, hr1, hb1⟩
    have Q1 := blk_new w1 (.cells #[.int .i64 c.off, .int .i64 c.delay, .int .i64 c.disp, .int .i64 c.at_] 23)
    have G1 := hb1.alloc hb1.size (.cells #[.int .i64 c.off, .int .i64 c.delay, .int .i64 c.disp, .int .i64 c.at_] 23)
    have HR := Lib.hid hr1
    clear hr1
    go_wp2_with fail
    refine (HI.out _ (L.next G1) (hp.next G1)).mono ?_
    rintro e w2 ⟨c', b', rfl, hr2, hb2⟩
    obtain ⟨rfl, rfl⟩ := HR.out.same hr2
    have Q2 := blk_next hb2 Q1
    have G2 := grow_next G1 hb2
    have hs2 : w1.heap.size < w2.heap.size := (Array.getElem?_eq_some_iff.1 Q2).1
    obtain ⟨x0, x1, x2, x3⟩ := sample_cells Q2
    clear hr2 Q1 Q2
    go_wp2_with fail
    refine (eqSample_same _ _).mono ?_
    rintro e w3 ⟨rfl, hb3⟩
    go_wp2_with fail
    go_returns
    exact ⟨rfl, grow_next (G2.alloc G2.size _) hb3⟩
  · have hd : decide ((1048576 : Int) < (s.size : Int)) = true := decide_eq_true (by omega)
    go_enter Tryz.func3, Tryz.ntmps3
    go_wp2_with fail
    go_returns
    exact ⟨rfl, Below.refl _ _⟩
theorem readSample_met (os : Os) (args : Array Value) : laidMetH Tryz.prog Rows.fnExactReadSampleRow.laid (((World.doorLaid Tryz.prog 400 os).layVars Tryz.prog (Rows.fnExactReadSampleRow.laid.filter fun x => x.2.handleName?.isNone)).forCall (fun _ _ => 0) ⟨#[], args, []⟩).memory :=
  laidMetH_of_parts3 (fuel := 8) (layVars_all _ (by kernel_rfl) (by kernel_rfl)) (by kernel_rfl) (by kernel_rfl)
set_option maxRecDepth 100000 in
theorem readSample_lifted (os : Os) (started : os.Started) (H : Type) (enc : TypeId × Value → H) :
    ReturnsInHanded {} Tryz.checked os 3 .any (fun w args => (Rows.fnExactReadSampleSpec.pre enc Tryz.prog Tryz.f3 [] false w args ∧ laidMetH Tryz.prog Rows.fnExactReadSampleRow.laid w) ∧ sizedMet enc Tryz.prog Tryz.f3 (OpenSpec.ofChange Rows.fnExactReadSampleSpec) false w args) (Rows.fnExactReadSampleSpec.post enc Tryz.prog Tryz.f3 false true false false) := by
  refine lifted_of_walk_shaped (C := Tryz.checked) own started (by as_aux_lemma => kernel_rfl) Tryz.func3
    (ChangeSpec.witness_shaped (enc := enc) (C := Tryz.checked) (os := os) (X := fun w _ => laidMetH Tryz.prog Rows.fnExactReadSampleRow.laid w) false ((World.doorLaid Tryz.prog 400 os).layVars Tryz.prog (Rows.fnExactReadSampleRow.laid.filter fun x => x.2.handleName?.isNone)) #[.string ByteArray.empty] 8 (World.layVars_os _ _ _) (World.shaped_of_ZipB (by kernel_rfl) (by kernel_rfl)) (by kernel_rfl) (by kernel_rfl) (by kernel_rfl) (readSample_met os _))
    laidOut (by as_aux_lemma => kernel_rfl) (by as_aux_lemma => kernel_rfl) rfl boolType
    (fun ds gs h hg => by
      match ds, gs, h, hg with
      | [_], [_, _, _], _, _ => rfl)
    ?_
  intro W base args ds q hval hA hL hSh
  have laidRow : Rows.fnExactReadSampleRow.laid = Rows.fnExactReadSampleRow.laid := rfl
  have hp := decW_of hL hSh (by rfl) (by rfl) (by rfl)
  obtain ⟨ao, an, au, L⟩ := ld_of hL (by simp [Rows.fnExactReadSampleRow, handleD, sentD, Rows.laid_errors_errorType, Rows.laid_loop_example_g00656_impl_errNoTime, Rows.laid_loop_example_g00656_impl_errOutside, Rows.laid_loop_example_g00656_impl_errUnsure]) (by simp [Rows.fnExactReadSampleRow, handleD, sentD, Rows.laid_errors_errorType, Rows.laid_loop_example_g00656_impl_errNoTime, Rows.laid_loop_example_g00656_impl_errOutside, Rows.laid_loop_example_g00656_impl_errUnsure]) (by simp [Rows.fnExactReadSampleRow, handleD, sentD, Rows.laid_errors_errorType, Rows.laid_loop_example_g00656_impl_errNoTime, Rows.laid_loop_example_g00656_impl_errOutside, Rows.laid_loop_example_g00656_impl_errUnsure]) (by simp [Rows.fnExactReadSampleRow, handleD, sentD, Rows.laid_errors_errorType, Rows.laid_loop_example_g00656_impl_errNoTime, Rows.laid_loop_example_g00656_impl_errOutside, Rows.laid_loop_example_g00656_impl_errUnsure])
  clear hL
  rw [Tryz.params3] at hA hval
  obtain ⟨v0, vs0, d0, ds0, p0, q0, hargs, rfl, rfl, h0, r0⟩ := trodAll_cons hA
  obtain ⟨rfl, rfl, rfl⟩ := trodAll_nil r0
  obtain rfl : args = #[v0] := by cases args; simp_all
  obtain ⟨a0, rfl, rfl, rfl, w0⟩ := Go.ChangeMaps.open_string Tryz.underlying9 (hval 0 9 v0 rfl rfl) h0
  exact readSample_walk W L hp a0 w0

set_option maxHeartbeats 4000000 in
theorem readSample_facts : joinedFacts Tryz.pinned.checked.prog 3 Tryz.f3 Rows.fnExactReadSampleSpec Rows.fnExactReadSampleRow = true :=
  facts_of (P := Tryz.prog) (by as_aux_lemma => kernel_rfl) laidOut mapsRow (by as_aux_lemma => kernel_rfl) (by as_aux_lemma => kernel_rfl) rfl noStops rfl noKnobs (by as_aux_lemma => kernel_rfl) (by as_aux_lemma => kernel_rfl) (by as_aux_lemma => kernel_rfl) (by as_aux_lemma => kernel_rfl) (by as_aux_lemma => kernel_rfl) (by as_aux_lemma => kernel_rfl) (by as_aux_lemma => kernel_rfl) (by as_aux_lemma => kernel_rfl) (by as_aux_lemma => kernel_rfl) (by as_aux_lemma => kernel_rfl) (by as_aux_lemma => kernel_rfl) (by as_aux_lemma => kernel_rfl) (by as_aux_lemma => kernel_rfl) keysPlain rfl heard enters finals isMake rfl rfl rfl (by as_aux_lemma => kernel_rfl) (by as_aux_lemma => kernel_rfl)

theorem readSample_row : Rows.FnExactReadSampleSaid :=
  OpenClaim.holds_of_wide 3 Tryz.f3 rfl rfl rfl rfl rfl rfl rfl ⟨rfl, rfl, rfl, rfl, rfl⟩ rfl rfl rfl rfl rfl (by as_aux_lemma => kernel_rfl) Tryz.func3 readSample_facts
    (of_decide_eq_true (by as_aux_lemma => kernel_rfl)) (by unfold Func.isWrapper; first | (rw [if_pos (by decide +kernel)]; kernel_rfl) | (rw [if_neg (by decide +kernel)]; exact ⟨rfl, rfl⟩))
    (fun os started H enc _ => readSample_lifted os started H enc)

/-- The given statement. -/
theorem readSample_holds : Rows.FnExactReadSampleCardSaid :=
  Claim7.holds_tied_plain_at .later [] Rows.fnExactReadSampleCard.laidKinds true Rows.fnExactReadSampleCard.stood.harness true
    readSample_row (fun _ h => by cases h) (by kernel_rfl) (fun _ h => by cases h) fnExactReadSample_row_tie rfl ⟨rfl, rfl⟩ (by kernel_rfl) rfl
    (fun f fn hf hfn => by
      obtain rfl : f = 3 := Option.some.inj ((show Tryz.prog.funcNamed "loop.example/g00656/laws.FnExactReadSample" = some 3 by kernel_rfl).symm.trans hf) |>.symm
      obtain rfl : fn = Tryz.f3 := (Option.some.inj (Tryz.func3.symm.trans hfn)).symm
      exact ⟨by kernel_rfl, fun j t ht => noStandIn (by rw [Tryz.params3]; kernel_rfl) j t ht⟩)
    (by kernel_rfl)
#print axioms readSample_holds
end Go.Proofs.YtbkkgkmllplbaaaGreatDoor
