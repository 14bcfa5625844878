/- A sample that took longer reaches farther: at all drawn samples. -/
import Derived.Test.YtbabkpcefpacpaaDoorAged
import Derived.Test.YtbabkpcefpacpaaDoorDraw3
import Derived.Test.YtbabkpcefpacpaaDoorTie
import Derived.Test.YtbabkpcefpacpaaDoorCards
namespace Go.Proofs.YtbabkpcefpacpaaDoor
open Go.ChangeShapes Go.WideShapes Go.ChangeAt Go.RowKit
set_option linter.unusedVariables false
set_option linter.unusedSimpArgs false

set_option maxHeartbeats 2000000 in
theorem reachMore_walk (w : World) {ao an au : Addr} (L : Ld w ao an au) (x : Option Addr) (n cap z : Nat) (hz : z = n ∧ Code w.heap.size w (.slice x n cap) n) :
    Calls Tryd.prog 13 #[.slice x n cap] w fun e w' => e = .returned (.bool true) ∧ Below w.heap.size w w' := by
  obtain ⟨_, hc⟩ := hz
  by_cases hbig : n ≤ 1048576
  · go_enter Tryd.func13, Tryd.ntmps13
    go_wp2_with (go_at_call 24; go_in)
    refine (drawReach_c x n cap _ hc hbig).mono ?_
    rintro e w1 ⟨s, rfl, hb1⟩
    have P1 := blk_new w1 (.cells #[.int .i64 s.off, .int .i64 s.delay, .int .i64 s.disp, .int .i64 s.at_] 25)
    have g1 : Below w.heap.size w (w1.alloc (.cells #[.int .i64 s.off, .int .i64 s.delay, .int .i64 s.disp, .int .i64 s.at_] 25)) := hb1.alloc (by have := hb1.size; omega) _
    have hI := @reach_impl s
    have hS := reach_spec s
    obtain ⟨rv, hv⟩ : ∃ rv, reachV s = rv := ⟨_, rfl⟩
    rw [hv] at hI hS
    have HV := Lib.hid hv
    have HI := Lib.hid hI
    have HS := Lib.hid hS
    clear hI hS hv
    go_wp2_with fail
    refine (HI.out _ (L.next g1)).mono ?_
    rintro e w2 ⟨rfl, hb2⟩
    have P2 := blk_next hb2 P1
    have g2 := grow_next g1 hb2
    obtain ⟨x0, x1, x2, x3⟩ := sample_cells P2
    go_wp2_with fail
    refine (HS.out _).mono ?_
    rintro e w3 ⟨rfl, hb3⟩
    have P3 := blk_next hb3 P2
    have g3 := grow_next g2 hb3
    obtain ⟨y0, y1, y2, y3⟩ := sample_cells P3
    cases hs : s.ok with
    | false =>
      have e1 : rv = -1 := HV.out.symm.trans (reachV_no s hs)
      subst e1
      clear hs
      go_wp2_with fail
      refine (HS.out _).mono ?_
      rintro e w4 ⟨rfl, hb4⟩
      go_wp2_with fail
      go_returns
      exact ⟨rfl, grow_next g3 hb4⟩
    | true =>
      obtain ⟨er, r0, r1⟩ := reachV_bounds s hs
      obtain ⟨⟨a0, a1⟩, ⟨b0, b1⟩, ⟨c0, c1⟩, ⟨d0, d1⟩⟩ := Sm.ok_iff.1 hs
      rw [HV.out] at er r0 r1
      obtain ⟨f0, f1, f2, f3⟩ := sample_thaw P3
      have P4 : (w3.setCell ⟨w1.heap.size, 1, none⟩ (.int .i64 (s.delay + n))).heap[w1.heap.size]? = some (.cells #[.int .i64 s.off, .int .i64 (s.delay + n), .int .i64 s.disp, .int .i64 s.at_] 25) := by
        simp [World.setCell, Array.getElem?_modify, P3]
      obtain ⟨q0, q1, q2, q3⟩ := sample_cells (q := ⟨s.off, s.delay + n, s.disp, s.at_⟩) P4
      dsimp only at q0 q1 q2 q3
      have g4 : Below w.heap.size w (w3.setCell ⟨w1.heap.size, 1, none⟩ (.int .i64 (s.delay + n))) := below_put g3 hb1.size _ _
      have hI2 := @reach_impl ⟨s.off, s.delay + n, s.disp, s.at_⟩
      obtain ⟨r2, hr2⟩ : ∃ r2, reachV ⟨s.off, s.delay + n, s.disp, s.at_⟩ = r2 := ⟨_, rfl⟩
      rw [hr2] at hI2
      have hE : r2 = -1 ∨ rv ≤ r2 ∧ r2 ≤ rv + n := by
        cases hs2 : (⟨s.off, s.delay + n, s.disp, s.at_⟩ : Sm).ok with
        | false => exact .inl (hr2.symm.trans (reachV_no _ hs2))
        | true =>
          have e2 := (reachV_bounds _ hs2).1
          rw [hr2] at e2
          dsimp only at e2
          exact .inr (by omega)
      have HI2 := Lib.hid hI2
      clear hI2 hr2 hs er
      go_wp2_with fail
      refine (HI2.out _ (L.next g4)).mono ?_
      rintro e w4 ⟨rfl, hb4⟩
      have g5 := grow_next g4 hb4
      rcases hE with rfl | ⟨e1, e2⟩
      · go_wp2_with fail
        go_returns
        exact ⟨rfl, g5⟩
      · go_wp2_with fail
        all_goals
          go_returns
          exact ⟨by simp [e1, e2], g5⟩
  · go_enter Tryd.func13, Tryd.ntmps13
    go_wp2_with (go_at_call 24; go_in)
    go_returns
    exact ⟨rfl, Below.refl _ _⟩

theorem reachMore_met (os : Os) (args : Array Value) : laidMetH Tryd.prog Rows.fnReachMoreRow.laid ((World.doorLaid Tryd.prog 400 os).forCall (fun _ _ => 0) ⟨#[], args, []⟩).memory :=
  laidMetH_of_parts3 (fuel := 8) (laidMet_of_run' 8 (by kernel_rfl) (by kernel_rfl)) (by kernel_rfl) (by kernel_rfl)
set_option maxRecDepth 100000 in
theorem reachMore_lifted (os : Os) (started : os.Started) (H : Type) (enc : TypeId × Value → H) :
    ReturnsInHanded {} Tryd.checked os 13 .any (fun w args => (Rows.fnReachMoreSpec.pre enc Tryd.prog Tryd.f13 [] false w args ∧ laidMetH Tryd.prog Rows.fnReachMoreRow.laid w) ∧ sizedMet enc Tryd.prog Tryd.f13 (OpenSpec.ofChange Rows.fnReachMoreSpec) false w args) (Rows.fnReachMoreSpec.post enc Tryd.prog Tryd.f13 false true false false) := by
  refine lifted_of_walk_laid (C := Tryd.checked) own started (by as_aux_lemma => kernel_rfl) Tryd.func13
    (ChangeSpec.witness_shaped (enc := enc) (C := Tryd.checked) (os := os) (X := fun w _ => laidMetH Tryd.prog Rows.fnReachMoreRow.laid w) false (World.doorLaid Tryd.prog 400 os) #[.slice none 0 0] 8 rfl (World.shaped_of_RefB (by kernel_rfl) (by kernel_rfl)) (by kernel_rfl) (by kernel_rfl) (by kernel_rfl) (reachMore_met os _))
    laidOut (by as_aux_lemma => kernel_rfl) (by as_aux_lemma => kernel_rfl) rfl boolType
    (fun ds gs h hg => by
      match ds, gs, h, hg with
      | [_], [_, _, _], _, _ => rfl)
    ?_
  intro W base args ds q hval hA hL
  have laidRow : Rows.fnReachMoreRow.laid = Rows.fnReachMoreRow.laid := rfl
  obtain ⟨ao, an, au, L⟩ := ld_of hL (by simp [Rows.fnReachMoreRow, handleD, sentD, Rows.laid_errors_errorType, Rows.laid_loop_example_g00656_impl_errNoTime, Rows.laid_loop_example_g00656_impl_errOutside, Rows.laid_loop_example_g00656_impl_errUnsure]) (by simp [Rows.fnReachMoreRow, handleD, sentD, Rows.laid_errors_errorType, Rows.laid_loop_example_g00656_impl_errNoTime, Rows.laid_loop_example_g00656_impl_errOutside, Rows.laid_loop_example_g00656_impl_errUnsure]) (by simp [Rows.fnReachMoreRow, handleD, sentD, Rows.laid_errors_errorType, Rows.laid_loop_example_g00656_impl_errNoTime, Rows.laid_loop_example_g00656_impl_errOutside, Rows.laid_loop_example_g00656_impl_errUnsure]) (by simp [Rows.fnReachMoreRow, handleD, sentD, Rows.laid_errors_errorType, Rows.laid_loop_example_g00656_impl_errNoTime, Rows.laid_loop_example_g00656_impl_errOutside, Rows.laid_loop_example_g00656_impl_errUnsure])
  clear hL
  rw [Tryd.params13] at hA hval
  obtain ⟨v0, vs0, d0, ds0, p0, q0, hargs, rfl, rfl, h0, r0⟩ := trodAll_cons hA
  obtain ⟨rfl, rfl, rfl⟩ := trodAll_nil r0
  obtain rfl : args = #[v0] := by cases args; simp_all
  obtain ⟨a0, len0, cap0, z0, rfl, w0⟩ := open_bytes Tryd.underlying35 Tryd.underlying5 (by as_aux_lemma => kernel_rfl) (hval 0 35 v0 rfl rfl) h0
  exact reachMore_walk W L a0 len0 cap0 z0 w0

theorem reachMore_facts : joinedFacts Tryd.pinned.checked.prog 13 Tryd.f13 Rows.fnReachMoreSpec Rows.fnReachMoreRow = true :=
  facts_of (P := Tryd.prog) (by as_aux_lemma => kernel_rfl) laidOut mapsRow (by as_aux_lemma => kernel_rfl) (by as_aux_lemma => kernel_rfl) rfl noStops rfl noKnobs (by as_aux_lemma => kernel_rfl) (by as_aux_lemma => kernel_rfl) (by as_aux_lemma => kernel_rfl) (by as_aux_lemma => kernel_rfl) (by as_aux_lemma => kernel_rfl) (by as_aux_lemma => kernel_rfl) (by as_aux_lemma => kernel_rfl) (by as_aux_lemma => kernel_rfl) (by as_aux_lemma => kernel_rfl) (by as_aux_lemma => kernel_rfl) (by as_aux_lemma => kernel_rfl) (by as_aux_lemma => kernel_rfl) (by as_aux_lemma => kernel_rfl) keysPlain rfl heard enters finals isMake rfl rfl rfl (by as_aux_lemma => kernel_rfl) (by as_aux_lemma => kernel_rfl)

theorem reachMore_row : Rows.FnReachMoreSaid :=
  OpenClaim.holds_of_wide 13 Tryd.f13 rfl rfl rfl rfl rfl rfl rfl ⟨rfl, rfl, rfl, rfl, rfl⟩ rfl rfl rfl rfl rfl (by as_aux_lemma => kernel_rfl) Tryd.func13 reachMore_facts
    (of_decide_eq_true (by as_aux_lemma => kernel_rfl)) (by unfold Func.isWrapper; first | (rw [if_pos (by decide +kernel)]; kernel_rfl) | (rw [if_neg (by decide +kernel)]; exact ⟨rfl, rfl⟩))
    (fun os started H enc _ => reachMore_lifted os started H enc)

/-- The given statement. -/
theorem reachMore_holds : Rows.FnReachMoreCardSaid :=
  Claim7.holds_tied_plain_at .later [] Rows.fnReachMoreCard.laidKinds true Rows.fnReachMoreCard.stood.harness true
    reachMore_row (fun _ h => by cases h) (by kernel_rfl) (fun _ h => by cases h) fnReachMore_row_tie rfl ⟨rfl, rfl⟩ (by kernel_rfl) rfl
    (fun f fn hf hfn => by
      obtain rfl : f = 13 := Option.some.inj ((show Tryd.prog.funcNamed "loop.example/g00656/laws.FnReachMore" = some 13 by kernel_rfl).symm.trans hf) |>.symm
      obtain rfl : fn = Tryd.f13 := (Option.some.inj (Tryd.func13.symm.trans hfn)).symm
      exact ⟨by kernel_rfl, fun j t ht => noStandIn (by rw [Tryd.params13]; kernel_rfl) j t ht⟩)
    (by kernel_rfl)
#print axioms reachMore_holds
end Go.Proofs.YtbabkpcefpacpaaDoor
