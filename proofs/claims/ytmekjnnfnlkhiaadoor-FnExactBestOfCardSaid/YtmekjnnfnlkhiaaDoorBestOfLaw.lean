/- For every list of samples the program's BestOf answers as the reference; its argument stays as it was. -/
import Derived.Test.YtmekjnnfnlkhiaaDoorSmsL
import Derived.Test.YtmekjnnfnlkhiaaDoorFilAddI
import Derived.Test.YtmekjnnfnlkhiaaDoorFilOthS
import Derived.Test.YtmekjnnfnlkhiaaDoorTie
import Derived.Test.YtmekjnnfnlkhiaaDoorCards
import Derived.Deep.RegionWith
namespace Go.Proofs.YtmekjnnfnlkhiaaDoor
open Go.ChangeShapes Go.WideShapes Go.ChangeAt Go.RowKit
set_option linter.unusedVariables false
set_option linter.unusedSimpArgs false

set_option maxRecDepth 100000 in
set_option maxHeartbeats 4000000 in
theorem fxbest_walk (W : World) {ao an au : Addr} (L : Ld W ao an au) (x : Option Addr) (n cap : Nat) (l : List Sm) (h : Hid (n = l.length) ∧ n ≤ cap ∧ cap ≤ maxLen ∧ Sms W.heap.size W x l) :
    Calls Tryd.prog 10 #[.slice x n cap] W fun e w' => e = .returned (.bool true) ∧ Below W.heap.size W w' := by
  obtain ⟨hn, hnc, hcm, hr⟩ := h
  have hnm : n ≤ maxLen := Nat.le_trans hnc hcm
  clear hnc hcm
  have hsz := szSampleS_c n 1048576 (by omega) (by omega) hnm x cap
  by_cases hlt : n ≤ 1048576
  · have HZ := Lib.hid (fun w => show Calls Tryd.prog 31 #[.slice x n cap, .int .i64 1048576] w fun e w' => e = .returned (.int .i64 (1048576 - n)) ∧ w = w' by have := hsz w; rwa [if_pos (by omega)] at this)
    have h1 : (0 : Int) ≤ 1048576 - n := by omega
    have h2 : (1048576 : Int) - n ≤ 1048576 := by omega
    clear hsz
    have HT := Lib.hid (fun w h => toSampleS_c l n hn hlt x cap w h)
    have HE := Lib.hid (fun x y cap cap' w h h' => eqSampleS_c l n hn hnm x y cap cap' w h h')
    obtain ⟨v, hv⟩ : ∃ v, bstV l = v := ⟨_, rfl⟩
    obtain ⟨k, hk⟩ : ∃ k, bstOk l = k := ⟨_, rfl⟩
    have hS := fun x cap w h => bestOf_spec l n hn hnm x cap w h
    have hI := fun x cap w h {ao an au} L => @bestOf_impl l n hn hnm x cap w h ao an au L
    rw [hv, hk] at hS hI
    have HS := Lib.hid hS
    have HI := Lib.hid hI
    have hbb : (k != k) = false := by cases k <;> rfl
    clear hS hI hv hk
    go_enter Tryd.func10, Tryd.ntmps10
    go_wp2_with fail
    refine (HZ.out _).mono ?_
    rintro e w1 ⟨rfl, rfl⟩
    go_wp2_with fail
    refine (HT.out _ hr).mono ?_
    rintro e w1 ⟨g1, rfl, t1, _, b1⟩
    go_wp2_with fail
    refine (HS.out _ _ _ t1.sms).mono ?_
    rintro e w2 ⟨rfl, b2⟩
    have G1 := grow_next b1 b2
    have hs2 := G1.size
    have G2 := G1.alloc G1.size (.cells #[.int .i64 v.off, .int .i64 v.delay, .int .i64 v.disp, .int .i64 v.at_] 26)
    have N2 := blk_new w2 (.cells #[.int .i64 v.off, .int .i64 v.delay, .int .i64 v.disp, .int .i64 v.at_] 26)
    go_wp2_with fail
    refine (HT.out _ (hr.next G2)).mono ?_
    rintro e w3 ⟨g3, rfl, t3, _, b3⟩
    have G3 := grow_next G2 b3
    have N3 := blk_next b3 N2
    go_wp2_with fail
    refine (HI.out _ _ _ t3.sms (L.next G3)).mono ?_
    rintro e w4 ⟨rfl, b4⟩
    have N4 := blk_alloc (blk_next b4 N3) (.cells #[.int .i64 v.off, .int .i64 v.delay, .int .i64 v.disp, .int .i64 v.at_] 26)
    have M4 := blk_new w4 (.cells #[.int .i64 v.off, .int .i64 v.delay, .int .i64 v.disp, .int .i64 v.at_] 26)
    have G40 := grow_next G3 b4
    have G4 := G40.alloc G40.size (.cells #[.int .i64 v.off, .int .i64 v.delay, .int .i64 v.disp, .int .i64 v.at_] 26)
    have t4 := (t3.next b4).next (below_new w4 (.cells #[.int .i64 v.off, .int .i64 v.delay, .int .i64 v.disp, .int .i64 v.at_] 26))
    have hlt2 : w2.heap.size < (w4.alloc (.cells #[.int .i64 v.off, .int .i64 v.delay, .int .i64 v.disp, .int .i64 v.at_] 26)).heap.size := (Array.getElem?_eq_some_iff.1 N4).1
    generalize hW4 : w4.alloc (.cells #[.int .i64 v.off, .int .i64 v.delay, .int .i64 v.disp, .int .i64 v.at_] 26) = W4 at *
    obtain ⟨x0, x1, x2, x3⟩ := sample_cells N4
    obtain ⟨y0, y1, y2, y3⟩ := sample_cells M4
    go_wp2_with fail
    refine (eqSample_same v _).mono ?_
    rintro e w5 ⟨rfl, b5⟩
    have G5 := grow_next G4 b5
    have t5 := t4.next b5
    go_wp2_with fail
    refine (HT.out _ (hr.next G5)).mono ?_
    rintro e w6 ⟨g6, rfl, t6, _, b6⟩
    have G6 := grow_next G5 b6
    have t5' := t5.next b6
    go_wp2_with fail
    refine (HE.out _ _ _ _ _ t5'.sms t6.sms).mono ?_
    rintro e w7 ⟨rfl, b7⟩
    have G7 := grow_next G6 b7
    go_wp2_with fail
    go_returns
    exact ⟨rfl, G7⟩
  · have HZ := Lib.hid (fun w => show Calls Tryd.prog 31 #[.slice x n cap, .int .i64 1048576] w fun e w' => e = .returned (.int .i64 (-1)) ∧ w = w' by have := hsz w; rwa [if_neg (by omega)] at this)
    clear hsz
    go_enter Tryd.func10, Tryd.ntmps10
    go_wp2_with fail
    refine (HZ.out _).mono ?_
    rintro e w1 ⟨rfl, rfl⟩
    go_wp2_with fail
    go_returns
    exact ⟨rfl, by go_grown⟩
theorem fxbest_met (os : Os) (args : Array Value) : laidMetH Tryd.prog Rows.fnExactBestOfRow.laid ((World.doorLaid Tryd.prog 400 os).forCall (fun _ _ => 0) ⟨#[], args, []⟩).memory :=
  laidMetH_of_parts3 (fuel := 8) (laidMet_of_run' 8 (by kernel_rfl) (by kernel_rfl)) (by kernel_rfl) (by kernel_rfl)
set_option maxRecDepth 100000 in
theorem fxbest_lifted (os : Os) (started : os.Started) (H : Type) (enc : TypeId × Value → H) :
    ReturnsInHanded {} Tryd.checked os 10 .any (fun w args => (Rows.fnExactBestOfSpec.pre enc Tryd.prog Tryd.f10 [] false w args ∧ laidMetH Tryd.prog Rows.fnExactBestOfRow.laid w) ∧ sizedMet enc Tryd.prog Tryd.f10 (OpenSpec.ofChange Rows.fnExactBestOfSpec) false w args) (Rows.fnExactBestOfSpec.post enc Tryd.prog Tryd.f10 false true false false) := by
  refine lifted_of_walk_laid (C := Tryd.checked) own started (by as_aux_lemma => kernel_rfl) Tryd.func10
    (ChangeSpec.witness_shaped (enc := enc) (C := Tryd.checked) (os := os) (X := fun w _ => laidMetH Tryd.prog Rows.fnExactBestOfRow.laid w) false (World.doorLaid Tryd.prog 400 os) #[.slice none 0 0] 8 rfl (World.shaped_of_RefB (by kernel_rfl) (by kernel_rfl)) (by kernel_rfl) (by kernel_rfl) (by kernel_rfl) (fxbest_met os _))
    laidOut (by as_aux_lemma => kernel_rfl) (by as_aux_lemma => kernel_rfl) rfl boolType
    (fun ds gs h hg => by
      match ds, gs, h, hg with
      | [_], [_, _, _], _, _ => rfl)
    ?_
  intro W base args ds q hval hA hL
  have laidRow : Rows.fnExactBestOfRow.laid = Rows.fnExactBestOfRow.laid := rfl
  obtain ⟨ao, an, au, L⟩ := ld_of hL (by simp [Rows.fnExactBestOfRow, handleD, sentD, Rows.laid_errors_errorType, Rows.laid_loop_example_g00656_impl_errNoTime, Rows.laid_loop_example_g00656_impl_errOutside, Rows.laid_loop_example_g00656_impl_errUnsure]) (by simp [Rows.fnExactBestOfRow, handleD, sentD, Rows.laid_errors_errorType, Rows.laid_loop_example_g00656_impl_errNoTime, Rows.laid_loop_example_g00656_impl_errOutside, Rows.laid_loop_example_g00656_impl_errUnsure]) (by simp [Rows.fnExactBestOfRow, handleD, sentD, Rows.laid_errors_errorType, Rows.laid_loop_example_g00656_impl_errNoTime, Rows.laid_loop_example_g00656_impl_errOutside, Rows.laid_loop_example_g00656_impl_errUnsure]) (by simp [Rows.fnExactBestOfRow, handleD, sentD, Rows.laid_errors_errorType, Rows.laid_loop_example_g00656_impl_errNoTime, Rows.laid_loop_example_g00656_impl_errOutside, Rows.laid_loop_example_g00656_impl_errUnsure])
  clear hL
  rw [Tryd.params10] at hA hval
  obtain ⟨v0, vs0, d0, ds0, p0, q0, hargs, rfl, rfl, h0, r0⟩ := trodAll_cons hA
  obtain ⟨rfl, rfl, rfl⟩ := trodAll_nil r0
  obtain rfl : args = #[v0] := by cases args; simp_all
  obtain ⟨a0, len0, cap0, z0, rfl, w0⟩ := open_sms (hval 0 39 v0 rfl rfl) h0
  exact fxbest_walk W L a0 len0 cap0 z0 w0

theorem fxbest_facts : joinedFacts Tryd.pinned.checked.prog 10 Tryd.f10 Rows.fnExactBestOfSpec Rows.fnExactBestOfRow = true :=
  facts_of (P := Tryd.prog) (by as_aux_lemma => kernel_rfl) laidOut mapsRow (by as_aux_lemma => kernel_rfl) (by as_aux_lemma => kernel_rfl) rfl noStops rfl noKnobs (by as_aux_lemma => kernel_rfl) (by as_aux_lemma => kernel_rfl) (by as_aux_lemma => kernel_rfl) (by as_aux_lemma => kernel_rfl) (by as_aux_lemma => kernel_rfl) (by as_aux_lemma => kernel_rfl) (by as_aux_lemma => kernel_rfl) (by as_aux_lemma => kernel_rfl) (by as_aux_lemma => kernel_rfl) (by as_aux_lemma => kernel_rfl) (by as_aux_lemma => kernel_rfl) (by as_aux_lemma => kernel_rfl) (by as_aux_lemma => kernel_rfl) keysPlain rfl heard enters finals isMake rfl rfl rfl (by as_aux_lemma => kernel_rfl) (by as_aux_lemma => kernel_rfl)

theorem fxbest_row : Rows.FnExactBestOfSaid :=
  OpenClaim.holds_of_wide 10 Tryd.f10 rfl rfl rfl rfl rfl rfl rfl ⟨rfl, rfl, rfl, rfl, rfl⟩ rfl rfl rfl rfl rfl (by as_aux_lemma => kernel_rfl) Tryd.func10 fxbest_facts
    (of_decide_eq_true (by as_aux_lemma => kernel_rfl)) (by unfold Func.isWrapper; first | (rw [if_pos (by decide +kernel)]; kernel_rfl) | (rw [if_neg (by decide +kernel)]; exact ⟨rfl, rfl⟩))
    (fun os started H enc _ => fxbest_lifted os started H enc)

/-- The given statement. -/
theorem fxbest_holds : Rows.FnExactBestOfCardSaid :=
  Claim7.holds_tied_plain_at .later [] Rows.fnExactBestOfCard.laidKinds true Rows.fnExactBestOfCard.stood.harness true
    fxbest_row (fun _ h => by cases h) (by kernel_rfl) (fun _ h => by cases h) fnExactBestOf_row_tie rfl ⟨rfl, rfl⟩ (by kernel_rfl) rfl
    (fun f fn hf hfn => by
      obtain rfl : f = 10 := Option.some.inj ((show Tryd.prog.funcNamed "loop.example/g00656/laws.FnExactBestOf" = some 10 by kernel_rfl).symm.trans hf) |>.symm
      obtain rfl : fn = Tryd.f10 := (Option.some.inj (Tryd.func10.symm.trans hfn)).symm
      exact ⟨by kernel_rfl, fun j t ht => noStandIn (by rw [Tryd.params10]; kernel_rfl) j t ht⟩)
    (by kernel_rfl)
#print axioms fxbest_holds
end Go.Proofs.YtmekjnnfnlkhiaaDoor
