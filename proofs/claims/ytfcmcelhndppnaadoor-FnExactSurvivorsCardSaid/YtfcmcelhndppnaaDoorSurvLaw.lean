/- For every list of peers and every number the program's Survivors answers as the reference; its argument stays as it was; its answer owns its memory. -/
import Derived.Test.YtfcmcelhndppnaaDoorSurvS
import Derived.Test.YtfcmcelhndppnaaDoorSurvI
import Derived.Test.YtfcmcelhndppnaaDoorPrMark
import Derived.Test.YtfcmcelhndppnaaDoorTie
import Derived.Test.YtfcmcelhndppnaaDoorCards
namespace Go.Proofs.YtfcmcelhndppnaaDoor
open Go.ChangeShapes Go.WideShapes Go.ChangeAt Go.RowKit
set_option linter.unusedVariables false
set_option linter.unusedSimpArgs false

set_option maxHeartbeats 2000000 in
theorem sv_walk (W : World) {ao an au : Addr} (L : Ld W ao an au) (x : Option Addr) (n cap : Nat) (l : List Pr) (h : Hid (n = l.length) ∧ n ≤ cap ∧ cap ≤ maxLen ∧ Prs W.heap.size W x l) (least : Int) (hle : (Lit.int .i64 least).wf = true) :
    Calls Tryd.prog 4 #[.slice x n cap, .int .i64 least] W fun e w' => e = .returned (.bool true) ∧ Below W.heap.size W w' := by
  obtain ⟨hn, hnc, hcm, hr⟩ := h
  have hnm : n ≤ maxLen := Nat.le_trans hnc hcm
  clear hnc hcm
  have hsz := szPeerS_c n 1048576 (by omega) (by omega) hnm x cap
  by_cases hlt : n ≤ 1048576
  · have HZ := Lib.hid (fun w => show Calls Tryd.prog 8 #[.slice x n cap, .int .i64 1048576] w fun e w' => e = .returned (.int .i64 (1048576 - n)) ∧ w = w' by have := hsz w; rwa [if_pos (by omega)] at this)
    have h1 : (0 : Int) ≤ 1048576 - n := by omega
    have h2 : (1048576 : Int) - n ≤ 1048576 := by omega
    clear hsz
    obtain ⟨A, hA⟩ : ∃ A, survV l least = A := ⟨_, rfl⟩
    obtain ⟨m, hm⟩ : ∃ m, m = A.length := ⟨_, rfl⟩
    have hmn : m ≤ n := by have := survV_len l least; rw [hA] at this; have := hn.out; omega
    have HM := Lib.hid hm
    have hS := fun x cap w h => surv_spec l n hn hnm least x cap w h
    have hI := fun x cap w h {ao an au} L => @surv_impl l n hn hnm least x cap w h ao an au L
    rw [hA, ← hm] at hS hI
    have HS := Lib.hid hS
    have HI := Lib.hid hI
    clear hS hI hA hm
    have HT := Lib.hid (fun w h => toPeerS_c l n hn hlt x cap w h)
    have HE := Lib.hid (fun x y cap cap' w h h' => eqPeerS_c l n hn hnm x y cap cap' w h h')
    have HQ := Lib.hid (fun x y cap cap' w h h' => eqPeerS_c A m HM (by omega) x y cap cap' w h h')
    go_enter Tryd.func4, Tryd.ntmps4
    go_wp2_with fail
    refine (HZ.out _).mono ?_
    rintro e w1 ⟨rfl, rfl⟩
    go_wp2_with fail
    refine (HT.out _ hr).mono ?_
    rintro e w1 ⟨g1, rfl, t1, _, b1⟩
    go_wp2_with fail
    refine (HS.out _ _ _ t1.prs).mono ?_
    rintro e w2 ⟨v, rfl, ho, b2⟩
    obtain ⟨y, cy, rfl, r0⟩ := prRow_form ho HM.out
    clear ho
    have G2 := grow_next b1 b2
    go_wp2_with fail
    refine (HT.out _ (hr.next G2)).mono ?_
    rintro e w3 ⟨g3, rfl, t3, hg3, b3⟩
    have G3 := grow_next G2 b3
    have q0 := r0.next b3
    have hlt0 : ∀ g, y = some ⟨g, 0, none⟩ → g < g3 := fun g e => by have := (e ▸ r0).lt; omega
    go_wp2_with fail
    refine (HI.out _ _ _ t3.prs (L.next G3)).mono ?_
    rintro e w4 ⟨v, rfl, ho, b4⟩
    obtain ⟨z, cz, rfl, r1⟩ := prRow_form ho HM.out
    clear ho
    have G4 := grow_next G3 b4
    have q0 := q0.next b4
    have t4 := t3.next b4
    have hge1 : ∀ g, z = some ⟨g, 0, none⟩ → w3.heap.size ≤ g := fun g e => (e ▸ r1).lt.1
    have hs3 : g3 < w3.heap.size := TabAt.lt t3
    go_wp2_with fail
    refine (HQ.out z y cz cy _ r1.prs q0.prs).mono ?_
    rintro e w5 ⟨rfl, b5⟩
    have G5 := grow_next G4 b5
    have q0 := q0.next b5
    have r1 := r1.next b5
    have t5 := t4.next b5
    go_wp2_with fail
    refine (HT.out _ (hr.next G5)).mono ?_
    rintro e w6 ⟨g6, rfl, t6, _, b6⟩
    have G6 := grow_next G5 b6
    have q0 := q0.next b6
    have r1 := r1.next b6
    have t5' := t5.next b6
    go_wp2_with fail
    refine (HE.out _ _ _ _ _ t5'.prs t6.prs).mono ?_
    rintro e w7 ⟨rfl, b7⟩
    have G7 := grow_next G6 b7
    have q0 := q0.next b7
    have r1 := r1.next b7
    have t7 := (t5'.next b7).row hn.out hnm
    go_wp2_with fail
    refine (markPeerS_c l n hn hlt 1 (by omega) (by omega) _ (some ⟨g3, 0, none⟩) n _ t7).mono ?_
    rintro e w8 ⟨rfl, _, b8⟩
    have hgW : W.heap.size ≤ g3 := Nat.le_trans G2.size hg3
    have G8 := grown_belowM G7 G7.size b8 (fun k e => by simp only [Option.map_some, Option.some.injEq] at e; omega)
    have q0 := q0.keep b8 (fun g e => by have := hlt0 g e; simp; omega)
    have r1 := r1.keep b8 (fun g e => by have := hge1 g e; simp; omega)
    have hpos : decide ((1 : Int) + 6 * (n : Int) < 0) = false := decide_eq_false (by omega)
    clear t7
    go_wp2_with fail
    refine (HQ.out z y cz cy _ r1.prs q0.prs).mono ?_
    rintro e w9 ⟨rfl, b9⟩
    have G9 := grow_next G8 b9
    have q0 := q0.next b9
    have r1 := r1.next b9
    go_wp2_with fail
    refine (markPeerS_c A m HM (by omega) 1 (by omega) (by omega) _ z cz _ r1).mono ?_
    rintro e w10 ⟨rfl, r2, b10⟩
    have hzf : ∀ k, z.map (·.block) = some k → z = some ⟨k, 0, none⟩ := fun k e => r1.own e
    have G10 := grown_belowM G9 G9.size b10 (fun k e => by have := hge1 k (hzf k e); have := G3.size; omega)
    have q0 := q0.keep b10 (fun g e he => by have h1 := hlt0 g e; have := hge1 g (hzf g he); omega)
    have e1 : decide ((1 : Int) + 6 * (m : Int) < 0) = false := decide_eq_false (by omega)
    clear hge1 hlt0 r1 hzf
    go_wp2_with fail
    refine (heldPeerS_c m (by omega) 1 (by omega) (by omega) _ z cz _ r2).mono ?_
    rintro e w11 ⟨rfl, rfl⟩
    go_wp2_with fail
    refine (HT.out _ (hr.next G10)).mono ?_
    rintro e w12 ⟨g12, rfl, t12, _, b12⟩
    have G12 := grow_next G10 b12
    have q0 := q0.next b12
    have r2 := r2.next b12
    go_wp2_with fail
    refine (HI.out _ _ _ t12.prs (L.next G12)).mono ?_
    rintro e w13 ⟨v, rfl, ho, b13⟩
    obtain ⟨u, cu, rfl, r3⟩ := prRow_form ho HM.out
    clear ho
    have G13 := grow_next G12 b13
    have q0 := q0.next b13
    have r2 := r2.next b13
    go_wp2_with fail
    refine (HQ.out u y cu cy _ r3.prs q0.prs).mono ?_
    rintro e w14 ⟨rfl, b14⟩
    have G14 := grow_next G13 b14
    have r2 := r2.next b14
    go_wp2_with fail
    refine (heldPeerS_c m (by omega) 1 (by omega) (by omega) _ z cz _ r2).mono ?_
    rintro e w15 ⟨rfl, rfl⟩
    go_wp2_with fail
    go_returns
    exact ⟨rfl, G14⟩
  · have HZ := Lib.hid (fun w => show Calls Tryd.prog 8 #[.slice x n cap, .int .i64 1048576] w fun e w' => e = .returned (.int .i64 (-1)) ∧ w = w' by have := hsz w; rwa [if_neg (by omega)] at this)
    clear hsz
    go_enter Tryd.func4, Tryd.ntmps4
    go_wp2_with fail
    refine (HZ.out _).mono ?_
    rintro e w1 ⟨rfl, rfl⟩
    go_wp2_with fail
    go_returns
    exact ⟨rfl, Below.refl _ _⟩

theorem sv_met (os : Os) (args : Array Value) : laidMetH Tryd.prog Rows.fnExactSurvivorsRow.laid ((World.doorLaid Tryd.prog 400 os).forCall (fun _ _ => 0) ⟨#[], args, []⟩).memory :=
  laidMetH_of_parts3 (fuel := 8) (laidMet_of_run' 8 (by kernel_rfl) (by kernel_rfl)) (by kernel_rfl) (by kernel_rfl)
set_option maxRecDepth 100000 in
theorem sv_lifted (os : Os) (started : os.Started) (H : Type) (enc : TypeId × Value → H) :
    ReturnsInHanded {} Tryd.checked os 4 .any (fun w args => (Rows.fnExactSurvivorsSpec.pre enc Tryd.prog Tryd.f4 [] false w args ∧ laidMetH Tryd.prog Rows.fnExactSurvivorsRow.laid w) ∧ sizedMet enc Tryd.prog Tryd.f4 (OpenSpec.ofChange Rows.fnExactSurvivorsSpec) false w args) (Rows.fnExactSurvivorsSpec.post enc Tryd.prog Tryd.f4 false true false false) := by
  refine lifted_of_walk_laid (C := Tryd.checked) own started (by as_aux_lemma => kernel_rfl) Tryd.func4
    (ChangeSpec.witness_shaped (enc := enc) (C := Tryd.checked) (os := os) (X := fun w _ => laidMetH Tryd.prog Rows.fnExactSurvivorsRow.laid w) false (World.doorLaid Tryd.prog 400 os) #[.slice none 0 0, .int .i64 0] 8 rfl (World.shaped_of_RefB (by kernel_rfl) (by kernel_rfl)) (by kernel_rfl) (by kernel_rfl) (by kernel_rfl) (sv_met os _))
    laidOut (by as_aux_lemma => kernel_rfl) (by as_aux_lemma => kernel_rfl) rfl boolType
    (fun ds gs h hg => by
      match ds, gs, h, hg with
      | [_, _], [_, _, _], _, _ => rfl)
    ?_
  intro W base args ds q hval hA hL
  have laidRow : Rows.fnExactSurvivorsRow.laid = Rows.fnExactSurvivorsRow.laid := rfl
  obtain ⟨ao, an, au, L⟩ := ld_of hL (by simp [Rows.fnExactSurvivorsRow, handleD, sentD, Rows.laid_errors_errorType, Rows.laid_loop_example_g00656_impl_errNoTime, Rows.laid_loop_example_g00656_impl_errOutside, Rows.laid_loop_example_g00656_impl_errUnsure]) (by simp [Rows.fnExactSurvivorsRow, handleD, sentD, Rows.laid_errors_errorType, Rows.laid_loop_example_g00656_impl_errNoTime, Rows.laid_loop_example_g00656_impl_errOutside, Rows.laid_loop_example_g00656_impl_errUnsure]) (by simp [Rows.fnExactSurvivorsRow, handleD, sentD, Rows.laid_errors_errorType, Rows.laid_loop_example_g00656_impl_errNoTime, Rows.laid_loop_example_g00656_impl_errOutside, Rows.laid_loop_example_g00656_impl_errUnsure]) (by simp [Rows.fnExactSurvivorsRow, handleD, sentD, Rows.laid_errors_errorType, Rows.laid_loop_example_g00656_impl_errNoTime, Rows.laid_loop_example_g00656_impl_errOutside, Rows.laid_loop_example_g00656_impl_errUnsure])
  clear hL
  rw [Tryd.params4] at hA hval
  obtain ⟨v0, vs0, d0, ds0, p0, q0, hargs, rfl, rfl, h0, r0⟩ := trodAll_cons hA
  obtain ⟨v1, vs1, d1, ds1, p1, q1, rfl, rfl, rfl, h1, r1⟩ := trodAll_cons r0
  obtain ⟨rfl, rfl, rfl⟩ := trodAll_nil r1
  obtain rfl : args = #[v0, v1] := by cases args; simp_all
  obtain ⟨a0, len0, cap0, z0, rfl, w0⟩ := open_prs (hval 0 22 v0 rfl rfl) h0
  obtain ⟨a1, rfl, rfl, rfl, w1⟩ := open_int Tryd.underlying2 (hval 1 2 v1 rfl rfl) h1
  exact sv_walk W L a0 len0 cap0 z0 w0 a1 w1

set_option maxHeartbeats 4000000 in
theorem sv_facts : joinedFacts Tryd.pinned.checked.prog 4 Tryd.f4 Rows.fnExactSurvivorsSpec Rows.fnExactSurvivorsRow = true :=
  facts_of (P := Tryd.prog) (by as_aux_lemma => kernel_rfl) laidOut mapsRow (by as_aux_lemma => kernel_rfl) (by as_aux_lemma => kernel_rfl) rfl noStops rfl noKnobs (by as_aux_lemma => kernel_rfl) (by as_aux_lemma => kernel_rfl) (by as_aux_lemma => kernel_rfl) (by as_aux_lemma => kernel_rfl) (by as_aux_lemma => kernel_rfl) (by as_aux_lemma => kernel_rfl) (by as_aux_lemma => kernel_rfl) (by as_aux_lemma => kernel_rfl) (by as_aux_lemma => kernel_rfl) (by as_aux_lemma => kernel_rfl) (by as_aux_lemma => kernel_rfl) (by as_aux_lemma => kernel_rfl) (by as_aux_lemma => kernel_rfl) keysPlain rfl heard enters finals isMake rfl rfl rfl (by as_aux_lemma => kernel_rfl) (by as_aux_lemma => kernel_rfl)

theorem sv_row : Rows.FnExactSurvivorsSaid :=
  OpenClaim.holds_of_wide 4 Tryd.f4 rfl rfl rfl rfl rfl rfl rfl ⟨rfl, rfl, rfl, rfl, rfl⟩ rfl rfl rfl rfl rfl (by as_aux_lemma => kernel_rfl) Tryd.func4 sv_facts
    (of_decide_eq_true (by as_aux_lemma => kernel_rfl)) (by unfold Func.isWrapper; first | (rw [if_pos (by decide +kernel)]; kernel_rfl) | (rw [if_neg (by decide +kernel)]; exact ⟨rfl, rfl⟩))
    (fun os started H enc _ => sv_lifted os started H enc)

/-- The given statement. -/
theorem sv_holds : Rows.FnExactSurvivorsCardSaid :=
  Claim7.holds_tied_plain_at .later [] Rows.fnExactSurvivorsCard.laidKinds true Rows.fnExactSurvivorsCard.stood.harness true
    sv_row (fun _ h => by cases h) (by kernel_rfl) (fun _ h => by cases h) fnExactSurvivors_row_tie rfl ⟨rfl, rfl⟩ (by kernel_rfl) rfl
    (fun f fn hf hfn => by
      obtain rfl : f = 4 := Option.some.inj ((show Tryd.prog.funcNamed "loop.example/g00656/laws.FnExactSurvivors" = some 4 by kernel_rfl).symm.trans hf) |>.symm
      obtain rfl : fn = Tryd.f4 := (Option.some.inj (Tryd.func4.symm.trans hfn)).symm
      exact ⟨by kernel_rfl, fun j t ht => noStandIn (by rw [Tryd.params4]; kernel_rfl) j t ht⟩)
    (by kernel_rfl)
#print axioms sv_holds
end Go.Proofs.YtfcmcelhndppnaaDoor
