/- For every list of samples and every sample the program's FilterAdd answers as the reference; its arguments stay as they were; its answer owns its memory. -/
import Derived.Test.YtmekjnnfnlkhiaaDoorSmMark
import Derived.Test.YtmekjnnfnlkhiaaDoorFilAddI
import Derived.Test.YtmekjnnfnlkhiaaDoorFilAddS
import Derived.Test.YtmekjnnfnlkhiaaDoorTie
import Derived.Test.YtmekjnnfnlkhiaaDoorCards
import Derived.Deep.RegionWith
namespace Go.Proofs.YtmekjnnfnlkhiaaDoor
open Go.ChangeShapes Go.WideShapes Go.ChangeAt Go.RowKit
set_option linter.unusedVariables false
set_option linter.unusedSimpArgs false

theorem grown_belowF {B : Nat} {W w1 w2 : World} {row : Option Nat} (h : Below B W w1) (hB : B ≤ w1.heap.size) (hg : w1.grownBy w2 row) (hr : ∀ k, row = some k → B ≤ k) : Below B W w2 := h.grown hg hB (fun j e => hr j e)
set_option maxRecDepth 100000 in
set_option maxHeartbeats 8000000 in
theorem fxadd_walk (W : World) {ao an au : Addr} (L : Ld W ao an au) (x : Option Addr) (n cap : Nat) (l : List Sm) (h : Hid (n = l.length) ∧ n ≤ cap ∧ cap ≤ maxLen ∧ Sms W.heap.size W x l) (s : Sm) :
    Calls Tryd.prog 9 #[.slice x n cap, .agg #[.int .i64 s.off, .int .i64 s.delay, .int .i64 s.disp, .int .i64 s.at_]] W fun e w' => e = .returned (.bool true) ∧ Below W.heap.size W w' := by
  obtain ⟨hn, hnc, hcm, hr⟩ := h
  have hnm : n ≤ maxLen := Nat.le_trans hnc hcm
  clear hnc hcm
  have hsz := szSampleS_c n 1048576 (by omega) (by omega) hnm x cap
  by_cases hlt : n ≤ 1048576
  · have HZ := Lib.hid (fun w => show Calls Tryd.prog 31 #[.slice x n cap, .int .i64 1048576] w fun e w' => e = .returned (.int .i64 (1048576 - n)) ∧ w = w' by have := hsz w; rwa [if_pos (by omega)] at this)
    have h1 : (0 : Int) ≤ 1048576 - n := by omega
    have h2 : (1048576 : Int) - n ≤ 1048576 := by omega
    clear hsz
    have HT := Lib.hid (fun w h => toSampleS_c l n hn hlt x cap w h)
    have HE := Lib.hid (fun x y cap cap' w h h' => eqSampleS_c l n hn hnm x y cap cap' w h h')
    obtain ⟨A, hA⟩ : ∃ A, addR l s = A := ⟨_, rfl⟩
    obtain ⟨m, hm⟩ : ∃ m, m = A.length := ⟨_, rfl⟩
    obtain ⟨k, hk⟩ : ∃ k, addOk l s = k := ⟨_, rfl⟩
    have hm8 : m ≤ 8 := by
      rw [hm, ← hA]
      unfold addR
      cases ho : addOk l s with
      | false => simp
      | true =>
        have hoo : okSms l = true := by
          unfold addOk at ho
          rw [Bool.and_eq_true] at ho
          exact ho.1
        exact (addV_len (okSms_all hoo).2).1
    have HM := Lib.hid hm
    have hS := fun b off cap w h => filterAdd_spec l s n hn hnm b off cap w h
    have hI := fun x cap w h {ao an au} L => @filterAdd_impl l s n hn hnm x cap w h ao an au L
    unfold AddPostS at hS
    rw [hA, ← hm, hk] at hS hI
    have HS := Lib.hid hS
    have HI := Lib.hid hI
    have HQ := Lib.hid (fun x y cap cap' w h h' => eqSampleS_c A m HM (by unfold maxLen; omega) x y cap cap' w h h')
    have hbb : (k != k) = false := by cases k <;> rfl
    have B0 : Below W.heap.size W (W.alloc (.cells #[.int .i64 s.off, .int .i64 s.delay, .int .i64 s.disp, .int .i64 s.at_] 43)) := below_new _ _
    have Q0 := blk_new W (.cells #[.int .i64 s.off, .int .i64 s.delay, .int .i64 s.disp, .int .i64 s.at_] 43)
    clear hS hI hA hm hk
    go_enter Tryd.func9, Tryd.ntmps9
    go_wp2_with fail
    refine (HZ.out _).mono ?_
    rintro e w1 ⟨rfl, rfl⟩
    generalize hW0 : W.alloc (.cells #[.int .i64 s.off, .int .i64 s.delay, .int .i64 s.disp, .int .i64 s.at_] 43) = W0 at *
    obtain ⟨q0, q1, q2, q3⟩ := sample_cells Q0
    have bd : Below W0.heap.size W0 W0.drew := below_drewS (Below.refl _ _)
    have gd := grow_next B0 bd
    have hrd := hr.next gd
    go_wp2_with fail
    go_region_with (first
      | (go_at_call 32; (with_reducible refine (HT.out _ hrd).mono ?_); rintro e w1 ⟨g1, rfl, t1, _, b1⟩; have G1 := grow_next gd b1; obtain ⟨x0, x1, x2, x3⟩ := sample_cells (blk_next b1 (blk_next bd Q0)))
      | (go_at_call 34; (with_reducible refine (toSample_c s _).mono ?_); rintro e w2 ⟨rfl, b2⟩; have t2 := t1.next b2; have G2 := grow_next G1 b2)
      | (go_at_call 16; (with_reducible refine (HS.out _ _ _ _ t2.sms).mono ?_); rintro e w3 ⟨y, cy, rfl, hmc, hcy, hY, b3⟩; have G3 := grow_next G2 b3; have Q3 := blk_next b3 (blk_next b2 (blk_next b1 (blk_next bd Q0)))))
    all_goals
      have hYH := Lib.hid hY
      clear hY x0 x1 x2 x3 q0 q1 q2 q3
      go_wp2_with fail
      refine (HT.out _ (hr.next G3)).mono ?_
      rintro e w4 ⟨g4, rfl, t4, hg4, b4⟩
      have H4 := b4
      have Q4 := blk_next b4 Q3
      obtain ⟨x0, x1, x2, x3⟩ := sample_cells Q4
      go_wp2_with fail
      refine (toSample_c s _).mono ?_
      rintro e w5 ⟨rfl, b5⟩
      have H5 := grow_next H4 b5
      have Q5 := blk_next b5 Q4
      have t5 := t4.next b5
      have hg4' : g4 < w5.heap.size := TabAt.lt t5
      go_wp2_with fail
      refine (HI.out _ _ _ t5.sms (L.next (grow_next G3 H5))).mono ?_
      rintro e w6 ⟨v, rfl, ho, b6⟩
      obtain ⟨z, cz, rfl, r1⟩ := smRow_form ho HM.out
      clear ho
      have H6 := grow_next H5 b6
      have Q6 := blk_next b6 Q5
      have t6 := t5.next b6
      have hge1 : ∀ g, z = some ⟨g, 0, none⟩ → w5.heap.size ≤ g := fun g e => (e ▸ r1).lt.1
      go_wp2_with fail
      refine (HQ.out z y cz cy _ r1.sms (hYH.out.next H6)).mono ?_
      rintro e w7 ⟨rfl, b7⟩
      have H7 := grow_next H6 b7
      have Q7 := blk_next b7 Q6
      have r1 := r1.next b7
      have t7 := t6.next b7
      go_wp2_with fail
      refine (HT.out _ (hr.next (grow_next G3 H7))).mono ?_
      rintro e w8 ⟨g8, rfl, t8, _, b8⟩
      have H8 := grow_next H7 b8
      have Q8 := blk_next b8 Q7
      have r1 := r1.next b8
      have t7' := t7.next b8
      go_wp2_with fail
      refine (HE.out _ _ _ _ _ t7'.sms t8.sms).mono ?_
      rintro e w9 ⟨rfl, b9⟩
      have H9 := grow_next H8 b9
      have Q9 := blk_next b9 Q8
      have r1 := r1.next b9
      have t9 := (t7'.next b9).row hn.out hnm
      clear t4 t5 t6 t7 t7' t8 x0 x1 x2 x3
      go_wp2_with fail
      refine (markSampleS_c l n hn hlt 1 (by omega) (by omega) _ (some ⟨g4, 0, none⟩) n _ t9).mono ?_
      rintro e w10 ⟨rfl, _, b10⟩
      have H10 := grown_belowF H9 H9.size b10 (fun k e => by simp only [Option.map_some, Option.some.injEq] at e; omega)
      have hs35 := H5.size
      have hs0 : W.heap.size < w3.heap.size := (Array.getElem?_eq_some_iff.1 Q3).1
      have Q10 := (b10.block W.heap.size (Array.getElem?_eq_some_iff.1 Q9).1 (by simp; omega)).trans Q9
      have r1 := r1.keep b10 (fun g e => by have := hge1 g e; simp; omega)
      have hpos : decide ((1 : Int) + 4 * (n : Int) < 0) = false := decide_eq_false (by omega)
      clear t9
      go_wp2_with fail
      refine (HQ.out z y cz cy _ r1.sms (hYH.out.next H10)).mono ?_
      rintro e w11 ⟨rfl, b11⟩
      have H11 := grow_next H10 b11
      have Q11 := blk_next b11 Q10
      have r1 := r1.next b11
      go_wp2_with fail
      refine (markSampleS_c A m HM (by omega) 1 (by omega) (by omega) _ z cz _ r1).mono ?_
      rintro e w12 ⟨rfl, r2, b12⟩
      have hzf : ∀ k, z.map (·.block) = some k → z = some ⟨k, 0, none⟩ := fun k e => r1.own e
      have H12 := grown_belowF H11 H11.size b12 (fun k e => by have := hge1 k (hzf k e); omega)
      have Q12 := (b12.block W.heap.size (Array.getElem?_eq_some_iff.1 Q11).1 (fun e => by have := hge1 _ (hzf _ e.symm); omega)).trans Q11
      have e1 : decide ((1 : Int) + 4 * (m : Int) < 0) = false := decide_eq_false (by omega)
      clear hge1 r1 hzf
      go_wp2_with fail
      refine (heldSampleS_c m (by omega) 1 (by omega) (by omega) _ z cz _ r2).mono ?_
      rintro e w13 ⟨rfl, rfl⟩
      obtain ⟨x0, x1, x2, x3⟩ := sample_cells Q12
      have bd2 : Below w12.heap.size w12 w12.drew := below_drewS (Below.refl _ _)
      have G12 := grow_next G3 H12
      have gd2 := grow_next G12 bd2
      have hrd2 := hr.next gd2
      have r2d := r2.next bd2
      have hY2 := Lib.hid ((hYH.out.next H12).next bd2)
      clear H4 H5 H6 H7 H8 H9 H10 H11 Q3 Q4 Q5 Q6 Q7 Q8 Q9 Q10 Q11
      go_wp2_with fail
      go_region_with (first
        | (go_at_call 32; (with_reducible refine (HT.out _ hrd2).mono ?_); rintro e w14 ⟨g14, rfl, t14, _, b14⟩; have G14 := grow_next gd2 b14; obtain ⟨x0, x1, x2, x3⟩ := sample_cells (blk_next b14 (blk_next bd2 Q12)))
        | (go_at_call 34; (with_reducible refine (toSample_c s _).mono ?_); rintro e w15 ⟨rfl, b15⟩; have t15 := t14.next b15; have G15 := grow_next G14 b15)
        | (go_at_call 15; (with_reducible refine (HI.out _ _ _ t15.sms (L.next G15)).mono ?_); rintro e w16 ⟨v16, rfl, ho16, b16⟩; have G16 := grow_next G15 b16))
      all_goals
        obtain ⟨u, cu, rfl, r3⟩ := smRow_form ho16 HM.out
        have hY3 := ((hY2.out.next b14).next b15).next b16
        have r4 := ((r2d.next b14).next b15).next b16
        clear ho16
        go_wp2_with fail
        refine (HQ.out u y cu cy _ r3.sms hY3).mono ?_
        rintro e w17 ⟨rfl, b17⟩
        have G17 := grow_next G16 b17
        have r4 := r4.next b17
        go_wp2_with fail
        refine (heldSampleS_c m (by omega) 1 (by omega) (by omega) _ z cz _ r4).mono ?_
        rintro e w18 ⟨rfl, rfl⟩
        go_wp2_with fail
        go_returns
        exact ⟨rfl, G17⟩
  · have HZ := Lib.hid (fun w => show Calls Tryd.prog 31 #[.slice x n cap, .int .i64 1048576] w fun e w' => e = .returned (.int .i64 (-1)) ∧ w = w' by have := hsz w; rwa [if_neg (by omega)] at this)
    clear hsz
    go_enter Tryd.func9, Tryd.ntmps9
    go_wp2_with fail
    refine (HZ.out _).mono ?_
    rintro e w1 ⟨rfl, rfl⟩
    go_wp2_with fail
    go_returns
    exact ⟨rfl, by go_grown⟩
theorem fxadd_met (os : Os) (args : Array Value) : laidMetH Tryd.prog Rows.fnExactFilterAddRow.laid ((World.doorLaid Tryd.prog 400 os).forCall (fun _ _ => 0) ⟨#[], args, []⟩).memory :=
  laidMetH_of_parts3 (fuel := 8) (laidMet_of_run' 8 (by kernel_rfl) (by kernel_rfl)) (by kernel_rfl) (by kernel_rfl)
set_option maxRecDepth 100000 in
theorem fxadd_lifted (os : Os) (started : os.Started) (H : Type) (enc : TypeId × Value → H) :
    ReturnsInHanded {} Tryd.checked os 9 .any (fun w args => (Rows.fnExactFilterAddSpec.pre enc Tryd.prog Tryd.f9 [] false w args ∧ laidMetH Tryd.prog Rows.fnExactFilterAddRow.laid w) ∧ sizedMet enc Tryd.prog Tryd.f9 (OpenSpec.ofChange Rows.fnExactFilterAddSpec) false w args) (Rows.fnExactFilterAddSpec.post enc Tryd.prog Tryd.f9 false true false false) := by
  refine lifted_of_walk_laid (C := Tryd.checked) own started (by as_aux_lemma => kernel_rfl) Tryd.func9
    (ChangeSpec.witness_shaped (enc := enc) (C := Tryd.checked) (os := os) (X := fun w _ => laidMetH Tryd.prog Rows.fnExactFilterAddRow.laid w) false (World.doorLaid Tryd.prog 400 os) #[.slice none 0 0, .agg #[.int .i64 0, .int .i64 0, .int .i64 0, .int .i64 0]] 8 rfl (World.shaped_of_RefB (by kernel_rfl) (by kernel_rfl)) (by kernel_rfl) (by kernel_rfl) (by kernel_rfl) (fxadd_met os _))
    laidOut (by as_aux_lemma => kernel_rfl) (by as_aux_lemma => kernel_rfl) rfl boolType
    (fun ds gs h hg => by
      match ds, gs, h, hg with
      | [_, _], [_, _, _], _, _ => rfl)
    ?_
  intro W base args ds q hval hA hL
  have laidRow : Rows.fnExactFilterAddRow.laid = Rows.fnExactFilterAddRow.laid := rfl
  obtain ⟨ao, an, au, L⟩ := ld_of hL (by simp [Rows.fnExactFilterAddRow, handleD, sentD, Rows.laid_errors_errorType, Rows.laid_loop_example_g00656_impl_errNoTime, Rows.laid_loop_example_g00656_impl_errOutside, Rows.laid_loop_example_g00656_impl_errUnsure]) (by simp [Rows.fnExactFilterAddRow, handleD, sentD, Rows.laid_errors_errorType, Rows.laid_loop_example_g00656_impl_errNoTime, Rows.laid_loop_example_g00656_impl_errOutside, Rows.laid_loop_example_g00656_impl_errUnsure]) (by simp [Rows.fnExactFilterAddRow, handleD, sentD, Rows.laid_errors_errorType, Rows.laid_loop_example_g00656_impl_errNoTime, Rows.laid_loop_example_g00656_impl_errOutside, Rows.laid_loop_example_g00656_impl_errUnsure]) (by simp [Rows.fnExactFilterAddRow, handleD, sentD, Rows.laid_errors_errorType, Rows.laid_loop_example_g00656_impl_errNoTime, Rows.laid_loop_example_g00656_impl_errOutside, Rows.laid_loop_example_g00656_impl_errUnsure])
  clear hL
  rw [Tryd.params9] at hA hval
  obtain ⟨v0, vs0, d0, ds0, p0, q0, hargs, rfl, rfl, h0, r0⟩ := trodAll_cons hA
  obtain ⟨v1, vs1, d1, ds1, p1, q1, rfl, rfl, rfl, h1, r1⟩ := trodAll_cons r0
  obtain ⟨rfl, rfl, rfl⟩ := trodAll_nil r1
  obtain rfl : args = #[v0, v1] := by cases args; simp_all
  obtain ⟨a0, len0, cap0, z0, rfl, w0⟩ := open_sms (hval 0 39 v0 rfl rfl) h0
  obtain ⟨a1, rfl⟩ := open_sample (hval 1 43 v1 rfl rfl) h1
  exact fxadd_walk W L a0 len0 cap0 z0 w0 a1

theorem fxadd_facts : joinedFacts Tryd.pinned.checked.prog 9 Tryd.f9 Rows.fnExactFilterAddSpec Rows.fnExactFilterAddRow = true :=
  facts_of (P := Tryd.prog) (by as_aux_lemma => kernel_rfl) laidOut mapsRow (by as_aux_lemma => kernel_rfl) (by as_aux_lemma => kernel_rfl) rfl noStops rfl noKnobs (by as_aux_lemma => kernel_rfl) (by as_aux_lemma => kernel_rfl) (by as_aux_lemma => kernel_rfl) (by as_aux_lemma => kernel_rfl) (by as_aux_lemma => kernel_rfl) (by as_aux_lemma => kernel_rfl) (by as_aux_lemma => kernel_rfl) (by as_aux_lemma => kernel_rfl) (by as_aux_lemma => kernel_rfl) (by as_aux_lemma => kernel_rfl) (by as_aux_lemma => kernel_rfl) (by as_aux_lemma => kernel_rfl) (by as_aux_lemma => kernel_rfl) keysPlain rfl heard enters finals isMake rfl rfl rfl (by as_aux_lemma => kernel_rfl) (by as_aux_lemma => kernel_rfl)

theorem fxadd_row : Rows.FnExactFilterAddSaid :=
  OpenClaim.holds_of_wide 9 Tryd.f9 rfl rfl rfl rfl rfl rfl rfl ⟨rfl, rfl, rfl, rfl, rfl⟩ rfl rfl rfl rfl rfl (by as_aux_lemma => kernel_rfl) Tryd.func9 fxadd_facts
    (of_decide_eq_true (by as_aux_lemma => kernel_rfl)) (by unfold Func.isWrapper; first | (rw [if_pos (by decide +kernel)]; kernel_rfl) | (rw [if_neg (by decide +kernel)]; exact ⟨rfl, rfl⟩))
    (fun os started H enc _ => fxadd_lifted os started H enc)

/-- The given statement. -/
theorem fxadd_holds : Rows.FnExactFilterAddCardSaid :=
  Claim7.holds_tied_plain_at .later [] Rows.fnExactFilterAddCard.laidKinds true Rows.fnExactFilterAddCard.stood.harness true
    fxadd_row (fun _ h => by cases h) (by kernel_rfl) (fun _ h => by cases h) fnExactFilterAdd_row_tie rfl ⟨rfl, rfl⟩ (by kernel_rfl) rfl
    (fun f fn hf hfn => by
      obtain rfl : f = 9 := Option.some.inj ((show Tryd.prog.funcNamed "loop.example/g00656/laws.FnExactFilterAdd" = some 9 by kernel_rfl).symm.trans hf) |>.symm
      obtain rfl : fn = Tryd.f9 := (Option.some.inj (Tryd.func9.symm.trans hfn)).symm
      exact ⟨by kernel_rfl, fun j t ht => noStandIn (by rw [Tryd.params9]; kernel_rfl) j t ht⟩)
    (by kernel_rfl)
#print axioms fxadd_holds
end Go.Proofs.YtmekjnnfnlkhiaaDoor
