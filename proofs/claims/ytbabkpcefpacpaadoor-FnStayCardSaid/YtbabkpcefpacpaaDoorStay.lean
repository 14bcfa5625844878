/- However long the other side keeps it a sample tells the same delay: at all drawn times. -/
import Derived.Test.YtbabkpcefpacpaaDoorSampleMk
import Derived.Test.YtbabkpcefpacpaaDoorDraw3
import Derived.Test.YtbabkpcefpacpaaDoorTie
import Derived.Test.YtbabkpcefpacpaaDoorCards
namespace Go.Proofs.YtbabkpcefpacpaaDoor
open Go.ChangeShapes Go.WideShapes Go.ChangeAt Go.RowKit
set_option linter.unusedVariables false
set_option linter.unusedSimpArgs false

set_option maxHeartbeats 2000000 in
theorem stay_walk (w : World) {ao an au ab : Addr} {tx : List UInt8} (L : Ld w ao an au) (B : Sent w 3 tx ab) (x : Option Addr) (n cap z : Nat) (hz : z = n ∧ Code w.heap.size w (.slice x n cap) n) :
    Calls Tryd.prog 11 #[.slice x n cap] w fun e w' => e = .returned (.bool true) ∧ Below w.heap.size w w' := by
  obtain ⟨_, hc⟩ := hz
  by_cases hbig : n ≤ 1048576
  · go_enter Tryd.func11, Tryd.ntmps11
    go_wp2_with (go_at_call 24; go_in)
    refine (drawSampleOf_c x n cap _ hc hbig).mono ?_
    rintro e w1 ⟨a, b, c, d, rfl, hb1⟩
    have hI := @sampleOf_impl a b c d
    have hS := sampleOf_spec a b c d
    obtain ⟨v, hv⟩ : ∃ v, smOfV a b c d = v := ⟨_, rfl⟩
    obtain ⟨ok, hk⟩ : ∃ k, smOfOk a b c d = k := ⟨_, rfl⟩
    rw [hv, hk] at hS hI
    have HV := Lib.hid hv
    have HK := Lib.hid hk
    have HI := Lib.hid hI
    have HS := Lib.hid hS
    clear hv hk hI hS
    go_wp2_with fail
    refine (HI.out _ (L.next hb1) (B.next hb1)).mono ?_
    rintro e w2 ⟨rfl, hb2⟩
    have g2 := grow_next hb1 hb2
    have P2 := blk_new w2 (.cells #[.int .i64 v.off, .int .i64 v.delay, .int .i64 v.disp, .int .i64 v.at_] 25)
    have g2' : Below w.heap.size w (w2.alloc (.cells #[.int .i64 v.off, .int .i64 v.delay, .int .i64 v.disp, .int .i64 v.at_] 25)) := g2.alloc (by have := g2.size; omega) _
    go_wp2_with fail
    refine (HS.out _).mono ?_
    rintro e w3 ⟨rfl, hb3⟩
    have P3 := blk_next hb3 P2
    have g3 := grow_next g2' hb3
    have P3' := blk_alloc P3 (.cells #[.int .i64 v.off, .int .i64 v.delay, .int .i64 v.disp, .int .i64 v.at_] 25)
    have g3' : Below w.heap.size w (w3.alloc (.cells #[.int .i64 v.off, .int .i64 v.delay, .int .i64 v.disp, .int .i64 v.at_] 25)) := g3.alloc (by have := g3.size; omega) _
    have l3 := (Array.getElem?_eq_some_iff.1 P3).1
    obtain ⟨x0, x1, x2, x3⟩ := sample_cells P3
    cases ok with
    | false =>
      go_wp2_with fail
      go_returns
      exact ⟨rfl, g3'⟩
    | true =>
      obtain ⟨hw, ho⟩ := smOfOk_parts HK.out
      have hv : v = smOf a b c d := HV.out.symm.trans (smOfV_yes HK.out)
      obtain ⟨⟨a0, a1⟩, ⟨b0, b1⟩, ⟨c0, c1⟩, ⟨d0, d1⟩, ad, bc⟩ := waysOk_iff.1 hw
      rw [← hv] at ho
      obtain ⟨⟨u0, u1⟩, ⟨t0, t1⟩, ⟨s0, s1⟩, _⟩ := Sm.ok_iff.1 ho
      have n0 : 0 ≤ (n : Int) % 100 := Int.emod_nonneg _ (by omega)
      have n1 : (n : Int) % 100 < 100 := Int.emod_lt_of_pos _ (by omega)
      have hI2 := @sampleOf_impl a b (c + 1000 * ((n : Int) % 100)) (d + 1000 * ((n : Int) % 100))
      obtain ⟨v2, hv2⟩ : ∃ v2, smOfV a b (c + 1000 * ((n : Int) % 100)) (d + 1000 * ((n : Int) % 100)) = v2 := ⟨_, rfl⟩
      obtain ⟨ok2, hk2⟩ : ∃ k, smOfOk a b (c + 1000 * ((n : Int) % 100)) (d + 1000 * ((n : Int) % 100)) = k := ⟨_, rfl⟩
      rw [hv2, hk2] at hI2
      have HI2 := Lib.hid hI2
      have hE : ok2 = true → v2.off = v.off ∧ v2.delay = v.delay ∧ v.disp ≤ v2.disp := fun e => by
        rw [smOfV_yes (hk2.trans e)] at hv2
        rw [← hv2, hv]
        simp only [smOf]
        omega
      clear hI2 hv2 hk2 hw ho hv
      go_wp2_with fail
      refine (HI2.out _ (L.next g3') (B.next g3')).mono ?_
      rintro e w4 ⟨rfl, hb4⟩
      have g4 := grow_next g3' hb4
      obtain ⟨y0, y1, y2, y3⟩ := sample_cells (blk_next hb4 P3')
      have l4 := (Array.getElem?_eq_some_iff.1 (blk_next hb4 P3')).1
      have g4' : Below w.heap.size w (w4.alloc (.cells #[.int .i64 v2.off, .int .i64 v2.delay, .int .i64 v2.disp, .int .i64 v2.at_] 25)) := g4.alloc (by have := g4.size; omega) _
      cases ok2 with
      | false =>
        clear hE
        go_wp2_with fail
        go_returns
        exact ⟨rfl, g4'⟩
      | true =>
        obtain ⟨e1, e2, e3⟩ := hE rfl
        go_wp2_with fail
        go_returns
        exact ⟨rfl, g4.alloc (by have := g4.size; omega) _⟩
  · go_enter Tryd.func11, Tryd.ntmps11
    go_wp2_with (go_at_call 24; go_in)
    go_returns
    exact ⟨rfl, Below.refl _ _⟩
theorem stay_met (os : Os) (args : Array Value) : laidMetH Tryd.prog Rows.fnStayRow.laid ((World.doorLaid Tryd.prog 400 os).forCall (fun _ _ => 0) ⟨#[], args, []⟩).memory :=
  laidMetH_of_parts3 (fuel := 8) (laidMet_of_run' 8 (by kernel_rfl) (by kernel_rfl)) (by kernel_rfl) (by kernel_rfl)
set_option maxRecDepth 100000 in
theorem stay_lifted (os : Os) (started : os.Started) (H : Type) (enc : TypeId × Value → H) :
    ReturnsInHanded {} Tryd.checked os 11 .any (fun w args => (Rows.fnStaySpec.pre enc Tryd.prog Tryd.f11 [] false w args ∧ laidMetH Tryd.prog Rows.fnStayRow.laid w) ∧ sizedMet enc Tryd.prog Tryd.f11 (OpenSpec.ofChange Rows.fnStaySpec) false w args) (Rows.fnStaySpec.post enc Tryd.prog Tryd.f11 false true false false) := by
  refine lifted_of_walk_laid (C := Tryd.checked) own started (by as_aux_lemma => kernel_rfl) Tryd.func11
    (ChangeSpec.witness_shaped (enc := enc) (C := Tryd.checked) (os := os) (X := fun w _ => laidMetH Tryd.prog Rows.fnStayRow.laid w) false (World.doorLaid Tryd.prog 400 os) #[.slice none 0 0] 8 rfl (World.shaped_of_RefB (by kernel_rfl) (by kernel_rfl)) (by kernel_rfl) (by kernel_rfl) (by kernel_rfl) (stay_met os _))
    laidOut (by as_aux_lemma => kernel_rfl) (by as_aux_lemma => kernel_rfl) rfl boolType
    (fun ds gs h hg => by
      match ds, gs, h, hg with
      | [_], [_, _, _, _], _, _ => rfl)
    ?_
  intro W base args ds q hval hA hL
  have laidRow : Rows.fnStayRow.laid = Rows.fnStayRow.laid := rfl
  obtain ⟨ao, an, au, L⟩ := ld_of hL (by simp [Rows.fnStayRow, handleD, sentD, Rows.laid_errors_errorType, Rows.laid_loop_example_g00656_impl_errNoTime, Rows.laid_loop_example_g00656_impl_errOutside, Rows.laid_loop_example_g00656_impl_errUnsure, Rows.laid_loop_example_g00656_impl_errBack]) (by simp [Rows.fnStayRow, handleD, sentD, Rows.laid_errors_errorType, Rows.laid_loop_example_g00656_impl_errNoTime, Rows.laid_loop_example_g00656_impl_errOutside, Rows.laid_loop_example_g00656_impl_errUnsure, Rows.laid_loop_example_g00656_impl_errBack]) (by simp [Rows.fnStayRow, handleD, sentD, Rows.laid_errors_errorType, Rows.laid_loop_example_g00656_impl_errNoTime, Rows.laid_loop_example_g00656_impl_errOutside, Rows.laid_loop_example_g00656_impl_errUnsure, Rows.laid_loop_example_g00656_impl_errBack]) (by simp [Rows.fnStayRow, handleD, sentD, Rows.laid_errors_errorType, Rows.laid_loop_example_g00656_impl_errNoTime, Rows.laid_loop_example_g00656_impl_errOutside, Rows.laid_loop_example_g00656_impl_errUnsure, Rows.laid_loop_example_g00656_impl_errBack])
  obtain ⟨ab, B⟩ := sentH_of (n := "loop.example/g00656/impl.errBack") (text := [116, 105, 109, 101, 32, 103, 111, 101, 115, 32, 98, 97, 99, 107]) (g := 3) hL (by simp [Rows.fnStayRow, handleD, sentD, Rows.laid_errors_errorType, Rows.laid_loop_example_g00656_impl_errNoTime, Rows.laid_loop_example_g00656_impl_errOutside, Rows.laid_loop_example_g00656_impl_errUnsure, Rows.laid_loop_example_g00656_impl_errBack]) (by simp [Rows.fnStayRow, handleD, sentD, Rows.laid_errors_errorType, Rows.laid_loop_example_g00656_impl_errNoTime, Rows.laid_loop_example_g00656_impl_errOutside, Rows.laid_loop_example_g00656_impl_errUnsure, Rows.laid_loop_example_g00656_impl_errBack]) (by kernel_rfl) (by kernel_rfl)
  clear hL
  rw [Tryd.params11] at hA hval
  obtain ⟨v0, vs0, d0, ds0, p0, q0, hargs, rfl, rfl, h0, r0⟩ := trodAll_cons hA
  obtain ⟨rfl, rfl, rfl⟩ := trodAll_nil r0
  obtain rfl : args = #[v0] := by cases args; simp_all
  obtain ⟨a0, len0, cap0, z0, rfl, w0⟩ := open_bytes Tryd.underlying35 Tryd.underlying5 (by as_aux_lemma => kernel_rfl) (hval 0 35 v0 rfl rfl) h0
  exact stay_walk W L B a0 len0 cap0 z0 w0

theorem stay_facts : joinedFacts Tryd.pinned.checked.prog 11 Tryd.f11 Rows.fnStaySpec Rows.fnStayRow = true :=
  facts_of (P := Tryd.prog) (by as_aux_lemma => kernel_rfl) laidOut mapsRow (by as_aux_lemma => kernel_rfl) (by as_aux_lemma => kernel_rfl) rfl noStops rfl noKnobs (by as_aux_lemma => kernel_rfl) (by as_aux_lemma => kernel_rfl) (by as_aux_lemma => kernel_rfl) (by as_aux_lemma => kernel_rfl) (by as_aux_lemma => kernel_rfl) (by as_aux_lemma => kernel_rfl) (by as_aux_lemma => kernel_rfl) (by as_aux_lemma => kernel_rfl) (by as_aux_lemma => kernel_rfl) (by as_aux_lemma => kernel_rfl) (by as_aux_lemma => kernel_rfl) (by as_aux_lemma => kernel_rfl) (by as_aux_lemma => kernel_rfl) keysPlain rfl heard enters finals isMake rfl rfl rfl (by as_aux_lemma => kernel_rfl) (by as_aux_lemma => kernel_rfl)

theorem stay_row : Rows.FnStaySaid :=
  OpenClaim.holds_of_wide 11 Tryd.f11 rfl rfl rfl rfl rfl rfl rfl ⟨rfl, rfl, rfl, rfl, rfl⟩ rfl rfl rfl rfl rfl (by as_aux_lemma => kernel_rfl) Tryd.func11 stay_facts
    (of_decide_eq_true (by as_aux_lemma => kernel_rfl)) (by unfold Func.isWrapper; first | (rw [if_pos (by decide +kernel)]; kernel_rfl) | (rw [if_neg (by decide +kernel)]; exact ⟨rfl, rfl⟩))
    (fun os started H enc _ => stay_lifted os started H enc)

/-- The given statement. -/
theorem stay_holds : Rows.FnStayCardSaid :=
  Claim7.holds_tied_plain_at .later [] Rows.fnStayCard.laidKinds true Rows.fnStayCard.stood.harness true
    stay_row (fun _ h => by cases h) (by kernel_rfl) (fun _ h => by cases h) fnStay_row_tie rfl ⟨rfl, rfl⟩ (by kernel_rfl) rfl
    (fun f fn hf hfn => by
      obtain rfl : f = 11 := Option.some.inj ((show Tryd.prog.funcNamed "loop.example/g00656/laws.FnStay" = some 11 by kernel_rfl).symm.trans hf) |>.symm
      obtain rfl : fn = Tryd.f11 := (Option.some.inj (Tryd.func11.symm.trans hfn)).symm
      exact ⟨by kernel_rfl, fun j t ht => noStandIn (by rw [Tryd.params11]; kernel_rfl) j t ht⟩)
    (by kernel_rfl)
#print axioms stay_holds
end Go.Proofs.YtbabkpcefpacpaaDoor
