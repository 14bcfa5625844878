/- What a sample tells lies in the middle of its interval, which is twice as long as it reaches: at all drawn samples. -/
import Derived.Test.YtecedbhjfpgkmaaDoorIvDraw
import Derived.Test.YtecedbhjfpgkmaaDoorTie
import Derived.Deep.RegionHeld3
import Derived.Test.YtecedbhjfpgkmaaDoorCards
namespace Go.Proofs.YtecedbhjfpgkmaaDoor
open Go.ChangeShapes Go.WideShapes Go.ChangeAt Go.RowKit
set_option linter.unusedVariables false
set_option linter.unusedSimpArgs false

theorem ivOkS_dec {s : Iv} {b : Bool} (h : s.ok = b) (w : World) : Calls Tryd.prog 13 #[.agg #[.int .i64 s.lo, .int .i64 s.hi]] w fun e w' => e = .returned (.bool b) ∧ Below w.heap.size w w' := h ▸ intervalOk_spec s w
theorem ivOkI_dec {s : Iv} {b : Bool} (h : s.ok = b) (w : World) : Calls Tryd.prog 12 #[.agg #[.int .i64 s.lo, .int .i64 s.hi]] w fun e w' => e = .returned (.bool b) ∧ Below w.heap.size w w' := h ▸ intervalOk_impl s w

set_option maxHeartbeats 4000000 in
theorem ivs_walk (w : World) {ao an au : Addr} (L : Ld w ao an au) (x : Option Addr) (n cap z : Nat) (hz : z = n ∧ Code w.heap.size w (.slice x n cap) n) :
    Calls Tryd.prog 4 #[.slice x n cap] w fun e w' => e = .returned (.bool true) ∧ Below w.heap.size w w' := by
  obtain ⟨_, hc⟩ := hz
  by_cases hbig : n ≤ 1048576
  · go_enter Tryd.func4, Tryd.ntmps4
    go_wp2_with (go_at_call 9; go_in)
    refine (drawIntervalOf_c x n cap _ hc hbig).mono ?_
    rintro e w1 ⟨s, rfl, hb1⟩
    have hI := fun W {ao an au} L => @intervalOf_impl s W ao an au L
    have hS := fun W => intervalOf_spec s W
    obtain ⟨v, hv⟩ : ∃ v, ivV s = v := ⟨_, rfl⟩
    obtain ⟨ok, hk⟩ : ∃ k, s.ok = k := ⟨_, rfl⟩
    rw [hv, hk] at hS hI
    have HV := Lib.hid hv
    have HK := Lib.hid hk
    have HI := Lib.hid (fun W {ao an au} L => @hI W ao an au L)
    have HS := Lib.hid hS
    clear hv hk hI hS
    have P1 := blk_new w1 (.cells #[.int .i64 s.off, .int .i64 s.delay, .int .i64 s.disp, .int .i64 s.at_] 28)
    have g1 : Below w.heap.size w (w1.alloc (.cells #[.int .i64 s.off, .int .i64 s.delay, .int .i64 s.disp, .int .i64 s.at_] 28)) := hb1.alloc (by have := hb1.size; omega) _
    have l1 : w1.heap.size < (w1.alloc (.cells #[.int .i64 s.off, .int .i64 s.delay, .int .i64 s.disp, .int .i64 s.at_] 28)).heap.size := by simp
    obtain ⟨p0, p1, p2, p3⟩ := sample_cells P1
    go_wp2_with fail
    refine (HI.out _ (L.next g1)).mono ?_
    rintro e w2 ⟨rfl, hb2⟩
    have g2 := grow_next g1 hb2
    have P2 := blk_next hb2 P1
    have V2 := blk_new w2 (.cells #[.int .i64 v.lo, .int .i64 v.hi] 25)
    have P2' := blk_alloc P2 (.cells #[.int .i64 v.lo, .int .i64 v.hi] 25)
    have g2' : Below w.heap.size w (w2.alloc (.cells #[.int .i64 v.lo, .int .i64 v.hi] 25)) := g2.alloc (by have := g2.size; omega) _
    clear p0 p1 p2 p3
    obtain ⟨p0, p1, p2, p3⟩ := sample_cells P2
    have l2 := (Array.getElem?_eq_some_iff.1 P2).1
    go_wp2_with fail
    refine (HS.out _).mono ?_
    rintro e w3 ⟨rfl, hb3⟩
    have g3 := grow_next g2' hb3
    have P3 := blk_next hb3 P2'
    have V3 := blk_next hb3 V2
    have g3' : Below w.heap.size w (w3.alloc (.cells #[.int .i64 v.lo, .int .i64 v.hi] 25)) := g3.alloc (by have := g3.size; omega) _
    have hc3 := hc.next g3'
    have P3' := blk_alloc P3 (.cells #[.int .i64 v.lo, .int .i64 v.hi] 25)
    have V3' := blk_alloc V3 (.cells #[.int .i64 v.lo, .int .i64 v.hi] 25)
    have U3 := blk_new w3 (.cells #[.int .i64 v.lo, .int .i64 v.hi] 25)
    have l3 := (Array.getElem?_eq_some_iff.1 V3).1
    clear p0 p1 p2 p3
    go_wp2_with fail
    refine (drawIntervalOk_c x n cap _ hc3 hbig).mono ?_
    rintro e w4 ⟨y, rfl, hb4⟩
    have g4 := grow_next g3' hb4
    have P4 := blk_next hb4 P3'
    have V4 := blk_next hb4 V3'
    have U4 := blk_next hb4 U3
    have g5 : Below w.heap.size w (w4.alloc (.cells #[.int .i64 y.lo, .int .i64 y.hi] 25)) := g4.alloc (by have := g4.size; omega) _
    have P5 := blk_alloc P4 (.cells #[.int .i64 y.lo, .int .i64 y.hi] 25)
    have V5 := blk_alloc V4 (.cells #[.int .i64 y.lo, .int .i64 y.hi] 25)
    have U5 := blk_alloc U4 (.cells #[.int .i64 y.lo, .int .i64 y.hi] 25)
    have Y5 := blk_new w4 (.cells #[.int .i64 y.lo, .int .i64 y.hi] 25)
    have l4 := (Array.getElem?_eq_some_iff.1 V4).1
    have l4' := (Array.getElem?_eq_some_iff.1 U4).1
    have l4'' := (Array.getElem?_eq_some_iff.1 P4).1
    obtain ⟨yo, hyo⟩ : ∃ k, y.ok = k := ⟨_, rfl⟩
    have HOI := Lib.hid (fun w => ivOkI_dec hyo w)
    have HOS := Lib.hid (fun w => ivOkS_dec hyo w)
    clear hyo
    obtain ⟨x0, x1⟩ := iv_cells V4
    obtain ⟨z0, z1⟩ := iv_cells U4
    obtain ⟨p0, p1, p2, p3⟩ := sample_cells P4
    clear hb1 hb2 hb3 hb4 g2 g2' g3 g3' g4 P1 P2 P2' P3 P3' V2 V3 V3' U3 P4 V4 U4 hc hc3
    cases ok with
    | false =>
      go_wp2_with fail
      go_region_held3 (fun w' => (w'.cell? ⟨w2.heap.size, 0, none⟩ = some (.int .i64 v.lo) ∧ w'.cell? ⟨w2.heap.size, 1, none⟩ = some (.int .i64 v.hi)) ∧ (w'.cell? ⟨w3.heap.size, 0, none⟩ = some (.int .i64 v.lo) ∧ w'.cell? ⟨w3.heap.size, 1, none⟩ = some (.int .i64 v.hi)) ∧ (w'.cell? ⟨w4.heap.size, 0, none⟩ = some (.int .i64 y.lo) ∧ w'.cell? ⟨w4.heap.size, 1, none⟩ = some (.int .i64 y.hi)) ∧ (w'.cell? ⟨w1.heap.size, 0, none⟩ = some (.int .i64 s.off) ∧ w'.cell? ⟨w1.heap.size, 1, none⟩ = some (.int .i64 s.delay) ∧ w'.cell? ⟨w1.heap.size, 2, none⟩ = some (.int .i64 s.disp) ∧ w'.cell? ⟨w1.heap.size, 3, none⟩ = some (.int .i64 s.at_))) (exact ⟨iv_cells (by assumption), iv_cells (by assumption), iv_cells (by assumption), sample_cells (by assumption)⟩)
        (first
          | (go_at_call 12; refine (HOI.out _).mono ?_; rintro e wn ⟨rfl, hbn⟩; have A := blk_next hbn (b := w2.heap.size) (o := .cells #[.int .i64 v.lo, .int .i64 v.hi] 25) (by assumption); have B := blk_next hbn (b := w3.heap.size) (o := .cells #[.int .i64 v.lo, .int .i64 v.hi] 25) (by assumption); have C := blk_next hbn (b := w4.heap.size) (o := .cells #[.int .i64 y.lo, .int .i64 y.hi] 25) (by assumption); have D := blk_next hbn (b := w1.heap.size) (o := .cells #[.int .i64 s.off, .int .i64 s.delay, .int .i64 s.disp, .int .i64 s.at_] 28) (by assumption); have G : Below w.heap.size w wn := grow_next (by first | assumption | exact Below.drew (by assumption)) hbn)
          | (go_at_call 13; refine (HOS.out _).mono ?_; rintro e wn ⟨rfl, hbn⟩; have A := blk_next hbn (b := w2.heap.size) (o := .cells #[.int .i64 v.lo, .int .i64 v.hi] 25) (by assumption); have B := blk_next hbn (b := w3.heap.size) (o := .cells #[.int .i64 v.lo, .int .i64 v.hi] 25) (by assumption); have C := blk_next hbn (b := w4.heap.size) (o := .cells #[.int .i64 y.lo, .int .i64 y.hi] 25) (by assumption); have D := blk_next hbn (b := w1.heap.size) (o := .cells #[.int .i64 s.off, .int .i64 s.delay, .int .i64 s.disp, .int .i64 s.at_] 28) (by assumption); have G : Below w.heap.size w wn := grow_next (by first | assumption | exact Below.drew (by assumption)) hbn))
      go_wp2_with fail
      go_region_held3 (fun w' => (w'.cell? ⟨w2.heap.size, 0, none⟩ = some (.int .i64 v.lo) ∧ w'.cell? ⟨w2.heap.size, 1, none⟩ = some (.int .i64 v.hi)) ∧ (w'.cell? ⟨w3.heap.size, 0, none⟩ = some (.int .i64 v.lo) ∧ w'.cell? ⟨w3.heap.size, 1, none⟩ = some (.int .i64 v.hi)) ∧ (w'.cell? ⟨w4.heap.size, 0, none⟩ = some (.int .i64 y.lo) ∧ w'.cell? ⟨w4.heap.size, 1, none⟩ = some (.int .i64 y.hi)) ∧ (w'.cell? ⟨w1.heap.size, 0, none⟩ = some (.int .i64 s.off) ∧ w'.cell? ⟨w1.heap.size, 1, none⟩ = some (.int .i64 s.delay) ∧ w'.cell? ⟨w1.heap.size, 2, none⟩ = some (.int .i64 s.disp) ∧ w'.cell? ⟨w1.heap.size, 3, none⟩ = some (.int .i64 s.at_))) (exact ⟨iv_cells (by assumption), iv_cells (by assumption), iv_cells (by assumption), sample_cells (by assumption)⟩)
        (first
          | (go_at_call 12; refine (HOI.out _).mono ?_; rintro e wn ⟨rfl, hbn⟩; have A := blk_next hbn (b := w2.heap.size) (o := .cells #[.int .i64 v.lo, .int .i64 v.hi] 25) (by assumption); have B := blk_next hbn (b := w3.heap.size) (o := .cells #[.int .i64 v.lo, .int .i64 v.hi] 25) (by assumption); have C := blk_next hbn (b := w4.heap.size) (o := .cells #[.int .i64 y.lo, .int .i64 y.hi] 25) (by assumption); have D := blk_next hbn (b := w1.heap.size) (o := .cells #[.int .i64 s.off, .int .i64 s.delay, .int .i64 s.disp, .int .i64 s.at_] 28) (by assumption); have G : Below w.heap.size w wn := grow_next (by first | assumption | exact Below.drew (by assumption)) hbn)
          | (go_at_call 13; refine (HOS.out _).mono ?_; rintro e wn ⟨rfl, hbn⟩; have A := blk_next hbn (b := w2.heap.size) (o := .cells #[.int .i64 v.lo, .int .i64 v.hi] 25) (by assumption); have B := blk_next hbn (b := w3.heap.size) (o := .cells #[.int .i64 v.lo, .int .i64 v.hi] 25) (by assumption); have C := blk_next hbn (b := w4.heap.size) (o := .cells #[.int .i64 y.lo, .int .i64 y.hi] 25) (by assumption); have D := blk_next hbn (b := w1.heap.size) (o := .cells #[.int .i64 s.off, .int .i64 s.delay, .int .i64 s.disp, .int .i64 s.at_] 28) (by assumption); have G : Below w.heap.size w wn := grow_next (by first | assumption | exact Below.drew (by assumption)) hbn))
      go_wp2_with fail
      go_returns
      exact ⟨rfl, by assumption⟩
    | true =>
      have ho : s.ok = true := HK.out
      obtain ⟨⟨a0, a1⟩, ⟨b0, b1⟩, ⟨c0, c1⟩, ⟨d0, d1⟩⟩ := Sm.ok_iff.1 ho
      have hv : ivOf s = v := (ivV_yes ho).symm.trans HV.out
      have hvo : v.ok = true := hv ▸ ivOf_ok ho
      have HIV := Lib.hid (fun w => ivOkI_dec hvo w)
      obtain ⟨r, hr, r0, r1⟩ := reach_held ho
      have hq := (reachV_bounds s ho).1
      rw [← hr] at hq
      have hR := fun W {ao an au} L => @reach_impl s W ao an au L
      rw [hq] at hR
      have HR := Lib.hid (fun W {ao an au} L => @hR W ao an au L)
      have e1 : IntKind.i64.wrap (v.lo + v.hi) = 2 * s.off := by rw [← hv]; rw [IntWalk.i64_in _ (by simp only [ivOf]; omega)]; simp only [ivOf]; omega
      have e2 : IntKind.i64.wrap (2 * s.off) = 2 * s.off := IntWalk.i64_in _ (by omega)
      have e3 : IntKind.i64.wrap (v.hi - v.lo) = 2 * r := by rw [← hv, hr]; rw [IntWalk.i64_in _ (by simp only [ivOf]; omega)]; simp only [ivOf]; omega
      have e4 : IntKind.i64.wrap (2 * r) = 2 * r := IntWalk.i64_in _ (by omega)
      clear hv ho hr hq hR hvo
      go_wp2_with fail
      go_region_held3 (fun w' => (w'.cell? ⟨w2.heap.size, 0, none⟩ = some (.int .i64 v.lo) ∧ w'.cell? ⟨w2.heap.size, 1, none⟩ = some (.int .i64 v.hi)) ∧ (w'.cell? ⟨w3.heap.size, 0, none⟩ = some (.int .i64 v.lo) ∧ w'.cell? ⟨w3.heap.size, 1, none⟩ = some (.int .i64 v.hi)) ∧ (w'.cell? ⟨w4.heap.size, 0, none⟩ = some (.int .i64 y.lo) ∧ w'.cell? ⟨w4.heap.size, 1, none⟩ = some (.int .i64 y.hi)) ∧ (w'.cell? ⟨w1.heap.size, 0, none⟩ = some (.int .i64 s.off) ∧ w'.cell? ⟨w1.heap.size, 1, none⟩ = some (.int .i64 s.delay) ∧ w'.cell? ⟨w1.heap.size, 2, none⟩ = some (.int .i64 s.disp) ∧ w'.cell? ⟨w1.heap.size, 3, none⟩ = some (.int .i64 s.at_))) (exact ⟨iv_cells (by assumption), iv_cells (by assumption), iv_cells (by assumption), sample_cells (by assumption)⟩)
        (first
          | (go_at_call 12; refine (HOI.out _).mono ?_; rintro e wn ⟨rfl, hbn⟩; have A := blk_next hbn (b := w2.heap.size) (o := .cells #[.int .i64 v.lo, .int .i64 v.hi] 25) (by assumption); have B := blk_next hbn (b := w3.heap.size) (o := .cells #[.int .i64 v.lo, .int .i64 v.hi] 25) (by assumption); have C := blk_next hbn (b := w4.heap.size) (o := .cells #[.int .i64 y.lo, .int .i64 y.hi] 25) (by assumption); have D := blk_next hbn (b := w1.heap.size) (o := .cells #[.int .i64 s.off, .int .i64 s.delay, .int .i64 s.disp, .int .i64 s.at_] 28) (by assumption); have G : Below w.heap.size w wn := grow_next (by first | assumption | exact Below.drew (by assumption)) hbn)
          | (go_at_call 13; refine (HOS.out _).mono ?_; rintro e wn ⟨rfl, hbn⟩; have A := blk_next hbn (b := w2.heap.size) (o := .cells #[.int .i64 v.lo, .int .i64 v.hi] 25) (by assumption); have B := blk_next hbn (b := w3.heap.size) (o := .cells #[.int .i64 v.lo, .int .i64 v.hi] 25) (by assumption); have C := blk_next hbn (b := w4.heap.size) (o := .cells #[.int .i64 y.lo, .int .i64 y.hi] 25) (by assumption); have D := blk_next hbn (b := w1.heap.size) (o := .cells #[.int .i64 s.off, .int .i64 s.delay, .int .i64 s.disp, .int .i64 s.at_] 28) (by assumption); have G : Below w.heap.size w wn := grow_next (by first | assumption | exact Below.drew (by assumption)) hbn))
      go_wp2_with fail
      go_region_held3 (fun w' => (w'.cell? ⟨w2.heap.size, 0, none⟩ = some (.int .i64 v.lo) ∧ w'.cell? ⟨w2.heap.size, 1, none⟩ = some (.int .i64 v.hi)) ∧ (w'.cell? ⟨w1.heap.size, 0, none⟩ = some (.int .i64 s.off) ∧ w'.cell? ⟨w1.heap.size, 1, none⟩ = some (.int .i64 s.delay) ∧ w'.cell? ⟨w1.heap.size, 2, none⟩ = some (.int .i64 s.disp) ∧ w'.cell? ⟨w1.heap.size, 3, none⟩ = some (.int .i64 s.at_))) (exact ⟨iv_cells (by assumption), sample_cells (by assumption)⟩)
        (first
          | (go_at_call 12; refine (HIV.out _).mono ?_; rintro e wn ⟨rfl, hbn⟩; have A := blk_next hbn (b := w2.heap.size) (o := .cells #[.int .i64 v.lo, .int .i64 v.hi] 25) (by assumption); have D := blk_next hbn (b := w1.heap.size) (o := .cells #[.int .i64 s.off, .int .i64 s.delay, .int .i64 s.disp, .int .i64 s.at_] 28) (by assumption); have G : Below w.heap.size w wn := grow_next (by first | assumption | exact Below.drew (by assumption)) hbn)
          | (go_at_call 14; refine (HR.out _ (L.next (by first | assumption | exact Below.drew (by assumption)))).mono ?_; rintro e wn ⟨rfl, hbn⟩; have A := blk_next hbn (b := w2.heap.size) (o := .cells #[.int .i64 v.lo, .int .i64 v.hi] 25) (by assumption); have D := blk_next hbn (b := w1.heap.size) (o := .cells #[.int .i64 s.off, .int .i64 s.delay, .int .i64 s.disp, .int .i64 s.at_] 28) (by assumption); have G : Below w.heap.size w wn := grow_next (by first | assumption | exact Below.drew (by assumption)) hbn))
      go_wp2_with fail
      go_returns
      exact ⟨by simp, by assumption⟩
  · go_enter Tryd.func4, Tryd.ntmps4
    go_wp2_with (go_at_call 9; go_in)
    go_returns
    exact ⟨rfl, Below.refl _ _⟩
theorem ivs_met (os : Os) (args : Array Value) : laidMetH Tryd.prog Rows.fnIntervalsRow.laid ((World.doorLaid Tryd.prog 400 os).forCall (fun _ _ => 0) ⟨#[], args, []⟩).memory :=
  laidMetH_of_parts3 (fuel := 8) (laidMet_of_run' 8 (by kernel_rfl) (by kernel_rfl)) (by kernel_rfl) (by kernel_rfl)
set_option maxRecDepth 100000 in
theorem ivs_lifted (os : Os) (started : os.Started) (H : Type) (enc : TypeId × Value → H) :
    ReturnsInHanded {} Tryd.checked os 4 .any (fun w args => (Rows.fnIntervalsSpec.pre enc Tryd.prog Tryd.f4 [] false w args ∧ laidMetH Tryd.prog Rows.fnIntervalsRow.laid w) ∧ sizedMet enc Tryd.prog Tryd.f4 (OpenSpec.ofChange Rows.fnIntervalsSpec) false w args) (Rows.fnIntervalsSpec.post enc Tryd.prog Tryd.f4 false true false false) := by
  refine lifted_of_walk_laid (C := Tryd.checked) own started (by as_aux_lemma => kernel_rfl) Tryd.func4
    (ChangeSpec.witness_shaped (enc := enc) (C := Tryd.checked) (os := os) (X := fun w _ => laidMetH Tryd.prog Rows.fnIntervalsRow.laid w) false (World.doorLaid Tryd.prog 400 os) #[.slice none 0 0] 8 rfl (World.shaped_of_RefB (by kernel_rfl) (by kernel_rfl)) (by kernel_rfl) (by kernel_rfl) (by kernel_rfl) (ivs_met os _))
    laidOut (by as_aux_lemma => kernel_rfl) (by as_aux_lemma => kernel_rfl) rfl boolType
    (fun ds gs h hg => by
      match ds, gs, h, hg with
      | [_], [_, _, _], _, _ => rfl)
    ?_
  intro W base args ds q hval hA hL
  have laidRow : Rows.fnIntervalsRow.laid = Rows.fnIntervalsRow.laid := rfl
  obtain ⟨ao, an, au, L⟩ := ld_of hL (by simp [Rows.fnIntervalsRow, handleD, sentD, Rows.laid_errors_errorType, Rows.laid_loop_example_g00656_impl_errNoTime, Rows.laid_loop_example_g00656_impl_errOutside, Rows.laid_loop_example_g00656_impl_errUnsure]) (by simp [Rows.fnIntervalsRow, handleD, sentD, Rows.laid_errors_errorType, Rows.laid_loop_example_g00656_impl_errNoTime, Rows.laid_loop_example_g00656_impl_errOutside, Rows.laid_loop_example_g00656_impl_errUnsure]) (by simp [Rows.fnIntervalsRow, handleD, sentD, Rows.laid_errors_errorType, Rows.laid_loop_example_g00656_impl_errNoTime, Rows.laid_loop_example_g00656_impl_errOutside, Rows.laid_loop_example_g00656_impl_errUnsure]) (by simp [Rows.fnIntervalsRow, handleD, sentD, Rows.laid_errors_errorType, Rows.laid_loop_example_g00656_impl_errNoTime, Rows.laid_loop_example_g00656_impl_errOutside, Rows.laid_loop_example_g00656_impl_errUnsure])
  clear hL
  rw [Tryd.params4] at hA hval
  obtain ⟨v0, vs0, d0, ds0, p0, q0, hargs, rfl, rfl, h0, r0⟩ := trodAll_cons hA
  obtain ⟨rfl, rfl, rfl⟩ := trodAll_nil r0
  obtain rfl : args = #[v0] := by cases args; simp_all
  obtain ⟨a0, len0, cap0, z0, rfl, w0⟩ := open_bytes Tryd.underlying32 Tryd.underlying5 (by as_aux_lemma => kernel_rfl) (hval 0 32 v0 rfl rfl) h0
  exact ivs_walk W L a0 len0 cap0 z0 w0

theorem ivs_facts : joinedFacts Tryd.pinned.checked.prog 4 Tryd.f4 Rows.fnIntervalsSpec Rows.fnIntervalsRow = true :=
  facts_of (P := Tryd.prog) (by as_aux_lemma => kernel_rfl) laidOut mapsRow (by as_aux_lemma => kernel_rfl) (by as_aux_lemma => kernel_rfl) rfl noStops rfl noKnobs (by as_aux_lemma => kernel_rfl) (by as_aux_lemma => kernel_rfl) (by as_aux_lemma => kernel_rfl) (by as_aux_lemma => kernel_rfl) (by as_aux_lemma => kernel_rfl) (by as_aux_lemma => kernel_rfl) (by as_aux_lemma => kernel_rfl) (by as_aux_lemma => kernel_rfl) (by as_aux_lemma => kernel_rfl) (by as_aux_lemma => kernel_rfl) (by as_aux_lemma => kernel_rfl) (by as_aux_lemma => kernel_rfl) (by as_aux_lemma => kernel_rfl) keysPlain rfl heard enters finals isMake rfl rfl rfl (by as_aux_lemma => kernel_rfl) (by as_aux_lemma => kernel_rfl)

theorem ivs_row : Rows.FnIntervalsSaid :=
  OpenClaim.holds_of_wide 4 Tryd.f4 rfl rfl rfl rfl rfl rfl rfl ⟨rfl, rfl, rfl, rfl, rfl⟩ rfl rfl rfl rfl rfl (by as_aux_lemma => kernel_rfl) Tryd.func4 ivs_facts
    (of_decide_eq_true (by as_aux_lemma => kernel_rfl)) (by unfold Func.isWrapper; first | (rw [if_pos (by decide +kernel)]; kernel_rfl) | (rw [if_neg (by decide +kernel)]; exact ⟨rfl, rfl⟩))
    (fun os started H enc _ => ivs_lifted os started H enc)

/-- The given statement. -/
theorem ivs_holds : Rows.FnIntervalsCardSaid :=
  Claim7.holds_tied_plain_at .later [] Rows.fnIntervalsCard.laidKinds true Rows.fnIntervalsCard.stood.harness true
    ivs_row (fun _ h => by cases h) (by kernel_rfl) (fun _ h => by cases h) fnIntervals_row_tie rfl ⟨rfl, rfl⟩ (by kernel_rfl) rfl
    (fun f fn hf hfn => by
      obtain rfl : f = 4 := Option.some.inj ((show Tryd.prog.funcNamed "loop.example/g00656/laws.FnIntervals" = some 4 by kernel_rfl).symm.trans hf) |>.symm
      obtain rfl : fn = Tryd.f4 := (Option.some.inj (Tryd.func4.symm.trans hfn)).symm
      exact ⟨by kernel_rfl, fun j t ht => noStandIn (by rw [Tryd.params4]; kernel_rfl) j t ht⟩)
    (by kernel_rfl)
#print axioms ivs_holds
end Go.Proofs.YtecedbhjfpgkmaaDoor
