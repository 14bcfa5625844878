/- An offset is half of what both ways tell, down; a delay is what there and back takes, less the stay: at all drawn times and samples. -/
import Derived.Test.YtbabkpcefpacpaaDoorSampleMk
import Derived.Test.YtbabkpcefpacpaaDoorDraw3
import Derived.Test.YtbabkpcefpacpaaDoorTie
import Derived.Deep.RegionHeld3
import Derived.Test.YtbabkpcefpacpaaDoorCards
namespace Go.Proofs.YtbabkpcefpacpaaDoor
open Go.ChangeShapes Go.WideShapes Go.ChangeAt Go.RowKit
set_option linter.unusedVariables false
set_option linter.unusedSimpArgs false

theorem three_cells {W : World} {b c d : Nat} {T : TypeId} {p q r : Sm} (h : W.heap[b]? = some (.cells #[.int .i64 p.off, .int .i64 p.delay, .int .i64 p.disp, .int .i64 p.at_] T)) (h' : W.heap[c]? = some (.cells #[.int .i64 q.off, .int .i64 q.delay, .int .i64 q.disp, .int .i64 q.at_] T)) (h'' : W.heap[d]? = some (.cells #[.int .i64 r.off, .int .i64 r.delay, .int .i64 r.disp, .int .i64 r.at_] T)) : (W.cell? ⟨b, 0, none⟩ = some (.int .i64 p.off) ∧ W.cell? ⟨b, 1, none⟩ = some (.int .i64 p.delay) ∧ W.cell? ⟨b, 2, none⟩ = some (.int .i64 p.disp) ∧ W.cell? ⟨b, 3, none⟩ = some (.int .i64 p.at_)) ∧ (W.cell? ⟨c, 0, none⟩ = some (.int .i64 q.off) ∧ W.cell? ⟨c, 1, none⟩ = some (.int .i64 q.delay) ∧ W.cell? ⟨c, 2, none⟩ = some (.int .i64 q.disp) ∧ W.cell? ⟨c, 3, none⟩ = some (.int .i64 q.at_)) ∧ (W.cell? ⟨d, 0, none⟩ = some (.int .i64 r.off) ∧ W.cell? ⟨d, 1, none⟩ = some (.int .i64 r.delay) ∧ W.cell? ⟨d, 2, none⟩ = some (.int .i64 r.disp) ∧ W.cell? ⟨d, 3, none⟩ = some (.int .i64 r.at_)) := ⟨sample_cells h, sample_cells h', sample_cells h''⟩
theorem sampleOk_dec' {s : Sm} {b : Bool} (h : s.ok = b) (w : World) : Calls Tryd.prog 14 #[.agg #[.int .i64 s.off, .int .i64 s.delay, .int .i64 s.disp, .int .i64 s.at_]] w fun e w' => e = .returned (.bool b) ∧ Below w.heap.size w w' := h ▸ sampleOk_spec s w
theorem sampleOk_decI' (s : Sm) (b : Bool) (h : s.ok = b) (W : World) (ao an au : Addr) (L : Ld W ao an au) : Calls Tryd.prog 16 #[.agg #[.int .i64 s.off, .int .i64 s.delay, .int .i64 s.disp, .int .i64 s.at_]] W fun e w' => e = .returned (.bool b) ∧ Below W.heap.size W w' := h ▸ sampleOk_impl s W L

set_option maxHeartbeats 2000000 in
theorem samples_walk (w : World) {ao an au ab : Addr} {tx : List UInt8} (L : Ld w ao an au) (B : Sent w 3 tx ab) (x : Option Addr) (n cap z : Nat) (hz : z = n ∧ Code w.heap.size w (.slice x n cap) n) :
    Calls Tryd.prog 7 #[.slice x n cap] w fun e w' => e = .returned (.bool true) ∧ Below w.heap.size w w' := by
  obtain ⟨_, hc⟩ := hz
  by_cases hbig : n ≤ 1048576
  · go_enter Tryd.func7, Tryd.ntmps7
    go_wp2_with (go_at_call 24; go_in)
    refine (drawSampleOf_c x n cap _ hc hbig).mono ?_
    rintro e w1 ⟨a, b, c, d, rfl, hb1⟩
    have hI := @sampleOf_impl a b c d
    have hS := sampleOf_spec a b c d
    obtain ⟨v, hv⟩ : ∃ v, smOfV a b c d = v := ⟨_, rfl⟩
    obtain ⟨ok, hk⟩ : ∃ k, smOfOk a b c d = k := ⟨_, rfl⟩
    rw [hv, hk] at hS hI
    have HV := Lib.hid hv
    have HK := Lib.hid hk
    have HI := Lib.hid hI
    have HS := Lib.hid hS
    clear hv hk hI hS
    go_wp2_with fail
    refine (HI.out _ (L.next hb1) (B.next hb1)).mono ?_
    rintro e w2 ⟨rfl, hb2⟩
    have g2 := grow_next hb1 hb2
    have P2 := blk_new w2 (.cells #[.int .i64 v.off, .int .i64 v.delay, .int .i64 v.disp, .int .i64 v.at_] 25)
    have g2' : Below w.heap.size w (w2.alloc (.cells #[.int .i64 v.off, .int .i64 v.delay, .int .i64 v.disp, .int .i64 v.at_] 25)) := g2.alloc (by have := g2.size; omega) _
    go_wp2_with fail
    refine (HS.out _).mono ?_
    rintro e w3 ⟨rfl, hb3⟩
    have P3 := blk_next hb3 P2
    have g3 := grow_next g2' hb3
    have P3' := blk_alloc P3 (.cells #[.int .i64 v.off, .int .i64 v.delay, .int .i64 v.disp, .int .i64 v.at_] 25)
    have g3' : Below w.heap.size w (w3.alloc (.cells #[.int .i64 v.off, .int .i64 v.delay, .int .i64 v.disp, .int .i64 v.at_] 25)) := g3.alloc (by have := g3.size; omega) _
    have l3 := (Array.getElem?_eq_some_iff.1 P3).1
    obtain ⟨x0, x1, x2, x3⟩ := sample_cells P3
    have s3' := g3'.size
    have hc3 := hc.next g3'
    go_wp2_with fail
    refine (drawSampleOk_c x n cap _ hc3 hbig).mono ?_
    rintro e w4 ⟨y, rfl, hb4⟩
    have A4 := blk_next hb4 (blk_alloc P3 (.cells #[.int .i64 v.off, .int .i64 v.delay, .int .i64 v.disp, .int .i64 v.at_] 25))
    have B4 := blk_next hb4 (blk_new w3 (.cells #[.int .i64 v.off, .int .i64 v.delay, .int .i64 v.disp, .int .i64 v.at_] 25))
    have g4 := grow_next g3' hb4
    have A5 := blk_alloc A4 (.cells #[.int .i64 y.off, .int .i64 y.delay, .int .i64 y.disp, .int .i64 y.at_] 25)
    have B5 := blk_alloc B4 (.cells #[.int .i64 y.off, .int .i64 y.delay, .int .i64 y.disp, .int .i64 y.at_] 25)
    have C5 := blk_new w4 (.cells #[.int .i64 y.off, .int .i64 y.delay, .int .i64 y.disp, .int .i64 y.at_] 25)
    have g5 : Below w.heap.size w (w4.alloc (.cells #[.int .i64 y.off, .int .i64 y.delay, .int .i64 y.disp, .int .i64 y.at_] 25)) := g4.alloc (by have := g4.size; omega) _
    have l4 := (Array.getElem?_eq_some_iff.1 A4).1
    have l4' := (Array.getElem?_eq_some_iff.1 B4).1
    obtain ⟨yo, hyo⟩ : ∃ k, y.ok = k := ⟨_, rfl⟩
    have HOI := Lib.hid (fun W {ao an au} L => @sampleOk_decI' y yo hyo W ao an au L)
    have HOS := Lib.hid (fun w => sampleOk_dec' hyo w)
    clear hyo x0 x1 x2 x3
    obtain ⟨x0, x1, x2, x3⟩ := sample_cells A4
    obtain ⟨z0, z1, z2, z3⟩ := sample_cells B4
    clear hb1 hb2 hb3 hb4 g2 g2' g3 g3' g4 P2 P3 P3' A4 B4 hc hc3
    cases ok with
    | false =>
      go_wp2_with fail
      go_region_held3 (fun w' => (w'.cell? ⟨w2.heap.size, 0, none⟩ = some (.int .i64 v.off) ∧ w'.cell? ⟨w2.heap.size, 1, none⟩ = some (.int .i64 v.delay) ∧ w'.cell? ⟨w2.heap.size, 2, none⟩ = some (.int .i64 v.disp) ∧ w'.cell? ⟨w2.heap.size, 3, none⟩ = some (.int .i64 v.at_)) ∧ (w'.cell? ⟨w3.heap.size, 0, none⟩ = some (.int .i64 v.off) ∧ w'.cell? ⟨w3.heap.size, 1, none⟩ = some (.int .i64 v.delay) ∧ w'.cell? ⟨w3.heap.size, 2, none⟩ = some (.int .i64 v.disp) ∧ w'.cell? ⟨w3.heap.size, 3, none⟩ = some (.int .i64 v.at_)) ∧ (w'.cell? ⟨w4.heap.size, 0, none⟩ = some (.int .i64 y.off) ∧ w'.cell? ⟨w4.heap.size, 1, none⟩ = some (.int .i64 y.delay) ∧ w'.cell? ⟨w4.heap.size, 2, none⟩ = some (.int .i64 y.disp) ∧ w'.cell? ⟨w4.heap.size, 3, none⟩ = some (.int .i64 y.at_))) (exact three_cells (by assumption) (by assumption) (by assumption))
        (first
          | (go_at_call 16; refine (HOI.out _ (L.next (by first | assumption | exact Below.drew (by assumption)))).mono ?_; rintro e wn ⟨rfl, hbn⟩; have A := blk_next hbn (b := w2.heap.size) (o := .cells #[.int .i64 v.off, .int .i64 v.delay, .int .i64 v.disp, .int .i64 v.at_] 25) (by assumption); have B := blk_next hbn (b := w3.heap.size) (o := .cells #[.int .i64 v.off, .int .i64 v.delay, .int .i64 v.disp, .int .i64 v.at_] 25) (by assumption); have C := blk_next hbn (b := w4.heap.size) (o := .cells #[.int .i64 y.off, .int .i64 y.delay, .int .i64 y.disp, .int .i64 y.at_] 25) (by assumption); have G : Below w.heap.size w wn := grow_next (by first | assumption | exact Below.drew (by assumption)) hbn)
          | (go_at_call 14; refine (HOS.out _).mono ?_; rintro e wn ⟨rfl, hbn⟩; have A := blk_next hbn (b := w2.heap.size) (o := .cells #[.int .i64 v.off, .int .i64 v.delay, .int .i64 v.disp, .int .i64 v.at_] 25) (by assumption); have B := blk_next hbn (b := w3.heap.size) (o := .cells #[.int .i64 v.off, .int .i64 v.delay, .int .i64 v.disp, .int .i64 v.at_] 25) (by assumption); have C := blk_next hbn (b := w4.heap.size) (o := .cells #[.int .i64 y.off, .int .i64 y.delay, .int .i64 y.disp, .int .i64 y.at_] 25) (by assumption); have G : Below w.heap.size w wn := grow_next (by first | assumption | exact Below.drew (by assumption)) hbn))
      go_wp2_with fail
      go_region_held3 (fun w' => (w'.cell? ⟨w2.heap.size, 0, none⟩ = some (.int .i64 v.off) ∧ w'.cell? ⟨w2.heap.size, 1, none⟩ = some (.int .i64 v.delay) ∧ w'.cell? ⟨w2.heap.size, 2, none⟩ = some (.int .i64 v.disp) ∧ w'.cell? ⟨w2.heap.size, 3, none⟩ = some (.int .i64 v.at_)) ∧ (w'.cell? ⟨w3.heap.size, 0, none⟩ = some (.int .i64 v.off) ∧ w'.cell? ⟨w3.heap.size, 1, none⟩ = some (.int .i64 v.delay) ∧ w'.cell? ⟨w3.heap.size, 2, none⟩ = some (.int .i64 v.disp) ∧ w'.cell? ⟨w3.heap.size, 3, none⟩ = some (.int .i64 v.at_)) ∧ (w'.cell? ⟨w4.heap.size, 0, none⟩ = some (.int .i64 y.off) ∧ w'.cell? ⟨w4.heap.size, 1, none⟩ = some (.int .i64 y.delay) ∧ w'.cell? ⟨w4.heap.size, 2, none⟩ = some (.int .i64 y.disp) ∧ w'.cell? ⟨w4.heap.size, 3, none⟩ = some (.int .i64 y.at_))) (exact three_cells (by assumption) (by assumption) (by assumption))
        (first
          | (go_at_call 16; refine (HOI.out _ (L.next (by first | assumption | exact Below.drew (by assumption)))).mono ?_; rintro e wn ⟨rfl, hbn⟩; have A := blk_next hbn (b := w2.heap.size) (o := .cells #[.int .i64 v.off, .int .i64 v.delay, .int .i64 v.disp, .int .i64 v.at_] 25) (by assumption); have B := blk_next hbn (b := w3.heap.size) (o := .cells #[.int .i64 v.off, .int .i64 v.delay, .int .i64 v.disp, .int .i64 v.at_] 25) (by assumption); have C := blk_next hbn (b := w4.heap.size) (o := .cells #[.int .i64 y.off, .int .i64 y.delay, .int .i64 y.disp, .int .i64 y.at_] 25) (by assumption); have G : Below w.heap.size w wn := grow_next (by first | assumption | exact Below.drew (by assumption)) hbn)
          | (go_at_call 14; refine (HOS.out _).mono ?_; rintro e wn ⟨rfl, hbn⟩; have A := blk_next hbn (b := w2.heap.size) (o := .cells #[.int .i64 v.off, .int .i64 v.delay, .int .i64 v.disp, .int .i64 v.at_] 25) (by assumption); have B := blk_next hbn (b := w3.heap.size) (o := .cells #[.int .i64 v.off, .int .i64 v.delay, .int .i64 v.disp, .int .i64 v.at_] 25) (by assumption); have C := blk_next hbn (b := w4.heap.size) (o := .cells #[.int .i64 y.off, .int .i64 y.delay, .int .i64 y.disp, .int .i64 y.at_] 25) (by assumption); have G : Below w.heap.size w wn := grow_next (by first | assumption | exact Below.drew (by assumption)) hbn))
      go_wp2_with fail
      go_returns
      exact ⟨rfl, by assumption⟩
    | true =>
      obtain ⟨hw, ho⟩ := smOfOk_parts HK.out
      have hv : v = smOf a b c d := HV.out.symm.trans (smOfV_yes HK.out)
      obtain ⟨⟨a0, a1⟩, ⟨b0, b1⟩, ⟨c0, c1⟩, ⟨d0, d1⟩, ad, bc⟩ := waysOk_iff.1 hw
      rw [← hv] at ho
      obtain ⟨⟨f0, f1⟩, ⟨h0, h1⟩, ⟨j0, j1⟩, _⟩ := Sm.ok_iff.1 ho
      have HOV := Lib.hid (fun W {ao an au} L => @sampleOk_decI' v true ho W ao an au L)
      have eo : v.off = (b - a + c - d) / 2 := by rw [hv]; rfl
      have ed : v.delay = d - a - (c - b) := by rw [hv]; rfl
      have ea : v.at_ = d := by rw [hv]; rfl
      have m1 : decide (b - a + c - d < 2 * v.off) = false := decide_eq_false (by omega)
      have m2 : decide (2 * v.off < b - a + c - d - 1) = false := decide_eq_false (by omega)
      clear hv ho hw
      subst ea
      have EO := Lib.hid eo
      have ED := Lib.hid ed
      clear eo ed
      go_wp2_with fail
      go_region_held3 (fun w' => (w'.cell? ⟨w2.heap.size, 0, none⟩ = some (.int .i64 v.off) ∧ w'.cell? ⟨w2.heap.size, 1, none⟩ = some (.int .i64 v.delay) ∧ w'.cell? ⟨w2.heap.size, 2, none⟩ = some (.int .i64 v.disp) ∧ w'.cell? ⟨w2.heap.size, 3, none⟩ = some (.int .i64 v.at_)) ∧ (w'.cell? ⟨w3.heap.size, 0, none⟩ = some (.int .i64 v.off) ∧ w'.cell? ⟨w3.heap.size, 1, none⟩ = some (.int .i64 v.delay) ∧ w'.cell? ⟨w3.heap.size, 2, none⟩ = some (.int .i64 v.disp) ∧ w'.cell? ⟨w3.heap.size, 3, none⟩ = some (.int .i64 v.at_)) ∧ (w'.cell? ⟨w4.heap.size, 0, none⟩ = some (.int .i64 y.off) ∧ w'.cell? ⟨w4.heap.size, 1, none⟩ = some (.int .i64 y.delay) ∧ w'.cell? ⟨w4.heap.size, 2, none⟩ = some (.int .i64 y.disp) ∧ w'.cell? ⟨w4.heap.size, 3, none⟩ = some (.int .i64 y.at_))) (exact three_cells (by assumption) (by assumption) (by assumption))
        (first
          | (go_at_call 16; refine (HOI.out _ (L.next (by first | assumption | exact Below.drew (by assumption)))).mono ?_; rintro e wn ⟨rfl, hbn⟩; have A := blk_next hbn (b := w2.heap.size) (o := .cells #[.int .i64 v.off, .int .i64 v.delay, .int .i64 v.disp, .int .i64 v.at_] 25) (by assumption); have B := blk_next hbn (b := w3.heap.size) (o := .cells #[.int .i64 v.off, .int .i64 v.delay, .int .i64 v.disp, .int .i64 v.at_] 25) (by assumption); have C := blk_next hbn (b := w4.heap.size) (o := .cells #[.int .i64 y.off, .int .i64 y.delay, .int .i64 y.disp, .int .i64 y.at_] 25) (by assumption); have G : Below w.heap.size w wn := grow_next (by first | assumption | exact Below.drew (by assumption)) hbn)
          | (go_at_call 14; refine (HOS.out _).mono ?_; rintro e wn ⟨rfl, hbn⟩; have A := blk_next hbn (b := w2.heap.size) (o := .cells #[.int .i64 v.off, .int .i64 v.delay, .int .i64 v.disp, .int .i64 v.at_] 25) (by assumption); have B := blk_next hbn (b := w3.heap.size) (o := .cells #[.int .i64 v.off, .int .i64 v.delay, .int .i64 v.disp, .int .i64 v.at_] 25) (by assumption); have C := blk_next hbn (b := w4.heap.size) (o := .cells #[.int .i64 y.off, .int .i64 y.delay, .int .i64 y.disp, .int .i64 y.at_] 25) (by assumption); have G : Below w.heap.size w wn := grow_next (by first | assumption | exact Below.drew (by assumption)) hbn))
      go_wp2_with fail
      refine (HOV.out _ (L.next (by assumption))).mono ?_
      rintro e w9 ⟨rfl, hb9⟩
      have A9 := blk_next hb9 (b := w2.heap.size) (o := .cells #[.int .i64 v.off, .int .i64 v.delay, .int .i64 v.disp, .int .i64 v.at_] 25) (by assumption)
      have G9 : Below w.heap.size w w9 := grow_next (by assumption) hb9
      obtain ⟨r0, r1, r2, r3⟩ := sample_cells A9
      go_wp2_with fail
      all_goals
        go_returns
        exact ⟨by simp [ED.out], G9⟩
  · go_enter Tryd.func7, Tryd.ntmps7
    go_wp2_with (go_at_call 24; go_in)
    go_returns
    exact ⟨rfl, Below.refl _ _⟩
theorem samples_met (os : Os) (args : Array Value) : laidMetH Tryd.prog Rows.fnSamplesRow.laid ((World.doorLaid Tryd.prog 400 os).forCall (fun _ _ => 0) ⟨#[], args, []⟩).memory :=
  laidMetH_of_parts3 (fuel := 8) (laidMet_of_run' 8 (by kernel_rfl) (by kernel_rfl)) (by kernel_rfl) (by kernel_rfl)
set_option maxRecDepth 100000 in
theorem samples_lifted (os : Os) (started : os.Started) (H : Type) (enc : TypeId × Value → H) :
    ReturnsInHanded {} Tryd.checked os 7 .any (fun w args => (Rows.fnSamplesSpec.pre enc Tryd.prog Tryd.f7 [] false w args ∧ laidMetH Tryd.prog Rows.fnSamplesRow.laid w) ∧ sizedMet enc Tryd.prog Tryd.f7 (OpenSpec.ofChange Rows.fnSamplesSpec) false w args) (Rows.fnSamplesSpec.post enc Tryd.prog Tryd.f7 false true false false) := by
  refine lifted_of_walk_laid (C := Tryd.checked) own started (by as_aux_lemma => kernel_rfl) Tryd.func7
    (ChangeSpec.witness_shaped (enc := enc) (C := Tryd.checked) (os := os) (X := fun w _ => laidMetH Tryd.prog Rows.fnSamplesRow.laid w) false (World.doorLaid Tryd.prog 400 os) #[.slice none 0 0] 8 rfl (World.shaped_of_RefB (by kernel_rfl) (by kernel_rfl)) (by kernel_rfl) (by kernel_rfl) (by kernel_rfl) (samples_met os _))
    laidOut (by as_aux_lemma => kernel_rfl) (by as_aux_lemma => kernel_rfl) rfl boolType
    (fun ds gs h hg => by
      match ds, gs, h, hg with
      | [_], [_, _, _, _], _, _ => rfl)
    ?_
  intro W base args ds q hval hA hL
  have laidRow : Rows.fnSamplesRow.laid = Rows.fnSamplesRow.laid := rfl
  obtain ⟨ao, an, au, L⟩ := ld_of hL (by simp [Rows.fnSamplesRow, handleD, sentD, Rows.laid_errors_errorType, Rows.laid_loop_example_g00656_impl_errNoTime, Rows.laid_loop_example_g00656_impl_errOutside, Rows.laid_loop_example_g00656_impl_errUnsure, Rows.laid_loop_example_g00656_impl_errBack]) (by simp [Rows.fnSamplesRow, handleD, sentD, Rows.laid_errors_errorType, Rows.laid_loop_example_g00656_impl_errNoTime, Rows.laid_loop_example_g00656_impl_errOutside, Rows.laid_loop_example_g00656_impl_errUnsure, Rows.laid_loop_example_g00656_impl_errBack]) (by simp [Rows.fnSamplesRow, handleD, sentD, Rows.laid_errors_errorType, Rows.laid_loop_example_g00656_impl_errNoTime, Rows.laid_loop_example_g00656_impl_errOutside, Rows.laid_loop_example_g00656_impl_errUnsure, Rows.laid_loop_example_g00656_impl_errBack]) (by simp [Rows.fnSamplesRow, handleD, sentD, Rows.laid_errors_errorType, Rows.laid_loop_example_g00656_impl_errNoTime, Rows.laid_loop_example_g00656_impl_errOutside, Rows.laid_loop_example_g00656_impl_errUnsure, Rows.laid_loop_example_g00656_impl_errBack])
  obtain ⟨ab, B⟩ := sentH_of (n := "loop.example/g00656/impl.errBack") (text := [116, 105, 109, 101, 32, 103, 111, 101, 115, 32, 98, 97, 99, 107]) (g := 3) hL (by simp [Rows.fnSamplesRow, handleD, sentD, Rows.laid_errors_errorType, Rows.laid_loop_example_g00656_impl_errNoTime, Rows.laid_loop_example_g00656_impl_errOutside, Rows.laid_loop_example_g00656_impl_errUnsure, Rows.laid_loop_example_g00656_impl_errBack]) (by simp [Rows.fnSamplesRow, handleD, sentD, Rows.laid_errors_errorType, Rows.laid_loop_example_g00656_impl_errNoTime, Rows.laid_loop_example_g00656_impl_errOutside, Rows.laid_loop_example_g00656_impl_errUnsure, Rows.laid_loop_example_g00656_impl_errBack]) (by kernel_rfl) (by kernel_rfl)
  clear hL
  rw [Tryd.params7] at hA hval
  obtain ⟨v0, vs0, d0, ds0, p0, q0, hargs, rfl, rfl, h0, r0⟩ := trodAll_cons hA
  obtain ⟨rfl, rfl, rfl⟩ := trodAll_nil r0
  obtain rfl : args = #[v0] := by cases args; simp_all
  obtain ⟨a0, len0, cap0, z0, rfl, w0⟩ := open_bytes Tryd.underlying35 Tryd.underlying5 (by as_aux_lemma => kernel_rfl) (hval 0 35 v0 rfl rfl) h0
  exact samples_walk W L B a0 len0 cap0 z0 w0

theorem samples_facts : joinedFacts Tryd.pinned.checked.prog 7 Tryd.f7 Rows.fnSamplesSpec Rows.fnSamplesRow = true :=
  facts_of (P := Tryd.prog) (by as_aux_lemma => kernel_rfl) laidOut mapsRow (by as_aux_lemma => kernel_rfl) (by as_aux_lemma => kernel_rfl) rfl noStops rfl noKnobs (by as_aux_lemma => kernel_rfl) (by as_aux_lemma => kernel_rfl) (by as_aux_lemma => kernel_rfl) (by as_aux_lemma => kernel_rfl) (by as_aux_lemma => kernel_rfl) (by as_aux_lemma => kernel_rfl) (by as_aux_lemma => kernel_rfl) (by as_aux_lemma => kernel_rfl) (by as_aux_lemma => kernel_rfl) (by as_aux_lemma => kernel_rfl) (by as_aux_lemma => kernel_rfl) (by as_aux_lemma => kernel_rfl) (by as_aux_lemma => kernel_rfl) keysPlain rfl heard enters finals isMake rfl rfl rfl (by as_aux_lemma => kernel_rfl) (by as_aux_lemma => kernel_rfl)

theorem samples_row : Rows.FnSamplesSaid :=
  OpenClaim.holds_of_wide 7 Tryd.f7 rfl rfl rfl rfl rfl rfl rfl ⟨rfl, rfl, rfl, rfl, rfl⟩ rfl rfl rfl rfl rfl (by as_aux_lemma => kernel_rfl) Tryd.func7 samples_facts
    (of_decide_eq_true (by as_aux_lemma => kernel_rfl)) (by unfold Func.isWrapper; first | (rw [if_pos (by decide +kernel)]; kernel_rfl) | (rw [if_neg (by decide +kernel)]; exact ⟨rfl, rfl⟩))
    (fun os started H enc _ => samples_lifted os started H enc)

/-- The given statement. -/
theorem samples_holds : Rows.FnSamplesCardSaid :=
  Claim7.holds_tied_plain_at .later [] Rows.fnSamplesCard.laidKinds true Rows.fnSamplesCard.stood.harness true
    samples_row (fun _ h => by cases h) (by kernel_rfl) (fun _ h => by cases h) fnSamples_row_tie rfl ⟨rfl, rfl⟩ (by kernel_rfl) rfl
    (fun f fn hf hfn => by
      obtain rfl : f = 7 := Option.some.inj ((show Tryd.prog.funcNamed "loop.example/g00656/laws.FnSamples" = some 7 by kernel_rfl).symm.trans hf) |>.symm
      obtain rfl : fn = Tryd.f7 := (Option.some.inj (Tryd.func7.symm.trans hfn)).symm
      exact ⟨by kernel_rfl, fun j t ht => noStandIn (by rw [Tryd.params7]; kernel_rfl) j t ht⟩)
    (by kernel_rfl)
#print axioms samples_holds
end Go.Proofs.YtbabkpcefpacpaaDoor
