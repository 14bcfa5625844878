/- For every two packets the program's Fits answers as the reference. -/
import Derived.Test.YtkmjemdcmonllaaFits
import Derived.Deep.RegionHeld3
import Derived.Deep.Cut
import Derived.Deep.DeepCutAuto
namespace Go.Proofs.Ytkmjemdcmonllaa
open Go.ChangeShapes Go.WideShapes Go.ChangeAt Go.RowKit
set_option linter.unusedVariables false
set_option maxHeartbeats 1000000 in
theorem fits_walk (q a : Pk) (w : World) :
    Calls Try.prog 19 #[.agg #[.int .i64 q.leap, .int .i64 q.version, .int .i64 q.mode, .int .i64 q.stratum, .int .i64 q.poll, .int .i64 q.delay, .int .i64 q.disp, .int .i64 q.ref, .int .i64 q.orig, .int .i64 q.recv, .int .i64 q.xmit], .agg #[.int .i64 a.leap, .int .i64 a.version, .int .i64 a.mode, .int .i64 a.stratum, .int .i64 a.poll, .int .i64 a.delay, .int .i64 a.disp, .int .i64 a.ref, .int .i64 a.orig, .int .i64 a.recv, .int .i64 a.xmit]] w fun e w' => e = .returned (.bool true) ∧ Below w.heap.size w w' := by
  have Q := blk_alloc (blk_new w (.cells #[.int .i64 q.leap, .int .i64 q.version, .int .i64 q.mode, .int .i64 q.stratum, .int .i64 q.poll, .int .i64 q.delay, .int .i64 q.disp, .int .i64 q.ref, .int .i64 q.orig, .int .i64 q.recv, .int .i64 q.xmit] 48)) (.cells #[.int .i64 a.leap, .int .i64 a.version, .int .i64 a.mode, .int .i64 a.stratum, .int .i64 a.poll, .int .i64 a.delay, .int .i64 a.disp, .int .i64 a.ref, .int .i64 a.orig, .int .i64 a.recv, .int .i64 a.xmit] 48)
  have A := blk_new (w.alloc (.cells #[.int .i64 q.leap, .int .i64 q.version, .int .i64 q.mode, .int .i64 q.stratum, .int .i64 q.poll, .int .i64 q.delay, .int .i64 q.disp, .int .i64 q.ref, .int .i64 q.orig, .int .i64 q.recv, .int .i64 q.xmit] 48)) (.cells #[.int .i64 a.leap, .int .i64 a.version, .int .i64 a.mode, .int .i64 a.stratum, .int .i64 a.poll, .int .i64 a.delay, .int .i64 a.disp, .int .i64 a.ref, .int .i64 a.orig, .int .i64 a.recv, .int .i64 a.xmit] 48)
  rw [World.size_alloc] at A
  have hg : Below w.heap.size w ((w.alloc (.cells #[.int .i64 q.leap, .int .i64 q.version, .int .i64 q.mode, .int .i64 q.stratum, .int .i64 q.poll, .int .i64 q.delay, .int .i64 q.disp, .int .i64 q.ref, .int .i64 q.orig, .int .i64 q.recv, .int .i64 q.xmit] 48)).alloc (.cells #[.int .i64 a.leap, .int .i64 a.version, .int .i64 a.mode, .int .i64 a.stratum, .int .i64 a.poll, .int .i64 a.delay, .int .i64 a.disp, .int .i64 a.ref, .int .i64 a.orig, .int .i64 a.recv, .int .i64 a.xmit] 48)) := by go_grown
  go_enter Try.func19, Try.ntmps19
  go_upto_region 1 with fail
  go_cut [5] (fun s5 wx => s5 = .bool (fitsB q a) ∧ wx.heap[w.heap.size]? = some (.cells #[.int .i64 q.leap, .int .i64 q.version, .int .i64 q.mode, .int .i64 q.stratum, .int .i64 q.poll, .int .i64 q.delay, .int .i64 q.disp, .int .i64 q.ref, .int .i64 q.orig, .int .i64 q.recv, .int .i64 q.xmit] 48) ∧ wx.heap[w.heap.size + 1]? = some (.cells #[.int .i64 a.leap, .int .i64 a.version, .int .i64 a.mode, .int .i64 a.stratum, .int .i64 a.poll, .int .i64 a.delay, .int .i64 a.disp, .int .i64 a.ref, .int .i64 a.orig, .int .i64 a.recv, .int .i64 a.xmit] 48) ∧ Below w.heap.size w wx)
  case first =>
    go_region_held3 (fun w' => w'.cell? ⟨w.heap.size, 0, none⟩ = some (.int .i64 q.leap) ∧ w'.cell? ⟨w.heap.size, 1, none⟩ = some (.int .i64 q.version) ∧ w'.cell? ⟨w.heap.size, 2, none⟩ = some (.int .i64 q.mode) ∧ w'.cell? ⟨w.heap.size, 3, none⟩ = some (.int .i64 q.stratum) ∧ w'.cell? ⟨w.heap.size, 4, none⟩ = some (.int .i64 q.poll) ∧ w'.cell? ⟨w.heap.size, 5, none⟩ = some (.int .i64 q.delay) ∧ w'.cell? ⟨w.heap.size, 6, none⟩ = some (.int .i64 q.disp) ∧ w'.cell? ⟨w.heap.size, 7, none⟩ = some (.int .i64 q.ref) ∧ w'.cell? ⟨w.heap.size, 8, none⟩ = some (.int .i64 q.orig) ∧ w'.cell? ⟨w.heap.size, 9, none⟩ = some (.int .i64 q.recv) ∧ w'.cell? ⟨w.heap.size, 10, none⟩ = some (.int .i64 q.xmit) ∧ w'.cell? ⟨w.heap.size + 1, 0, none⟩ = some (.int .i64 a.leap) ∧ w'.cell? ⟨w.heap.size + 1, 1, none⟩ = some (.int .i64 a.version) ∧ w'.cell? ⟨w.heap.size + 1, 2, none⟩ = some (.int .i64 a.mode) ∧ w'.cell? ⟨w.heap.size + 1, 3, none⟩ = some (.int .i64 a.stratum) ∧ w'.cell? ⟨w.heap.size + 1, 4, none⟩ = some (.int .i64 a.poll) ∧ w'.cell? ⟨w.heap.size + 1, 5, none⟩ = some (.int .i64 a.delay) ∧ w'.cell? ⟨w.heap.size + 1, 6, none⟩ = some (.int .i64 a.disp) ∧ w'.cell? ⟨w.heap.size + 1, 7, none⟩ = some (.int .i64 a.ref) ∧ w'.cell? ⟨w.heap.size + 1, 8, none⟩ = some (.int .i64 a.orig) ∧ w'.cell? ⟨w.heap.size + 1, 9, none⟩ = some (.int .i64 a.recv) ∧ w'.cell? ⟨w.heap.size + 1, 10, none⟩ = some (.int .i64 a.xmit)) (exact packets_cells (by assumption) (by assumption))
      (first
        | (go_at_call 54; refine (toPacket_c _ _).mono ?_; rintro e w1 ⟨rfl, hb1⟩; have Q := blk_next hb1 (b := w.heap.size) (o := .cells #[.int .i64 q.leap, .int .i64 q.version, .int .i64 q.mode, .int .i64 q.stratum, .int .i64 q.poll, .int .i64 q.delay, .int .i64 q.disp, .int .i64 q.ref, .int .i64 q.orig, .int .i64 q.recv, .int .i64 q.xmit] 48) (by assumption); have A := blk_next hb1 (b := w.heap.size + 1) (o := .cells #[.int .i64 a.leap, .int .i64 a.version, .int .i64 a.mode, .int .i64 a.stratum, .int .i64 a.poll, .int .i64 a.delay, .int .i64 a.disp, .int .i64 a.ref, .int .i64 a.orig, .int .i64 a.recv, .int .i64 a.xmit] 48) (by assumption); have hg : Below w.heap.size w w1 := grow_next (by first | assumption | exact Below.drew (by assumption)) hb1)
        | (go_at_call 53; refine (fits_spec q a _).mono ?_; rintro e w1 ⟨rfl, hb1⟩; have Q := blk_next hb1 (b := w.heap.size) (o := .cells #[.int .i64 q.leap, .int .i64 q.version, .int .i64 q.mode, .int .i64 q.stratum, .int .i64 q.poll, .int .i64 q.delay, .int .i64 q.disp, .int .i64 q.ref, .int .i64 q.orig, .int .i64 q.recv, .int .i64 q.xmit] 48) (by assumption); have A := blk_next hb1 (b := w.heap.size + 1) (o := .cells #[.int .i64 a.leap, .int .i64 a.version, .int .i64 a.mode, .int .i64 a.stratum, .int .i64 a.poll, .int .i64 a.delay, .int .i64 a.disp, .int .i64 a.ref, .int .i64 a.orig, .int .i64 a.recv, .int .i64 a.xmit] 48) (by assumption); have hg : Below w.heap.size w w1 := grow_next (by first | assumption | exact Below.drew (by assumption)) hb1))
    go_wp2_with fail
    go_meet
    exact ⟨rfl, by assumption, by assumption, by assumption⟩
  case rest =>
    obtain ⟨rfl, Q', A', hg'⟩ := hcut
    go_wp2_with fail
    go_region_held3 (fun w' => w'.cell? ⟨w.heap.size, 0, none⟩ = some (.int .i64 q.leap) ∧ w'.cell? ⟨w.heap.size, 1, none⟩ = some (.int .i64 q.version) ∧ w'.cell? ⟨w.heap.size, 2, none⟩ = some (.int .i64 q.mode) ∧ w'.cell? ⟨w.heap.size, 3, none⟩ = some (.int .i64 q.stratum) ∧ w'.cell? ⟨w.heap.size, 4, none⟩ = some (.int .i64 q.poll) ∧ w'.cell? ⟨w.heap.size, 5, none⟩ = some (.int .i64 q.delay) ∧ w'.cell? ⟨w.heap.size, 6, none⟩ = some (.int .i64 q.disp) ∧ w'.cell? ⟨w.heap.size, 7, none⟩ = some (.int .i64 q.ref) ∧ w'.cell? ⟨w.heap.size, 8, none⟩ = some (.int .i64 q.orig) ∧ w'.cell? ⟨w.heap.size, 9, none⟩ = some (.int .i64 q.recv) ∧ w'.cell? ⟨w.heap.size, 10, none⟩ = some (.int .i64 q.xmit) ∧ w'.cell? ⟨w.heap.size + 1, 0, none⟩ = some (.int .i64 a.leap) ∧ w'.cell? ⟨w.heap.size + 1, 1, none⟩ = some (.int .i64 a.version) ∧ w'.cell? ⟨w.heap.size + 1, 2, none⟩ = some (.int .i64 a.mode) ∧ w'.cell? ⟨w.heap.size + 1, 3, none⟩ = some (.int .i64 a.stratum) ∧ w'.cell? ⟨w.heap.size + 1, 4, none⟩ = some (.int .i64 a.poll) ∧ w'.cell? ⟨w.heap.size + 1, 5, none⟩ = some (.int .i64 a.delay) ∧ w'.cell? ⟨w.heap.size + 1, 6, none⟩ = some (.int .i64 a.disp) ∧ w'.cell? ⟨w.heap.size + 1, 7, none⟩ = some (.int .i64 a.ref) ∧ w'.cell? ⟨w.heap.size + 1, 8, none⟩ = some (.int .i64 a.orig) ∧ w'.cell? ⟨w.heap.size + 1, 9, none⟩ = some (.int .i64 a.recv) ∧ w'.cell? ⟨w.heap.size + 1, 10, none⟩ = some (.int .i64 a.xmit)) (exact packets_cells (by assumption) (by assumption))
      (first
        | (go_at_call 54; refine (toPacket_c _ _).mono ?_; rintro e w1 ⟨rfl, hb1⟩; have Q := blk_next hb1 (b := w.heap.size) (o := .cells #[.int .i64 q.leap, .int .i64 q.version, .int .i64 q.mode, .int .i64 q.stratum, .int .i64 q.poll, .int .i64 q.delay, .int .i64 q.disp, .int .i64 q.ref, .int .i64 q.orig, .int .i64 q.recv, .int .i64 q.xmit] 48) (by assumption); have A := blk_next hb1 (b := w.heap.size + 1) (o := .cells #[.int .i64 a.leap, .int .i64 a.version, .int .i64 a.mode, .int .i64 a.stratum, .int .i64 a.poll, .int .i64 a.delay, .int .i64 a.disp, .int .i64 a.ref, .int .i64 a.orig, .int .i64 a.recv, .int .i64 a.xmit] 48) (by assumption); have hg : Below w.heap.size w w1 := grow_next (by first | assumption | exact Below.drew (by assumption)) hb1)
        | (go_at_call 52; refine (fits_impl q a _).mono ?_; rintro e w1 ⟨rfl, hb1⟩; have Q := blk_next hb1 (b := w.heap.size) (o := .cells #[.int .i64 q.leap, .int .i64 q.version, .int .i64 q.mode, .int .i64 q.stratum, .int .i64 q.poll, .int .i64 q.delay, .int .i64 q.disp, .int .i64 q.ref, .int .i64 q.orig, .int .i64 q.recv, .int .i64 q.xmit] 48) (by assumption); have A := blk_next hb1 (b := w.heap.size + 1) (o := .cells #[.int .i64 a.leap, .int .i64 a.version, .int .i64 a.mode, .int .i64 a.stratum, .int .i64 a.poll, .int .i64 a.delay, .int .i64 a.disp, .int .i64 a.ref, .int .i64 a.orig, .int .i64 a.recv, .int .i64 a.xmit] 48) (by assumption); have hg : Below w.heap.size w w1 := grow_next (by first | assumption | exact Below.drew (by assumption)) hb1))
    go_wp2_with fail
    go_returns
    exact ⟨rfl, by assumption⟩

set_option maxRecDepth 100000 in
theorem fits_lifted (os : Os) (started : os.Started) (H : Type) (enc : TypeId × Value → H) :
    ReturnsInHanded {} Try.checked os 19 .any (Rows.fnExactFitsSpec.pre6 enc Try.prog Try.f19 Rows.fnExactFitsRow.domain false) (Rows.fnExactFitsSpec.post enc Try.prog Try.f19 false true false false) := by
  refine lifted_of_walk (C := Try.checked) own started (by as_aux_lemma => kernel_rfl) Try.func19
    (ChangeSpec.witness6 (enc := enc) (C := Try.checked) false ⟨#[], #[.agg #[.int .i64 0, .int .i64 0, .int .i64 0, .int .i64 0, .int .i64 0, .int .i64 0, .int .i64 0, .int .i64 0, .int .i64 0, .int .i64 0, .int .i64 0], .agg #[.int .i64 0, .int .i64 0, .int .i64 0, .int .i64 0, .int .i64 0, .int .i64 0, .int .i64 0, .int .i64 0, .int .i64 0, .int .i64 0, .int .i64 0]], []⟩ 8 (by as_aux_lemma => kernel_rfl) (by as_aux_lemma => kernel_rfl) (by as_aux_lemma => kernel_rfl) (by as_aux_lemma => kernel_rfl) (by as_aux_lemma => kernel_rfl))
    laidOut rfl (by as_aux_lemma => kernel_rfl) (by as_aux_lemma => kernel_rfl) boolType
    (fun ds h => by
      match ds, h with
      | [_, _], _ => rfl)
    ?_
  intro W base args ds q hval hA
  rw [Try.params19] at hA hval
  obtain ⟨v0, vs0, d0, ds0, p0, q0, hargs, rfl, rfl, h0, r0⟩ := trodAll_cons hA
  obtain ⟨v1, vs1, d1, ds1, p1, q1, rfl, rfl, rfl, h1, r1⟩ := trodAll_cons r0
  obtain ⟨rfl, rfl, rfl⟩ := trodAll_nil r1
  obtain rfl : args = #[v0, v1] := by cases args; simp_all
  obtain ⟨a0, rfl⟩ := open_packet (hval 0 48 v0 rfl rfl) h0
  obtain ⟨a1, rfl⟩ := open_packet (hval 1 48 v1 rfl rfl) h1
  exact fits_walk a0 a1 W

theorem fits_facts : joinedFacts Try.pinned.checked.prog 19 Try.f19 Rows.fnExactFitsSpec Rows.fnExactFitsRow = true :=
  facts_of (P := Try.prog) (by as_aux_lemma => kernel_rfl) laidOut mapsRow (by as_aux_lemma => kernel_rfl) (by as_aux_lemma => kernel_rfl) rfl noStops rfl noKnobs (by as_aux_lemma => kernel_rfl) (by as_aux_lemma => kernel_rfl) (by as_aux_lemma => kernel_rfl) (by as_aux_lemma => kernel_rfl) (by as_aux_lemma => kernel_rfl) (by as_aux_lemma => kernel_rfl) (by as_aux_lemma => kernel_rfl) (by as_aux_lemma => kernel_rfl) (by as_aux_lemma => kernel_rfl) rfl (by as_aux_lemma => kernel_rfl) (by as_aux_lemma => kernel_rfl) (by as_aux_lemma => kernel_rfl) keysPlain rfl heard enters finals isMake rfl rfl rfl (by as_aux_lemma => kernel_rfl) (by as_aux_lemma => kernel_rfl)

/-- The given statement. -/
theorem fits_holds : Rows.FnExactFitsSaid :=
  OpenClaim.holds_of_wide 19 Try.f19 rfl rfl rfl rfl rfl rfl rfl ⟨rfl, rfl, rfl, rfl, rfl⟩ rfl rfl rfl rfl rfl (by as_aux_lemma => kernel_rfl) Try.func19 fits_facts
    (of_decide_eq_true (by as_aux_lemma => kernel_rfl)) (by unfold Func.isWrapper; first | (rw [if_pos (by decide +kernel)]; kernel_rfl) | (rw [if_neg (by decide +kernel)]; exact ⟨rfl, rfl⟩))
    (fun os started H enc _ => fits_lifted os started H enc)
#print axioms fits_holds
end Go.Proofs.Ytkmjemdcmonllaa
