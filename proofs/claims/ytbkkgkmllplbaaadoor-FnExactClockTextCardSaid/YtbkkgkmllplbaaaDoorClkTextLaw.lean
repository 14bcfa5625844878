/- For every clock the program's ClockText answers as the reference. -/
import Derived.Test.YtbkkgkmllplbaaaDoorDecI
import Derived.Test.YtbkkgkmllplbaaaDoorFrameL
import Derived.Test.YtbkkgkmllplbaaaDoorTie
import Derived.Test.YtbkkgkmllplbaaaDoorCards
import Derived.LaidSub
import Derived.MakeChecks
namespace Go.Proofs.YtbkkgkmllplbaaaDoor
open Go.ChangeShapes Go.WideShapes Go.ChangeAt Go.RowKit
set_option linter.unusedVariables false
set_option linter.unusedSimpArgs false

theorem pow_of {W : World} {l : List (String × DataW Unit)} (h : laidMetH Tryd.prog l W) (hm : l.filter (fun x => x.1 == "internal/strconv.uint64pow10") = [("internal/strconv.uint64pow10", Lib.tabData .u64 Lib.pow10Tab)]) : Pow W := by
  have h1 := h.filter (fun x => x.1 == "internal/strconv.uint64pow10")
  rw [hm] at h1
  rw [Go.MakeChecks.laidMetH_plain _ _ _ (by rfl)] at h1
  exact Lib.tabIs_of_head (g := 4) (t := 123) (e := 97) (n := 20) (by kernel_rfl) (by kernel_rfl) (by kernel_rfl) (by kernel_rfl) (by kernel_rfl) (by kernel_rfl) h1
set_option maxHeartbeats 1000000 in
theorem clockText_walk (W : World) (hp : Pow W) (c : Ck) :
    Calls Tryd.prog 3 #[.agg #[.int .i64 c.st, .int .i64 c.off, .int .i64 c.fr, .int .i64 c.poll, .int .i64 c.calm]] W fun e w' => e = .returned (.bool true) ∧ Below W.heap.size W w' := by
  have HS := Lib.hid (fun w => clockText_spec c w)
  have HI := Lib.hid (fun w h => clockText_impl c w h)
  obtain ⟨s, hs⟩ : ∃ s, c.text = s := ⟨_, rfl⟩
  simp only [hs] at HS HI
  clear hs
  have Q := blk_new W (.cells #[.int .i64 c.st, .int .i64 c.off, .int .i64 c.fr, .int .i64 c.poll, .int .i64 c.calm] 23)
  have g0 : Below W.heap.size W (W.alloc (.cells #[.int .i64 c.st, .int .i64 c.off, .int .i64 c.fr, .int .i64 c.poll, .int .i64 c.calm] 23)) := by go_grown
  go_enter Tryd.func3, Tryd.ntmps3
  go_wp2_with fail
  refine (toClock_c c _).mono ?_
  rintro e w1 ⟨rfl, hb1⟩
  go_wp2_with fail
  refine (HS.out _).mono ?_
  rintro e w2 ⟨rfl, hb2⟩
  have X := ck_cells (blk_next hb2 (blk_next hb1 Q))
  have g2 := grow_next (grow_next g0 hb1) hb2
  go_wp2_with fail
  refine (toClock_c c _).mono ?_
  rintro e w3 ⟨rfl, hb3⟩
  have g3 := grow_next g2 hb3
  go_wp2_with fail
  refine (HI.out _ (hp.next g3)).mono ?_
  rintro e w4 ⟨rfl, hb4⟩
  go_wp2_with fail
  go_returns
  exact ⟨rfl, grow_next g3 hb4⟩
theorem clockText_met (os : Os) (args : Array Value) : laidMetH Tryd.prog Rows.fnExactClockTextRow.laid ((World.doorLaid Tryd.prog 400 os).forCall (fun _ _ => 0) ⟨#[], args, []⟩).memory :=
  laidMetH_of_parts3 (fuel := 8) (laidMet_of_run' 8 (by kernel_rfl) (by kernel_rfl)) (by kernel_rfl) (by kernel_rfl)
set_option maxRecDepth 100000 in
theorem clockText_lifted (os : Os) (started : os.Started) (H : Type) (enc : TypeId × Value → H) :
    ReturnsInHanded {} Tryd.checked os 3 .any (fun w args => (Rows.fnExactClockTextSpec.pre enc Tryd.prog Tryd.f3 [] false w args ∧ laidMetH Tryd.prog Rows.fnExactClockTextRow.laid w) ∧ sizedMet enc Tryd.prog Tryd.f3 (OpenSpec.ofChange Rows.fnExactClockTextSpec) false w args) (Rows.fnExactClockTextSpec.post enc Tryd.prog Tryd.f3 false true false false) := by
  refine lifted_of_walk_laid (C := Tryd.checked) own started (by as_aux_lemma => kernel_rfl) Tryd.func3
    (ChangeSpec.witness_shaped (enc := enc) (C := Tryd.checked) (os := os) (X := fun w _ => laidMetH Tryd.prog Rows.fnExactClockTextRow.laid w) false (World.doorLaid Tryd.prog 400 os) #[.agg #[.int .i64 0, .int .i64 0, .int .i64 0, .int .i64 0, .int .i64 0]] 8 rfl (World.shaped_of_RefB (by kernel_rfl) (by kernel_rfl)) (by kernel_rfl) (by kernel_rfl) (by kernel_rfl) (clockText_met os _))
    laidOut (by as_aux_lemma => kernel_rfl) (by as_aux_lemma => kernel_rfl) rfl boolType
    (fun ds gs h hg => by
      match ds, gs, h, hg with
      | [_], [], _, _ => rfl)
    ?_
  intro W base args ds q hval hA hL
  have laidRow : Rows.fnExactClockTextRow.laid = Rows.fnExactClockTextRow.laid := rfl
  have hp := pow_of hL (by rfl)
  clear hL
  rw [Tryd.params3] at hA hval
  obtain ⟨v0, vs0, d0, ds0, p0, q0, hargs, rfl, rfl, h0, r0⟩ := trodAll_cons hA
  obtain ⟨rfl, rfl, rfl⟩ := trodAll_nil r0
  obtain rfl : args = #[v0] := by cases args; simp_all
  obtain ⟨a0, rfl⟩ := open_clock (hval 0 23 v0 rfl rfl) h0
  exact clockText_walk W hp a0

set_option maxHeartbeats 4000000 in
theorem clockText_facts : joinedFacts Tryd.pinned.checked.prog 3 Tryd.f3 Rows.fnExactClockTextSpec Rows.fnExactClockTextRow = true :=
  facts_of (P := Tryd.prog) (by as_aux_lemma => kernel_rfl) laidOut mapsRow (by as_aux_lemma => kernel_rfl) (by as_aux_lemma => kernel_rfl) rfl noStops rfl noKnobs (by as_aux_lemma => kernel_rfl) (by as_aux_lemma => kernel_rfl) (by as_aux_lemma => kernel_rfl) (by as_aux_lemma => kernel_rfl) (by as_aux_lemma => kernel_rfl) (by as_aux_lemma => kernel_rfl) (by as_aux_lemma => kernel_rfl) (by as_aux_lemma => kernel_rfl) (by as_aux_lemma => kernel_rfl) (by as_aux_lemma => kernel_rfl) (by as_aux_lemma => kernel_rfl) (by as_aux_lemma => kernel_rfl) (by as_aux_lemma => kernel_rfl) keysPlain rfl heard enters finals isMake rfl rfl rfl (by as_aux_lemma => kernel_rfl) (by as_aux_lemma => kernel_rfl)

theorem clockText_row : Rows.FnExactClockTextSaid :=
  OpenClaim.holds_of_wide 3 Tryd.f3 rfl rfl rfl rfl rfl rfl rfl ⟨rfl, rfl, rfl, rfl, rfl⟩ rfl rfl rfl rfl rfl (by as_aux_lemma => kernel_rfl) Tryd.func3 clockText_facts
    (of_decide_eq_true (by as_aux_lemma => kernel_rfl)) (by unfold Func.isWrapper; first | (rw [if_pos (by decide +kernel)]; kernel_rfl) | (rw [if_neg (by decide +kernel)]; exact ⟨rfl, rfl⟩))
    (fun os started H enc _ => clockText_lifted os started H enc)

/-- The given statement. -/
theorem clockText_holds : Rows.FnExactClockTextCardSaid :=
  Claim7.holds_tied_plain_at .later [] Rows.fnExactClockTextCard.laidKinds true Rows.fnExactClockTextCard.stood.harness true
    clockText_row (fun _ h => by cases h) (by kernel_rfl) (fun _ h => by cases h) fnExactClockText_row_tie rfl ⟨rfl, rfl⟩ (by kernel_rfl) rfl
    (fun f fn hf hfn => by
      obtain rfl : f = 3 := Option.some.inj ((show Tryd.prog.funcNamed "loop.example/g00656/laws.FnExactClockText" = some 3 by kernel_rfl).symm.trans hf) |>.symm
      obtain rfl : fn = Tryd.f3 := (Option.some.inj (Tryd.func3.symm.trans hfn)).symm
      exact ⟨by kernel_rfl, fun j t ht => noStandIn (by rw [Tryd.params3]; kernel_rfl) j t ht⟩)
    (by kernel_rfl)
#print axioms clockText_holds
end Go.Proofs.YtbkkgkmllplbaaaDoor
