/- For every interval the program's IntervalOk answers as the reference. -/
import Derived.Test.YtecedbhjfpgkmaaIv
namespace Go.Proofs.Ytecedbhjfpgkmaa
open Go.ChangeShapes Go.WideShapes Go.ChangeAt Go.RowKit
set_option linter.unusedVariables false
set_option linter.unusedSimpArgs false

theorem ivOk_walk (i : Iv) (W : World) :
    Calls Try.prog 3 #[.agg #[.int .i64 i.lo, .int .i64 i.hi]] W fun e w' => e = .returned (.bool true) ∧ Below W.heap.size W w' := by
  have Q := blk_new W (.cells #[.int .i64 i.lo, .int .i64 i.hi] 23)
  have g0 : Below W.heap.size W (W.alloc (.cells #[.int .i64 i.lo, .int .i64 i.hi] 23)) := by go_grown
  go_enter Try.func3, Try.ntmps3
  go_wp2_with fail
  refine (toInterval_c i _).mono ?_
  rintro e w1 ⟨rfl, hb1⟩
  go_wp2_with fail
  refine (intervalOk_spec i _).mono ?_
  rintro e w2 ⟨rfl, hb2⟩
  obtain ⟨q0, q1⟩ := iv_cells (blk_next hb2 (blk_next hb1 Q))
  have g2 := grow_next (grow_next g0 hb1) hb2
  go_wp2_with fail
  refine (toInterval_c i _).mono ?_
  rintro e w3 ⟨rfl, hb3⟩
  have g3 := grow_next g2 hb3
  go_wp2_with fail
  refine (intervalOk_impl i _).mono ?_
  rintro e w4 ⟨rfl, hb4⟩
  go_wp2_with fail
  go_returns
  exact ⟨rfl, grow_next g3 hb4⟩

set_option maxRecDepth 100000 in
theorem ivOk_lifted (os : Os) (started : os.Started) (H : Type) (enc : TypeId × Value → H) :
    ReturnsInHanded {} Try.checked os 3 .any (Rows.fnExactIntervalOkSpec.pre6 enc Try.prog Try.f3 Rows.fnExactIntervalOkRow.domain false) (Rows.fnExactIntervalOkSpec.post enc Try.prog Try.f3 false true false false) := by
  refine lifted_of_walk (C := Try.checked) own started (by as_aux_lemma => kernel_rfl) Try.func3
    (ChangeSpec.witness6 (enc := enc) (C := Try.checked) false ⟨#[], #[.agg #[.int .i64 0, .int .i64 0]], []⟩ 8 (by as_aux_lemma => kernel_rfl) (by as_aux_lemma => kernel_rfl) (by as_aux_lemma => kernel_rfl) (by as_aux_lemma => kernel_rfl) (by as_aux_lemma => kernel_rfl))
    laidOut rfl (by as_aux_lemma => kernel_rfl) (by as_aux_lemma => kernel_rfl) boolType
    (fun ds h => by
      match ds, h with
      | [_], _ => rfl)
    ?_
  intro W base args ds q hval hA
  rw [Try.params3] at hA hval
  obtain ⟨v0, vs0, d0, ds0, p0, q0, hargs, rfl, rfl, h0, r0⟩ := trodAll_cons hA
  obtain ⟨rfl, rfl, rfl⟩ := trodAll_nil r0
  obtain rfl : args = #[v0] := by cases args; simp_all
  obtain ⟨a0, rfl⟩ := open_interval (hval 0 23 v0 rfl rfl) h0
  exact ivOk_walk a0 W

theorem ivOk_facts : joinedFacts Try.pinned.checked.prog 3 Try.f3 Rows.fnExactIntervalOkSpec Rows.fnExactIntervalOkRow = true :=
  facts_of (P := Try.prog) (by as_aux_lemma => kernel_rfl) laidOut mapsRow (by as_aux_lemma => kernel_rfl) (by as_aux_lemma => kernel_rfl) rfl noStops rfl noKnobs (by as_aux_lemma => kernel_rfl) (by as_aux_lemma => kernel_rfl) (by as_aux_lemma => kernel_rfl) (by as_aux_lemma => kernel_rfl) (by as_aux_lemma => kernel_rfl) (by as_aux_lemma => kernel_rfl) (by as_aux_lemma => kernel_rfl) (by as_aux_lemma => kernel_rfl) (by as_aux_lemma => kernel_rfl) rfl (by as_aux_lemma => kernel_rfl) (by as_aux_lemma => kernel_rfl) (by as_aux_lemma => kernel_rfl) keysPlain rfl heard enters finals isMake rfl rfl rfl (by as_aux_lemma => kernel_rfl) (by as_aux_lemma => kernel_rfl)

/-- The given statement. -/
theorem ivOk_holds : Rows.FnExactIntervalOkSaid :=
  OpenClaim.holds_of_wide 3 Try.f3 rfl rfl rfl rfl rfl rfl rfl ⟨rfl, rfl, rfl, rfl, rfl⟩ rfl rfl rfl rfl rfl (by as_aux_lemma => kernel_rfl) Try.func3 ivOk_facts
    (of_decide_eq_true (by as_aux_lemma => kernel_rfl)) (by unfold Func.isWrapper; first | (rw [if_pos (by decide +kernel)]; kernel_rfl) | (rw [if_neg (by decide +kernel)]; exact ⟨rfl, rfl⟩))
    (fun os started H enc _ => ivOk_lifted os started H enc)
#print axioms ivOk_holds
end Go.Proofs.Ytecedbhjfpgkmaa
