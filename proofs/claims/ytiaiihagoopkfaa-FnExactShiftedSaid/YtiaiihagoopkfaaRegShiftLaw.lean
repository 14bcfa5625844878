/- For every number and answer the program's Shifted answers as the reference. -/
import Derived.Test.YtiaiihagoopkfaaRegOps
namespace Go.Proofs.Ytiaiihagoopkfaa
open Go.ChangeShapes Go.WideShapes Go.ChangeAt Go.RowKit

theorem exShifted_walk (n : Int) (_ : (Lit.int .i64 n).wf = true) (g : Bool) (w : World) :
    Calls Try.prog 3 #[.int .i64 n, .bool g] w fun e w' => e = .returned (.bool true) ∧ Below w.heap.size w w' := by
  go_enter Try.func3, Try.ntmps3
  go_wp2_with fail
  refine (shifted_spec n g _).mono ?_
  rintro e w1 ⟨rfl, rfl⟩
  go_wp2_with fail
  refine (shifted_impl n g _).mono ?_
  rintro e w2 ⟨rfl, rfl⟩
  go_wp2_with fail
  go_returns
  exact ⟨rfl, Below.refl _ _⟩

set_option maxRecDepth 100000 in
theorem exShifted_lifted (os : Os) (started : os.Started) (H : Type) (enc : TypeId × Value → H) :
    ReturnsInHanded {} Try.checked os 3 .any (Rows.fnExactShiftedSpec.pre6 enc Try.prog Try.f3 Rows.fnExactShiftedRow.domain false) (Rows.fnExactShiftedSpec.post enc Try.prog Try.f3 false true false false) := by
  refine lifted_of_walk (C := Try.checked) own started (by as_aux_lemma => kernel_rfl) Try.func3
    (ChangeSpec.witness6 (enc := enc) (C := Try.checked) false ⟨#[], #[.int .i64 0, .bool false], []⟩ 8 (by as_aux_lemma => kernel_rfl) (by as_aux_lemma => kernel_rfl) (by as_aux_lemma => kernel_rfl) (by as_aux_lemma => kernel_rfl) (by as_aux_lemma => kernel_rfl))
    laidOut rfl (by as_aux_lemma => kernel_rfl) (by as_aux_lemma => kernel_rfl) boolType
    (fun ds h => by
      match ds, h with
      | [_, _], _ => rfl)
    ?_
  intro W base args ds q hval hA
  rw [Try.params3] at hA hval
  obtain ⟨v0, vs0, d0, ds0, p0, q0, hargs, rfl, rfl, h0, r0⟩ := trodAll_cons hA
  obtain ⟨v1, vs1, d1, ds1, p1, q1, rfl, rfl, rfl, h1, r1⟩ := trodAll_cons r0
  obtain ⟨rfl, rfl, rfl⟩ := trodAll_nil r1
  obtain rfl : args = #[v0, v1] := by cases args; simp_all
  obtain ⟨a0, rfl, rfl, rfl, w0⟩ := open_int Try.underlying2 (hval 0 2 v0 rfl rfl) h0
  obtain ⟨a1, rfl, rfl, rfl⟩ := open_bool Try.underlying4 (hval 1 4 v1 rfl rfl) h1
  exact exShifted_walk a0 w0 a1 W

theorem exShifted_facts : joinedFacts Try.pinned.checked.prog 3 Try.f3 Rows.fnExactShiftedSpec Rows.fnExactShiftedRow = true :=
  facts_of (P := Try.prog) (by as_aux_lemma => kernel_rfl) laidOut mapsRow (by as_aux_lemma => kernel_rfl) (by as_aux_lemma => kernel_rfl) rfl noStops rfl noKnobs (by as_aux_lemma => kernel_rfl) (by as_aux_lemma => kernel_rfl) (by as_aux_lemma => kernel_rfl) (by as_aux_lemma => kernel_rfl) (by as_aux_lemma => kernel_rfl) (by as_aux_lemma => kernel_rfl) (by as_aux_lemma => kernel_rfl) (by as_aux_lemma => kernel_rfl) (by as_aux_lemma => kernel_rfl) rfl (by as_aux_lemma => kernel_rfl) (by as_aux_lemma => kernel_rfl) (by as_aux_lemma => kernel_rfl) keysPlain rfl heard enters finals isMake rfl rfl rfl (by as_aux_lemma => kernel_rfl) (by as_aux_lemma => kernel_rfl)

/-- The given statement. -/
theorem exShifted_holds : Rows.FnExactShiftedSaid :=
  OpenClaim.holds_of_wide 3 Try.f3 rfl rfl rfl rfl rfl rfl rfl ⟨rfl, rfl, rfl, rfl, rfl⟩ rfl rfl rfl rfl rfl (by as_aux_lemma => kernel_rfl) Try.func3 exShifted_facts
    (of_decide_eq_true (by as_aux_lemma => kernel_rfl)) (by unfold Func.isWrapper; first | (rw [if_pos (by decide +kernel)]; kernel_rfl) | (rw [if_neg (by decide +kernel)]; exact ⟨rfl, rfl⟩))
    (fun os started H enc _ => exShifted_lifted os started H enc)
#print axioms exShifted_holds
end Go.Proofs.Ytiaiihagoopkfaa
