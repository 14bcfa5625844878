/- For every int64 the program's ShortBytes answers as the reference. -/
import Derived.Test.YtkmjemdcmonllaaBytesOf
namespace Go.Proofs.Ytkmjemdcmonllaa
open Go.ChangeShapes Go.WideShapes Go.ChangeAt Go.RowKit
set_option linter.unusedVariables false

/-- A length as four bytes; nothing where it is none. -/
def shortB (d : Int) : ByteArray := if 0 ≤ d ∧ d ≤ 65535000000 then put4 ((d * 65536 + 999999) / 1000000) else ⟨#[]⟩

theorem shortBytes_spec (d : Int) (w : World) :
    Calls Try.prog 35 #[.int .i64 d] w fun e w' => e = .returned (.string (shortB d)) ∧ Below w.heap.size w w' := by
  by_cases h0 : 0 ≤ d
  · by_cases h1 : d ≤ 65535000000
    · have e : shortB d = put4 ((d * 65536 + 999999) / 1000000) := if_pos ⟨h0, h1⟩
      rw [e]
      go_enter Try.func35, Try.ntmps35
      go_wp2_with (first | (go_at_call 72; go_in) | (go_at_call 71; go_in) | (go_at_call 73; refine (put_spec _ (by omega) (by omega) _).mono ?_; rintro e w1 ⟨rfl, hb1⟩))
      go_returns
      exact ⟨rfl, hb1⟩
    · have e : shortB d = ⟨#[]⟩ := if_neg (by omega)
      rw [e]
      go_enter Try.func35, Try.ntmps35
      go_wp2
      go_returns
      exact ⟨rfl, Below.refl _ _⟩
  · have e : shortB d = ⟨#[]⟩ := if_neg (by omega)
    rw [e]
    go_enter Try.func35, Try.ntmps35
    go_wp2
    go_returns
    exact ⟨rfl, Below.refl _ _⟩

theorem shortBytes_impl (d : Int) (w : World) :
    Calls Try.prog 31 #[.int .i64 d] w fun e w' => e = .returned (.string (shortB d)) ∧ Below w.heap.size w w' := by
  by_cases h0 : 0 ≤ d
  · by_cases h1 : d ≤ 65535000000
    · have e : shortB d = put4 ((d * 65536 + 999999) / 1000000) := if_pos ⟨h0, h1⟩
      rw [e]
      go_enter Try.func31, Try.ntmps31
      go_wp2_with (first | (go_at_call 70; go_in) | (go_at_call 62; go_in) | (go_at_call 56; rw [show d * 65536 + 1000000 - 1 = d * 65536 + 999999 from by omega]; refine (bytesOf4 _ (by omega) (by omega) _).mono ?_; rintro e w1 ⟨rfl, hb1⟩))
      go_returns
      exact ⟨rfl, hb1⟩
    · have e : shortB d = ⟨#[]⟩ := if_neg (by omega)
      rw [e]
      go_enter Try.func31, Try.ntmps31
      go_wp2
      go_returns
      exact ⟨rfl, Below.refl _ _⟩
  · have e : shortB d = ⟨#[]⟩ := if_neg (by omega)
    rw [e]
    go_enter Try.func31, Try.ntmps31
    go_wp2
    go_returns
    exact ⟨rfl, Below.refl _ _⟩

theorem shortBytes_walk (d : Int) (_ : (Lit.int .i64 d).wf = true) (w : World) :
    Calls Try.prog 12 #[.int .i64 d] w fun e w' => e = .returned (.bool true) ∧ Below w.heap.size w w' := by
  go_enter Try.func12, Try.ntmps12
  go_wp2_with (first | (go_at_call 35; refine (shortBytes_spec _ _).mono ?_; rintro e w1 ⟨rfl, hb1⟩) | (go_at_call 31; refine (shortBytes_impl _ _).mono ?_; rintro e w2 ⟨rfl, hb2⟩))
  go_returns
  exact ⟨rfl, hb1.trans (hb2.mono hb1.size)⟩

set_option maxRecDepth 100000 in
theorem shortBytes_lifted (os : Os) (started : os.Started) (H : Type) (enc : TypeId × Value → H) :
    ReturnsInHanded {} Try.checked os 12 .any (Rows.fnExactShortBytesSpec.pre6 enc Try.prog Try.f12 Rows.fnExactShortBytesRow.domain false) (Rows.fnExactShortBytesSpec.post enc Try.prog Try.f12 false true false false) := by
  refine lifted_of_walk (C := Try.checked) own started (by as_aux_lemma => kernel_rfl) Try.func12
    (ChangeSpec.witness6 (enc := enc) (C := Try.checked) false ⟨#[], #[.int .i64 0], []⟩ 8 (by as_aux_lemma => kernel_rfl) (by as_aux_lemma => kernel_rfl) (by as_aux_lemma => kernel_rfl) (by as_aux_lemma => kernel_rfl) (by as_aux_lemma => kernel_rfl))
    laidOut rfl (by as_aux_lemma => kernel_rfl) (by as_aux_lemma => kernel_rfl) boolType
    (fun ds h => by
      match ds, h with
      | [_], _ => rfl)
    ?_
  intro W base args ds q hval hA
  rw [Try.params12] at hA hval
  obtain ⟨v0, vs0, d0, ds0, p0, q0, hargs, rfl, rfl, h0, r0⟩ := trodAll_cons hA
  obtain ⟨rfl, rfl, rfl⟩ := trodAll_nil r0
  obtain rfl : args = #[v0] := by cases args; simp_all
  obtain ⟨a0, rfl, rfl, rfl, w0⟩ := open_int Try.underlying2 (hval 0 2 v0 rfl rfl) h0
  exact shortBytes_walk a0 w0 W

theorem shortBytes_facts : joinedFacts Try.pinned.checked.prog 12 Try.f12 Rows.fnExactShortBytesSpec Rows.fnExactShortBytesRow = true :=
  facts_of (P := Try.prog) (by as_aux_lemma => kernel_rfl) laidOut mapsRow (by as_aux_lemma => kernel_rfl) (by as_aux_lemma => kernel_rfl) rfl noStops rfl noKnobs (by as_aux_lemma => kernel_rfl) (by as_aux_lemma => kernel_rfl) (by as_aux_lemma => kernel_rfl) (by as_aux_lemma => kernel_rfl) (by as_aux_lemma => kernel_rfl) (by as_aux_lemma => kernel_rfl) (by as_aux_lemma => kernel_rfl) (by as_aux_lemma => kernel_rfl) (by as_aux_lemma => kernel_rfl) rfl (by as_aux_lemma => kernel_rfl) (by as_aux_lemma => kernel_rfl) (by as_aux_lemma => kernel_rfl) keysPlain rfl heard enters finals isMake rfl rfl rfl (by as_aux_lemma => kernel_rfl) (by as_aux_lemma => kernel_rfl)

/-- The given statement. -/
theorem shortBytes_holds : Rows.FnExactShortBytesSaid :=
  OpenClaim.holds_of_wide 12 Try.f12 rfl rfl rfl rfl rfl rfl rfl ⟨rfl, rfl, rfl, rfl, rfl⟩ rfl rfl rfl rfl rfl (by as_aux_lemma => kernel_rfl) Try.func12 shortBytes_facts
    (of_decide_eq_true (by as_aux_lemma => kernel_rfl)) (by unfold Func.isWrapper; first | (rw [if_pos (by decide +kernel)]; kernel_rfl) | (rw [if_neg (by decide +kernel)]; exact ⟨rfl, rfl⟩))
    (fun os started H enc _ => shortBytes_lifted os started H enc)
#print axioms shortBytes_holds
end Go.Proofs.Ytkmjemdcmonllaa
