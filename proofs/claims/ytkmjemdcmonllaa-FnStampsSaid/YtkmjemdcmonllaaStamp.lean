/- For every int64 the program's StampBytes answers as the reference. -/
import Derived.Test.YtkmjemdcmonllaaBytesOf
namespace Go.Proofs.Ytkmjemdcmonllaa
open Go.ChangeShapes Go.WideShapes Go.ChangeAt Go.RowKit
set_option linter.unusedVariables false

/-- A time's stamp; nothing where it is none. -/
def stampB (t : Int) : ByteArray := if 0 ≤ t ∧ t ≤ 4000000000000000 then put4 (t / 1000000) ++ put4 (t % 1000000 * 4294967296 / 1000000) else ⟨#[]⟩

theorem stamp_spec (t : Int) (h0 : 0 ≤ t) (h1 : t ≤ 4000000000000000) (w : World) :
    Calls Try.prog 67 #[.int .i64 t] w fun e w' => e = .returned (.string (stampB t)) ∧ Below w.heap.size w w' := by
  have e : stampB t = put4 (t / 1000000) ++ put4 (t % 1000000 * 4294967296 / 1000000) := if_pos ⟨h0, h1⟩
  rw [e]
  go_enter Try.func67, Try.ntmps67
  go_wp2_with fail
  refine (put_spec _ (by omega) (by omega) _).mono ?_
  rintro e w1 ⟨rfl, hb1⟩
  go_wp2_with fail
  refine (put_spec _ (by omega) (by omega) _).mono ?_
  rintro e w2 ⟨rfl, hb2⟩
  go_wp2_with fail
  go_returns
  exact ⟨rfl, hb1.trans (hb2.mono hb1.size)⟩

theorem stampBytes_spec (t : Int) (w : World) :
    Calls Try.prog 29 #[.int .i64 t] w fun e w' => e = .returned (.string (stampB t)) ∧ Below w.heap.size w w' := by
  by_cases h0 : 0 ≤ t
  · by_cases h1 : t ≤ 4000000000000000
    · go_enter Try.func29, Try.ntmps29
      go_wp2_with (first | (go_at_call 66; go_in) | (go_at_call 72; go_in) | (go_at_call 67; refine (stamp_spec _ (by omega) (by omega) _).mono ?_; rintro e w1 ⟨rfl, hb1⟩))
      go_returns
      exact ⟨rfl, hb1⟩
    · have e : stampB t = ⟨#[]⟩ := if_neg (by omega)
      rw [e]
      go_enter Try.func29, Try.ntmps29
      go_wp2
      go_returns
      exact ⟨rfl, Below.refl _ _⟩
  · have e : stampB t = ⟨#[]⟩ := if_neg (by omega)
    rw [e]
    go_enter Try.func29, Try.ntmps29
    go_wp2
    go_returns
    exact ⟨rfl, Below.refl _ _⟩

theorem secondsOf_yes (t : Int) (h0 : 0 ≤ t) (h1 : t ≤ 4000000000000000) (w : World) :
    Calls Try.prog 27 #[.int .i64 t] w fun e w' => e = .returned (.tuple #[.int .i64 (t / 1000000), .int .i64 (t % 1000000)]) ∧ w = w' := by
  go_enter Try.func27, Try.ntmps27
  go_wp2
  go_returns
  exact ⟨rfl, rfl⟩

theorem secondsOf_no (t : Int) (h : ¬ (0 ≤ t ∧ t ≤ 4000000000000000)) (w : World) :
    Calls Try.prog 27 #[.int .i64 t] w fun e w' => e = .returned (.tuple #[.int .i64 (-1), .int .i64 (-1)]) ∧ w = w' := by
  by_cases h0 : 0 ≤ t
  · have h1 : ¬ t ≤ 4000000000000000 := by omega
    clear h
    go_enter Try.func27, Try.ntmps27
    go_wp2
    go_returns
    exact ⟨rfl, rfl⟩
  · clear h
    go_enter Try.func27, Try.ntmps27
    go_wp2
    go_returns
    exact ⟨rfl, rfl⟩

theorem stampBytes_impl (t : Int) (w : World) :
    Calls Try.prog 22 #[.int .i64 t] w fun e w' => e = .returned (.string (stampB t)) ∧ Below w.heap.size w w' := by
  by_cases h : 0 ≤ t ∧ t ≤ 4000000000000000
  · have e : stampB t = put4 (t / 1000000) ++ put4 (t % 1000000 * 4294967296 / 1000000) := if_pos h
    rw [e]
    have hq : 0 ≤ t / 1000000 := by omega
    go_enter Try.func22, Try.ntmps22
    go_wp2_with fail
    refine (secondsOf_yes t h.1 h.2 _).mono ?_
    rintro e w1 ⟨rfl, rfl⟩
    go_wp2_with fail
    refine (bytesOf4 _ (by omega) (by omega) _).mono ?_
    rintro e w1 ⟨rfl, hb1⟩
    go_wp2_with fail
    refine (bytesOf4 _ (by omega) (by omega) _).mono ?_
    rintro e w2 ⟨rfl, hb2⟩
    go_wp2_with fail
    go_returns
    exact ⟨rfl, hb1.trans (hb2.mono hb1.size)⟩
  · have e : stampB t = ⟨#[]⟩ := if_neg h
    rw [e]
    have h' := h
    clear h
    go_enter Try.func22, Try.ntmps22
    go_wp2_with fail
    refine (secondsOf_no t h' _).mono ?_
    rintro e w1 ⟨rfl, rfl⟩
    go_wp2_with fail
    go_returns
    exact ⟨rfl, Below.refl _ _⟩

theorem stampBytes_walk (d : Int) (_ : (Lit.int .i64 d).wf = true) (w : World) :
    Calls Try.prog 10 #[.int .i64 d] w fun e w' => e = .returned (.bool true) ∧ Below w.heap.size w w' := by
  go_enter Try.func10, Try.ntmps10
  go_wp2_with (first | (go_at_call 29; refine (stampBytes_spec _ _).mono ?_; rintro e w1 ⟨rfl, hb1⟩) | (go_at_call 22; refine (stampBytes_impl _ _).mono ?_; rintro e w2 ⟨rfl, hb2⟩))
  go_returns
  exact ⟨rfl, hb1.trans (hb2.mono hb1.size)⟩

set_option maxRecDepth 100000 in
theorem stampBytes_lifted (os : Os) (started : os.Started) (H : Type) (enc : TypeId × Value → H) :
    ReturnsInHanded {} Try.checked os 10 .any (Rows.fnExactStampBytesSpec.pre6 enc Try.prog Try.f10 Rows.fnExactStampBytesRow.domain false) (Rows.fnExactStampBytesSpec.post enc Try.prog Try.f10 false true false false) := by
  refine lifted_of_walk (C := Try.checked) own started (by as_aux_lemma => kernel_rfl) Try.func10
    (ChangeSpec.witness6 (enc := enc) (C := Try.checked) false ⟨#[], #[.int .i64 0], []⟩ 8 (by as_aux_lemma => kernel_rfl) (by as_aux_lemma => kernel_rfl) (by as_aux_lemma => kernel_rfl) (by as_aux_lemma => kernel_rfl) (by as_aux_lemma => kernel_rfl))
    laidOut rfl (by as_aux_lemma => kernel_rfl) (by as_aux_lemma => kernel_rfl) boolType
    (fun ds h => by
      match ds, h with
      | [_], _ => rfl)
    ?_
  intro W base args ds q hval hA
  rw [Try.params10] at hA hval
  obtain ⟨v0, vs0, d0, ds0, p0, q0, hargs, rfl, rfl, h0, r0⟩ := trodAll_cons hA
  obtain ⟨rfl, rfl, rfl⟩ := trodAll_nil r0
  obtain rfl : args = #[v0] := by cases args; simp_all
  obtain ⟨a0, rfl, rfl, rfl, w0⟩ := open_int Try.underlying2 (hval 0 2 v0 rfl rfl) h0
  exact stampBytes_walk a0 w0 W

theorem stampBytes_facts : joinedFacts Try.pinned.checked.prog 10 Try.f10 Rows.fnExactStampBytesSpec Rows.fnExactStampBytesRow = true :=
  facts_of (P := Try.prog) (by as_aux_lemma => kernel_rfl) laidOut mapsRow (by as_aux_lemma => kernel_rfl) (by as_aux_lemma => kernel_rfl) rfl noStops rfl noKnobs (by as_aux_lemma => kernel_rfl) (by as_aux_lemma => kernel_rfl) (by as_aux_lemma => kernel_rfl) (by as_aux_lemma => kernel_rfl) (by as_aux_lemma => kernel_rfl) (by as_aux_lemma => kernel_rfl) (by as_aux_lemma => kernel_rfl) (by as_aux_lemma => kernel_rfl) (by as_aux_lemma => kernel_rfl) rfl (by as_aux_lemma => kernel_rfl) (by as_aux_lemma => kernel_rfl) (by as_aux_lemma => kernel_rfl) keysPlain rfl heard enters finals isMake rfl rfl rfl (by as_aux_lemma => kernel_rfl) (by as_aux_lemma => kernel_rfl)

/-- The given statement. -/
theorem stampBytes_holds : Rows.FnExactStampBytesSaid :=
  OpenClaim.holds_of_wide 10 Try.f10 rfl rfl rfl rfl rfl rfl rfl ⟨rfl, rfl, rfl, rfl, rfl⟩ rfl rfl rfl rfl rfl (by as_aux_lemma => kernel_rfl) Try.func10 stampBytes_facts
    (of_decide_eq_true (by as_aux_lemma => kernel_rfl)) (by unfold Func.isWrapper; first | (rw [if_pos (by decide +kernel)]; kernel_rfl) | (rw [if_neg (by decide +kernel)]; exact ⟨rfl, rfl⟩))
    (fun os started H enc _ => stampBytes_lifted os started H enc)
#print axioms stampBytes_holds
end Go.Proofs.Ytkmjemdcmonllaa
