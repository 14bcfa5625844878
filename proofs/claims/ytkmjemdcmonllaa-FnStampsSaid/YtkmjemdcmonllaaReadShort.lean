/- For every string the program's ReadShort answers as the reference. -/
import Derived.Test.YtkmjemdcmonllaaGet
namespace Go.Proofs.Ytkmjemdcmonllaa
open Go.ChangeShapes Go.WideShapes Go.ChangeAt Go.RowKit
set_option linter.unusedVariables false

/-- The length that four bytes tell, and whether they tell one. -/
def shortOk (s : ByteArray) : Bool := decide (s.size = 4 ∧ getB s ≤ 4294901760)
def shortV (s : ByteArray) : Int := if shortOk s then getB s * 1000000 / 65536 else 0

theorem readShort_spec (s : ByteArray) (w : World) :
    Calls Try.prog 34 #[.string s] w fun e w' => e = .returned (.tuple #[.int .i64 (shortV s), .bool (shortOk s)]) ∧ w = w' := by
  by_cases h0 : s.size = 4
  · have hb := getB_bound s (by omega)
    obtain ⟨g, hg⟩ : ∃ g, getB s = g := ⟨_, rfl⟩
    have hb0 : 0 ≤ g := by rw [← hg]; exact hb.1
    have hb1 : g < 4294967296 := by rw [← hg]; exact hb.2
    by_cases h1 : g ≤ 4294901760
    · have e1 : shortOk s = true := by unfold shortOk; rw [hg]; simp [h0, h1]
      have e2 : shortV s = g * 1000000 / 65536 := by unfold shortV; rw [e1, hg]; rfl
      rw [e1, e2]
      clear hb e1 e2
      have Hg := Lib.hid hg
      clear hg
      go_enter Try.func34, Try.ntmps34
      go_wp2_with (first | (go_at_call 71; go_in) | (go_at_call 64; refine (get_spec _ (by omega) _).mono ?_; rw [Hg.out]; rintro e w1 ⟨rfl, rfl⟩))
      go_returns
      exact ⟨rfl, rfl⟩
    · have e1 : shortOk s = false := by unfold shortOk; rw [hg]; simp [h0]; omega
      have e2 : shortV s = 0 := by unfold shortV; rw [e1]; rfl
      rw [e1, e2]
      clear hb e1 e2
      have Hg := Lib.hid hg
      clear hg
      go_enter Try.func34, Try.ntmps34
      go_wp2_with (first | (go_at_call 71; go_in) | (go_at_call 64; refine (get_spec _ (by omega) _).mono ?_; rw [Hg.out]; rintro e w1 ⟨rfl, rfl⟩))
      go_returns
      exact ⟨rfl, rfl⟩
  · have e1 : shortOk s = false := by unfold shortOk; simp [h0]
    have e2 : shortV s = 0 := by unfold shortV; rw [e1]; rfl
    rw [e1, e2]
    clear e1 e2
    have q1 : ((s.size : Int) == 4) = false := by simp; omega
    have q2 : ((s.size : Int) != 4) = true := by simp; omega
    go_enter Try.func34, Try.ntmps34
    go_wp2_with fail
    go_returns
    exact ⟨rfl, rfl⟩

theorem readShort_impl (s : ByteArray) (w : World) :
    Calls Try.prog 33 #[.string s] w fun e w' => e = .returned (.tuple #[.int .i64 (shortV s), .bool (shortOk s)]) ∧ w = w' := by
  by_cases h0 : s.size = 4
  · have hb := getB_bound s (by omega)
    obtain ⟨g, hg⟩ : ∃ g, getB s = g := ⟨_, rfl⟩
    have hb0 : 0 ≤ g := by rw [← hg]; exact hb.1
    have hb1 : g < 4294967296 := by rw [← hg]; exact hb.2
    by_cases h1 : g ≤ 4294901760
    · have e1 : shortOk s = true := by unfold shortOk; rw [hg]; simp [h0, h1]
      have e2 : shortV s = g * 1000000 / 65536 := by unfold shortV; rw [e1, hg]; rfl
      rw [e1, e2]
      clear hb e1 e2
      have Hg := Lib.hid hg
      clear hg
      go_enter Try.func33, Try.ntmps33
      go_wp2_with (go_at_call 63; refine (get_impl _ (by omega) _).mono ?_; rw [Hg.out]; rintro e w1 ⟨rfl, rfl⟩)
      go_returns
      exact ⟨rfl, rfl⟩
    · have e1 : shortOk s = false := by unfold shortOk; rw [hg]; simp [h0]; omega
      have e2 : shortV s = 0 := by unfold shortV; rw [e1]; rfl
      rw [e1, e2]
      clear hb e1 e2
      have Hg := Lib.hid hg
      clear hg
      go_enter Try.func33, Try.ntmps33
      go_wp2_with (go_at_call 63; refine (get_impl _ (by omega) _).mono ?_; rw [Hg.out]; rintro e w1 ⟨rfl, rfl⟩)
      go_returns
      exact ⟨rfl, rfl⟩
  · have e1 : shortOk s = false := by unfold shortOk; simp [h0]
    have e2 : shortV s = 0 := by unfold shortV; rw [e1]; rfl
    rw [e1, e2]
    clear e1 e2
    have q1 : ((s.size : Int) == 4) = false := by simp; omega
    have q2 : ((s.size : Int) != 4) = true := by simp; omega
    go_enter Try.func33, Try.ntmps33
    go_wp2_with fail
    go_returns
    exact ⟨rfl, rfl⟩

theorem readShort_walk (s : ByteArray) (hs : s.size ≤ maxLen) (w : World) :
    Calls Try.prog 13 #[.string s] w fun e w' => e = .returned (.bool true) ∧ Below w.heap.size w w' := by
  unfold maxLen at hs
  by_cases hbig : s.size ≤ 1048576
  · go_enter Try.func13, Try.ntmps13
    go_wp2_with (first | (go_at_call 34; refine (readShort_spec _ _).mono ?_; rintro e w1 ⟨rfl, rfl⟩) | (go_at_call 33; refine (readShort_impl _ _).mono ?_; rintro e w1 ⟨rfl, rfl⟩))
    go_returns
    exact ⟨rfl, Below.refl _ _⟩
  · go_enter Try.func13, Try.ntmps13
    go_wp2_with fail
    go_returns
    exact ⟨rfl, Below.refl _ _⟩

set_option maxRecDepth 100000 in
theorem readShort_lifted (os : Os) (started : os.Started) (H : Type) (enc : TypeId × Value → H) :
    ReturnsInHanded {} Try.checked os 13 .any (Rows.fnExactReadShortSpec.pre6 enc Try.prog Try.f13 Rows.fnExactReadShortRow.domain false) (Rows.fnExactReadShortSpec.post enc Try.prog Try.f13 false true false false) := by
  refine lifted_of_walk (C := Try.checked) own started (by as_aux_lemma => kernel_rfl) Try.func13
    (ChangeSpec.witness6 (enc := enc) (C := Try.checked) false ⟨#[], #[.string ByteArray.empty], []⟩ 8 (by as_aux_lemma => kernel_rfl) (by as_aux_lemma => kernel_rfl) (by as_aux_lemma => kernel_rfl) (by as_aux_lemma => kernel_rfl) (by as_aux_lemma => kernel_rfl))
    laidOut rfl (by as_aux_lemma => kernel_rfl) (by as_aux_lemma => kernel_rfl) boolType
    (fun ds h => by
      match ds, h with
      | [_], _ => rfl)
    ?_
  intro W base args ds q hval hA
  rw [Try.params13] at hA hval
  obtain ⟨v0, vs0, d0, ds0, p0, q0, hargs, rfl, rfl, h0, r0⟩ := trodAll_cons hA
  obtain ⟨rfl, rfl, rfl⟩ := trodAll_nil r0
  obtain rfl : args = #[v0] := by cases args; simp_all
  obtain ⟨a0, rfl, rfl, rfl, w0⟩ := Go.ChangeMaps.open_string Try.underlying9 (hval 0 9 v0 rfl rfl) h0
  exact readShort_walk a0 w0 W

theorem readShort_facts : joinedFacts Try.pinned.checked.prog 13 Try.f13 Rows.fnExactReadShortSpec Rows.fnExactReadShortRow = true :=
  facts_of (P := Try.prog) (by as_aux_lemma => kernel_rfl) laidOut mapsRow (by as_aux_lemma => kernel_rfl) (by as_aux_lemma => kernel_rfl) rfl noStops rfl noKnobs (by as_aux_lemma => kernel_rfl) (by as_aux_lemma => kernel_rfl) (by as_aux_lemma => kernel_rfl) (by as_aux_lemma => kernel_rfl) (by as_aux_lemma => kernel_rfl) (by as_aux_lemma => kernel_rfl) (by as_aux_lemma => kernel_rfl) (by as_aux_lemma => kernel_rfl) (by as_aux_lemma => kernel_rfl) rfl (by as_aux_lemma => kernel_rfl) (by as_aux_lemma => kernel_rfl) (by as_aux_lemma => kernel_rfl) keysPlain rfl heard enters finals isMake rfl rfl rfl (by as_aux_lemma => kernel_rfl) (by as_aux_lemma => kernel_rfl)

/-- The given statement. -/
theorem readShort_holds : Rows.FnExactReadShortSaid :=
  OpenClaim.holds_of_wide 13 Try.f13 rfl rfl rfl rfl rfl rfl rfl ⟨rfl, rfl, rfl, rfl, rfl⟩ rfl rfl rfl rfl rfl (by as_aux_lemma => kernel_rfl) Try.func13 readShort_facts
    (of_decide_eq_true (by as_aux_lemma => kernel_rfl)) (by unfold Func.isWrapper; first | (rw [if_pos (by decide +kernel)]; kernel_rfl) | (rw [if_neg (by decide +kernel)]; exact ⟨rfl, rfl⟩))
    (fun os started H enc _ => readShort_lifted os started H enc)
#print axioms readShort_holds
end Go.Proofs.Ytkmjemdcmonllaa
