/- For every string the program's ReadStamp answers as the reference. -/
import Derived.Test.YtkmjemdcmonllaaGet
import Derived.Test.YtkmjemdcmonllaaStamp
import Derived.Deep.QuietTactic
import Derived.BigQuiet
import Derived.WalkSmall
namespace Go.Proofs.Ytkmjemdcmonllaa
open Go.ChangeShapes Go.WideShapes Go.ChangeAt Go.RowKit
set_option linter.unusedVariables false

/-- The time that eight bytes would tell. -/
def stampAt (hi lo : Int) : Int := hi * 1000000 + (lo * 1000000 + 4294967295) / 4294967296
def stampOk (s : ByteArray) : Bool := decide (s.size = 8) && ((stampB (stampAt (getB (s.extract 0 4)) (getB (s.extract 4 8)))).toList == s.toList)
def stampT (s : ByteArray) : Int := if stampOk s then stampAt (getB (s.extract 0 4)) (getB (s.extract 4 8)) else 0

theorem below_drew {B : Nat} {a w : World} (h : Below B a w) (n : Nat) : Below B a (w.drewN n) := h.trans ⟨rfl, rfl, rfl, Nat.le_refl _, fun _ _ => rfl⟩

theorem divUp_parts (a : Int) (h0 : 0 ≤ a) (h1 : a < 4611686018427387904) (w : World) :
    Calls Try.prog 62 #[.int .i64 a, .int .i64 4294967296] w fun e w' => e = .returned (.int .i64 ((a + 4294967295) / 4294967296)) ∧ w = w' := by
  go_enter Try.func62, Try.ntmps62
  go_wp2
  go_returns
  exact ⟨ret_int (by rw [show a + 4294967296 - 1 = a + 4294967295 from by omega]), rfl⟩

theorem readStamp_spec (s : ByteArray) (w : World) :
    Calls Try.prog 25 #[.string s] w fun e w' => e = .returned (.tuple #[.int .i64 (stampT s), .bool (stampOk s)]) ∧ Below w.heap.size w w' := by
  by_cases h0 : s.size = 8
  · obtain ⟨b10, b11⟩ := getB_bound (s.extract 0 4) (by simp; omega)
    obtain ⟨b20, b21⟩ := getB_bound (s.extract 4 8) (by simp; omega)
    have T1 : (getB (s.extract 4 8) * 1000000 + 4294967295).tdiv 4294967296 = (getB (s.extract 4 8) * 1000000 + 4294967295) / 4294967296 := Int.tdiv_eq_ediv_of_nonneg (by omega)
    have W1 : wrap64 (getB (s.extract 0 4) * 1000000) = getB (s.extract 0 4) * 1000000 := IntWalk.wrap64_in _ (by omega)
    have W2 : wrap64 (getB (s.extract 4 8) * 1000000) = getB (s.extract 4 8) * 1000000 := IntWalk.wrap64_in _ (by omega)
    have W3 : wrap64 (getB (s.extract 4 8) * 1000000 + 4294967295) = getB (s.extract 4 8) * 1000000 + 4294967295 := IntWalk.wrap64_in _ (by omega)
    have W4 : wrap64 ((getB (s.extract 4 8) * 1000000 + 4294967295) / 4294967296) = (getB (s.extract 4 8) * 1000000 + 4294967295) / 4294967296 := IntWalk.wrap64_in _ (by omega)
    have W5 : wrap64 (getB (s.extract 0 4) * 1000000 + (getB (s.extract 4 8) * 1000000 + 4294967295) / 4294967296) = getB (s.extract 0 4) * 1000000 + (getB (s.extract 4 8) * 1000000 + 4294967295) / 4294967296 := IntWalk.wrap64_in _ (by omega)
    by_cases h1 : ((stampB (getB (s.extract 0 4) * 1000000 + (getB (s.extract 4 8) * 1000000 + 4294967295) / 4294967296)).toList == s.toList) = true
    · have e1 : stampOk s = true := by unfold stampOk stampAt; rw [h1]; simp [h0]
      have e2 : stampT s = getB (s.extract 0 4) * 1000000 + (getB (s.extract 4 8) * 1000000 + 4294967295) / 4294967296 := by unfold stampT; rw [e1]; rfl
      rw [e1, e2]
      clear e1 e2
      go_enter Try.func25, Try.ntmps25
      go_wp2_with fail
      go_quiet ((go_at_call 64; exact Calls.quiet_of_same ((get_spec _ (by simp; omega) _).mono fun e w' h => ⟨h.1, h.2.symm⟩)))
      go_wp2_with (go_at_call 29; refine (stampBytes_spec _ _).mono ?_; rintro e w1 ⟨rfl, hb1⟩)
      go_returns
      exact ⟨rfl, (below_drew (Below.refl _ _) _).trans hb1⟩
    · have h1 : ((stampB (getB (s.extract 0 4) * 1000000 + (getB (s.extract 4 8) * 1000000 + 4294967295) / 4294967296)).toList == s.toList) = false := by simpa using h1
      have e1 : stampOk s = false := by unfold stampOk stampAt; rw [h1]; simp
      have e2 : stampT s = 0 := by unfold stampT; rw [e1]; rfl
      rw [e1, e2]
      clear e1 e2
      go_enter Try.func25, Try.ntmps25
      go_wp2_with fail
      go_quiet ((go_at_call 64; exact Calls.quiet_of_same ((get_spec _ (by simp; omega) _).mono fun e w' h => ⟨h.1, h.2.symm⟩)))
      go_wp2_with (go_at_call 29; refine (stampBytes_spec _ _).mono ?_; rintro e w1 ⟨rfl, hb1⟩)
      go_returns
      exact ⟨rfl, (below_drew (Below.refl _ _) _).trans hb1⟩
  · have e1 : stampOk s = false := by unfold stampOk; simp [h0]
    have e2 : stampT s = 0 := by unfold stampT; rw [e1]; rfl
    rw [e1, e2]
    clear e1 e2
    have q1 : ((s.size : Int) == 8) = false := by simp; omega
    have q2 : ((s.size : Int) != 8) = true := by simp; omega
    go_enter Try.func25, Try.ntmps25
    go_wp2_with fail
    go_returns
    exact ⟨rfl, Below.refl _ _⟩

theorem readStamp_impl (s : ByteArray) (w : World) :
    Calls Try.prog 24 #[.string s] w fun e w' => e = .returned (.tuple #[.int .i64 (stampT s), .bool (stampOk s)]) ∧ Below w.heap.size w w' := by
  by_cases h0 : s.size = 8
  · obtain ⟨b10, b11⟩ := getB_bound (s.extract 0 4) (by simp; omega)
    obtain ⟨b20, b21⟩ := getB_bound (s.extract 4 8) (by simp; omega)
    have T1 : (getB (s.extract 4 8) * 1000000 + 4294967295).tdiv 4294967296 = (getB (s.extract 4 8) * 1000000 + 4294967295) / 4294967296 := Int.tdiv_eq_ediv_of_nonneg (by omega)
    have W1 : wrap64 (getB (s.extract 0 4) * 1000000) = getB (s.extract 0 4) * 1000000 := IntWalk.wrap64_in _ (by omega)
    have W2 : wrap64 (getB (s.extract 4 8) * 1000000) = getB (s.extract 4 8) * 1000000 := IntWalk.wrap64_in _ (by omega)
    have W3 : wrap64 (getB (s.extract 4 8) * 1000000 + 4294967295) = getB (s.extract 4 8) * 1000000 + 4294967295 := IntWalk.wrap64_in _ (by omega)
    have W4 : wrap64 ((getB (s.extract 4 8) * 1000000 + 4294967295) / 4294967296) = (getB (s.extract 4 8) * 1000000 + 4294967295) / 4294967296 := IntWalk.wrap64_in _ (by omega)
    have W5 : wrap64 (getB (s.extract 0 4) * 1000000 + (getB (s.extract 4 8) * 1000000 + 4294967295) / 4294967296) = getB (s.extract 0 4) * 1000000 + (getB (s.extract 4 8) * 1000000 + 4294967295) / 4294967296 := IntWalk.wrap64_in _ (by omega)
    by_cases h1 : ((stampB (getB (s.extract 0 4) * 1000000 + (getB (s.extract 4 8) * 1000000 + 4294967295) / 4294967296)).toList == s.toList) = true
    · have e1 : stampOk s = true := by unfold stampOk stampAt; rw [h1]; simp [h0]
      have e2 : stampT s = getB (s.extract 0 4) * 1000000 + (getB (s.extract 4 8) * 1000000 + 4294967295) / 4294967296 := by unfold stampT; rw [e1]; rfl
      rw [e1, e2]
      clear e1 e2
      go_enter Try.func24, Try.ntmps24
      go_wp2_with (first | (go_at_call 63; refine (get_impl _ (by simp; omega) _).mono ?_; rintro e w1 ⟨rfl, rfl⟩) | (go_at_call 62; refine (divUp_parts _ (by omega) (by omega) _).mono ?_; rintro e w1 ⟨rfl, rfl⟩) | (go_at_call 22; refine (stampBytes_impl _ _).mono ?_; rintro e w1 ⟨rfl, hb1⟩))
      go_returns
      exact ⟨rfl, hb1⟩
    · have h1 : ((stampB (getB (s.extract 0 4) * 1000000 + (getB (s.extract 4 8) * 1000000 + 4294967295) / 4294967296)).toList == s.toList) = false := by simpa using h1
      have e1 : stampOk s = false := by unfold stampOk stampAt; rw [h1]; simp
      have e2 : stampT s = 0 := by unfold stampT; rw [e1]; rfl
      rw [e1, e2]
      clear e1 e2
      go_enter Try.func24, Try.ntmps24
      go_wp2_with (first | (go_at_call 63; refine (get_impl _ (by simp; omega) _).mono ?_; rintro e w1 ⟨rfl, rfl⟩) | (go_at_call 62; refine (divUp_parts _ (by omega) (by omega) _).mono ?_; rintro e w1 ⟨rfl, rfl⟩) | (go_at_call 22; refine (stampBytes_impl _ _).mono ?_; rintro e w1 ⟨rfl, hb1⟩))
      go_returns
      exact ⟨rfl, hb1⟩
  · have e1 : stampOk s = false := by unfold stampOk; simp [h0]
    have e2 : stampT s = 0 := by unfold stampT; rw [e1]; rfl
    rw [e1, e2]
    clear e1 e2
    have q1 : ((s.size : Int) == 8) = false := by simp; omega
    have q2 : ((s.size : Int) != 8) = true := by simp; omega
    go_enter Try.func24, Try.ntmps24
    go_wp2_with fail
    go_returns
    exact ⟨rfl, Below.refl _ _⟩

theorem readStamp_walk (s : ByteArray) (hs : s.size ≤ maxLen) (w : World) :
    Calls Try.prog 11 #[.string s] w fun e w' => e = .returned (.bool true) ∧ Below w.heap.size w w' := by
  unfold maxLen at hs
  by_cases hbig : s.size ≤ 1048576
  · go_enter Try.func11, Try.ntmps11
    go_wp2_with (first | (go_at_call 25; refine (readStamp_spec _ _).mono ?_; rintro e w1 ⟨rfl, hb1⟩) | (go_at_call 24; refine (readStamp_impl _ _).mono ?_; rintro e w2 ⟨rfl, hb2⟩))
    go_returns
    exact ⟨rfl, hb1.trans (hb2.mono hb1.size)⟩
  · go_enter Try.func11, Try.ntmps11
    go_wp2_with fail
    go_returns
    exact ⟨rfl, Below.refl _ _⟩

set_option maxRecDepth 100000 in
theorem readStamp_lifted (os : Os) (started : os.Started) (H : Type) (enc : TypeId × Value → H) :
    ReturnsInHanded {} Try.checked os 11 .any (Rows.fnExactReadStampSpec.pre6 enc Try.prog Try.f11 Rows.fnExactReadStampRow.domain false) (Rows.fnExactReadStampSpec.post enc Try.prog Try.f11 false true false false) := by
  refine lifted_of_walk (C := Try.checked) own started (by as_aux_lemma => kernel_rfl) Try.func11
    (ChangeSpec.witness6 (enc := enc) (C := Try.checked) false ⟨#[], #[.string ByteArray.empty], []⟩ 8 (by as_aux_lemma => kernel_rfl) (by as_aux_lemma => kernel_rfl) (by as_aux_lemma => kernel_rfl) (by as_aux_lemma => kernel_rfl) (by as_aux_lemma => kernel_rfl))
    laidOut rfl (by as_aux_lemma => kernel_rfl) (by as_aux_lemma => kernel_rfl) boolType
    (fun ds h => by
      match ds, h with
      | [_], _ => rfl)
    ?_
  intro W base args ds q hval hA
  rw [Try.params11] at hA hval
  obtain ⟨v0, vs0, d0, ds0, p0, q0, hargs, rfl, rfl, h0, r0⟩ := trodAll_cons hA
  obtain ⟨rfl, rfl, rfl⟩ := trodAll_nil r0
  obtain rfl : args = #[v0] := by cases args; simp_all
  obtain ⟨a0, rfl, rfl, rfl, w0⟩ := Go.ChangeMaps.open_string Try.underlying9 (hval 0 9 v0 rfl rfl) h0
  exact readStamp_walk a0 w0 W

theorem readStamp_facts : joinedFacts Try.pinned.checked.prog 11 Try.f11 Rows.fnExactReadStampSpec Rows.fnExactReadStampRow = true :=
  facts_of (P := Try.prog) (by as_aux_lemma => kernel_rfl) laidOut mapsRow (by as_aux_lemma => kernel_rfl) (by as_aux_lemma => kernel_rfl) rfl noStops rfl noKnobs (by as_aux_lemma => kernel_rfl) (by as_aux_lemma => kernel_rfl) (by as_aux_lemma => kernel_rfl) (by as_aux_lemma => kernel_rfl) (by as_aux_lemma => kernel_rfl) (by as_aux_lemma => kernel_rfl) (by as_aux_lemma => kernel_rfl) (by as_aux_lemma => kernel_rfl) (by as_aux_lemma => kernel_rfl) rfl (by as_aux_lemma => kernel_rfl) (by as_aux_lemma => kernel_rfl) (by as_aux_lemma => kernel_rfl) keysPlain rfl heard enters finals isMake rfl rfl rfl (by as_aux_lemma => kernel_rfl) (by as_aux_lemma => kernel_rfl)

/-- The given statement. -/
theorem readStamp_holds : Rows.FnExactReadStampSaid :=
  OpenClaim.holds_of_wide 11 Try.f11 rfl rfl rfl rfl rfl rfl rfl ⟨rfl, rfl, rfl, rfl, rfl⟩ rfl rfl rfl rfl rfl (by as_aux_lemma => kernel_rfl) Try.func11 readStamp_facts
    (of_decide_eq_true (by as_aux_lemma => kernel_rfl)) (by unfold Func.isWrapper; first | (rw [if_pos (by decide +kernel)]; kernel_rfl) | (rw [if_neg (by decide +kernel)]; exact ⟨rfl, rfl⟩))
    (fun os started H enc _ => readStamp_lifted os started H enc)
#print axioms readStamp_holds
end Go.Proofs.Ytkmjemdcmonllaa
