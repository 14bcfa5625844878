/- For every string the program's ReadStamp answers as the reference. -/
import Derived.Test.YtphmlpdohkfpiaaDoorGet
import Derived.Test.YtphmlpdohkfpiaaDoorStamp
import Derived.Deep.QuietTactic
import Derived.BigQuiet
import Derived.WalkSmall
namespace Go.Proofs.YtphmlpdohkfpiaaDoor
open Go.ChangeShapes Go.WideShapes Go.ChangeAt Go.RowKit
set_option linter.unusedVariables false

/-- The time that eight bytes would tell. -/
def stampAt (hi lo : Int) : Int := hi * 1000000 + (lo * 1000000 + 4294967295) / 4294967296
def stampOk (s : ByteArray) : Bool := decide (s.size = 8) && ((stampB (stampAt (getB (s.extract 0 4)) (getB (s.extract 4 8)))).toList == s.toList)
def stampT (s : ByteArray) : Int := if stampOk s then stampAt (getB (s.extract 0 4)) (getB (s.extract 4 8)) else 0

theorem below_drew {B : Nat} {a w : World} (h : Below B a w) (n : Nat) : Below B a (w.drewN n) := h.trans ⟨rfl, rfl, rfl, Nat.le_refl _, fun _ _ => rfl⟩

theorem divUp_parts (a : Int) (h0 : 0 ≤ a) (h1 : a < 4611686018427387904) (w : World) :
    Calls Tryd.prog 86 #[.int .i64 a, .int .i64 4294967296] w fun e w' => e = .returned (.int .i64 ((a + 4294967295) / 4294967296)) ∧ w = w' := by
  go_enter Tryd.func86, Tryd.ntmps86
  go_wp2
  go_returns
  exact ⟨ret_int (by rw [show a + 4294967296 - 1 = a + 4294967295 from by omega]), rfl⟩

theorem readStamp_spec (s : ByteArray) (w : World) :
    Calls Tryd.prog 57 #[.string s] w fun e w' => e = .returned (.tuple #[.int .i64 (stampT s), .bool (stampOk s)]) ∧ Below w.heap.size w w' := by
  by_cases h0 : s.size = 8
  · obtain ⟨b10, b11⟩ := getB_bound (s.extract 0 4) (by simp; omega)
    obtain ⟨b20, b21⟩ := getB_bound (s.extract 4 8) (by simp; omega)
    have T1 : (getB (s.extract 4 8) * 1000000 + 4294967295).tdiv 4294967296 = (getB (s.extract 4 8) * 1000000 + 4294967295) / 4294967296 := Int.tdiv_eq_ediv_of_nonneg (by omega)
    have W1 : wrap64 (getB (s.extract 0 4) * 1000000) = getB (s.extract 0 4) * 1000000 := IntWalk.wrap64_in _ (by omega)
    have W2 : wrap64 (getB (s.extract 4 8) * 1000000) = getB (s.extract 4 8) * 1000000 := IntWalk.wrap64_in _ (by omega)
    have W3 : wrap64 (getB (s.extract 4 8) * 1000000 + 4294967295) = getB (s.extract 4 8) * 1000000 + 4294967295 := IntWalk.wrap64_in _ (by omega)
    have W4 : wrap64 ((getB (s.extract 4 8) * 1000000 + 4294967295) / 4294967296) = (getB (s.extract 4 8) * 1000000 + 4294967295) / 4294967296 := IntWalk.wrap64_in _ (by omega)
    have W5 : wrap64 (getB (s.extract 0 4) * 1000000 + (getB (s.extract 4 8) * 1000000 + 4294967295) / 4294967296) = getB (s.extract 0 4) * 1000000 + (getB (s.extract 4 8) * 1000000 + 4294967295) / 4294967296 := IntWalk.wrap64_in _ (by omega)
    by_cases h1 : ((stampB (getB (s.extract 0 4) * 1000000 + (getB (s.extract 4 8) * 1000000 + 4294967295) / 4294967296)).toList == s.toList) = true
    · have e1 : stampOk s = true := by unfold stampOk stampAt; rw [h1]; simp [h0]
      have e2 : stampT s = getB (s.extract 0 4) * 1000000 + (getB (s.extract 4 8) * 1000000 + 4294967295) / 4294967296 := by unfold stampT; rw [e1]; rfl
      rw [e1, e2]
      clear e1 e2
      go_enter Tryd.func57, Tryd.ntmps57
      go_wp2_with fail
      go_quiet ((go_at_call 56; exact Calls.quiet_of_same ((get_spec _ (by simp; omega) _).mono fun e w' h => ⟨h.1, h.2.symm⟩)))
      go_wp2_with (go_at_call 73; refine (stampBytes_spec _ _).mono ?_; rintro e w1 ⟨rfl, hb1⟩)
      go_returns
      exact ⟨rfl, (below_drew (Below.refl _ _) _).trans hb1⟩
    · have h1 : ((stampB (getB (s.extract 0 4) * 1000000 + (getB (s.extract 4 8) * 1000000 + 4294967295) / 4294967296)).toList == s.toList) = false := by simpa using h1
      have e1 : stampOk s = false := by unfold stampOk stampAt; rw [h1]; simp
      have e2 : stampT s = 0 := by unfold stampT; rw [e1]; rfl
      rw [e1, e2]
      clear e1 e2
      go_enter Tryd.func57, Tryd.ntmps57
      go_wp2_with fail
      go_quiet ((go_at_call 56; exact Calls.quiet_of_same ((get_spec _ (by simp; omega) _).mono fun e w' h => ⟨h.1, h.2.symm⟩)))
      go_wp2_with (go_at_call 73; refine (stampBytes_spec _ _).mono ?_; rintro e w1 ⟨rfl, hb1⟩)
      go_returns
      exact ⟨rfl, (below_drew (Below.refl _ _) _).trans hb1⟩
  · have e1 : stampOk s = false := by unfold stampOk; simp [h0]
    have e2 : stampT s = 0 := by unfold stampT; rw [e1]; rfl
    rw [e1, e2]
    clear e1 e2
    have q1 : ((s.size : Int) == 8) = false := by simp; omega
    have q2 : ((s.size : Int) != 8) = true := by simp; omega
    go_enter Tryd.func57, Tryd.ntmps57
    go_wp2_with fail
    go_returns
    exact ⟨rfl, Below.refl _ _⟩

theorem readStamp_impl (s : ByteArray) (w : World) :
    Calls Tryd.prog 85 #[.string s] w fun e w' => e = .returned (.tuple #[.int .i64 (stampT s), .bool (stampOk s)]) ∧ Below w.heap.size w w' := by
  by_cases h0 : s.size = 8
  · obtain ⟨b10, b11⟩ := getB_bound (s.extract 0 4) (by simp; omega)
    obtain ⟨b20, b21⟩ := getB_bound (s.extract 4 8) (by simp; omega)
    have T1 : (getB (s.extract 4 8) * 1000000 + 4294967295).tdiv 4294967296 = (getB (s.extract 4 8) * 1000000 + 4294967295) / 4294967296 := Int.tdiv_eq_ediv_of_nonneg (by omega)
    have W1 : wrap64 (getB (s.extract 0 4) * 1000000) = getB (s.extract 0 4) * 1000000 := IntWalk.wrap64_in _ (by omega)
    have W2 : wrap64 (getB (s.extract 4 8) * 1000000) = getB (s.extract 4 8) * 1000000 := IntWalk.wrap64_in _ (by omega)
    have W3 : wrap64 (getB (s.extract 4 8) * 1000000 + 4294967295) = getB (s.extract 4 8) * 1000000 + 4294967295 := IntWalk.wrap64_in _ (by omega)
    have W4 : wrap64 ((getB (s.extract 4 8) * 1000000 + 4294967295) / 4294967296) = (getB (s.extract 4 8) * 1000000 + 4294967295) / 4294967296 := IntWalk.wrap64_in _ (by omega)
    have W5 : wrap64 (getB (s.extract 0 4) * 1000000 + (getB (s.extract 4 8) * 1000000 + 4294967295) / 4294967296) = getB (s.extract 0 4) * 1000000 + (getB (s.extract 4 8) * 1000000 + 4294967295) / 4294967296 := IntWalk.wrap64_in _ (by omega)
    by_cases h1 : ((stampB (getB (s.extract 0 4) * 1000000 + (getB (s.extract 4 8) * 1000000 + 4294967295) / 4294967296)).toList == s.toList) = true
    · have e1 : stampOk s = true := by unfold stampOk stampAt; rw [h1]; simp [h0]
      have e2 : stampT s = getB (s.extract 0 4) * 1000000 + (getB (s.extract 4 8) * 1000000 + 4294967295) / 4294967296 := by unfold stampT; rw [e1]; rfl
      rw [e1, e2]
      clear e1 e2
      go_enter Tryd.func85, Tryd.ntmps85
      go_wp2_with (first | (go_at_call 67; refine (get_impl _ (by simp; omega) _).mono ?_; rintro e w1 ⟨rfl, rfl⟩) | (go_at_call 86; refine (divUp_parts _ (by omega) (by omega) _).mono ?_; rintro e w1 ⟨rfl, rfl⟩) | (go_at_call 55; refine (stampBytes_impl _ _).mono ?_; rintro e w1 ⟨rfl, hb1⟩))
      go_returns
      exact ⟨rfl, hb1⟩
    · have h1 : ((stampB (getB (s.extract 0 4) * 1000000 + (getB (s.extract 4 8) * 1000000 + 4294967295) / 4294967296)).toList == s.toList) = false := by simpa using h1
      have e1 : stampOk s = false := by unfold stampOk stampAt; rw [h1]; simp
      have e2 : stampT s = 0 := by unfold stampT; rw [e1]; rfl
      rw [e1, e2]
      clear e1 e2
      go_enter Tryd.func85, Tryd.ntmps85
      go_wp2_with (first | (go_at_call 67; refine (get_impl _ (by simp; omega) _).mono ?_; rintro e w1 ⟨rfl, rfl⟩) | (go_at_call 86; refine (divUp_parts _ (by omega) (by omega) _).mono ?_; rintro e w1 ⟨rfl, rfl⟩) | (go_at_call 55; refine (stampBytes_impl _ _).mono ?_; rintro e w1 ⟨rfl, hb1⟩))
      go_returns
      exact ⟨rfl, hb1⟩
  · have e1 : stampOk s = false := by unfold stampOk; simp [h0]
    have e2 : stampT s = 0 := by unfold stampT; rw [e1]; rfl
    rw [e1, e2]
    clear e1 e2
    have q1 : ((s.size : Int) == 8) = false := by simp; omega
    have q2 : ((s.size : Int) != 8) = true := by simp; omega
    go_enter Tryd.func85, Tryd.ntmps85
    go_wp2_with fail
    go_returns
    exact ⟨rfl, Below.refl _ _⟩

end Go.Proofs.YtphmlpdohkfpiaaDoor
