/- How far a number is from nought: the laws' own. -/
import Derived.Test.YtlgmdicpmifcmaaKeep
namespace Go.Proofs.Ytlgmdicpmifcmaa
open Go.ChangeShapes Go.WideShapes Go.ChangeAt Go.RowKit
set_option linter.unusedVariables false
set_option linter.unusedSimpArgs false

/-- How far a number is from nought. -/
def absV (n : Int) : Int := if 0 ≤ n then n else -n
theorem abs_c (n : Int) (h0 : -4611686018427387904 ≤ n) (h1 : n ≤ 4611686018427387904) (w : World) :
    Calls Try.prog 27 #[.int .i64 n] w fun e w' => e = .returned (.int .i64 (absV n)) ∧ w = w' := by
  rcases Int.lt_trichotomy n 0 with h | h | h
  · have e : absV n = -n := by unfold absV; rw [if_neg (by omega)]
    rw [e]
    go_enter Try.func27, Try.ntmps27
    go_wp2
    all_goals first
      | (go_returns; exact ⟨rfl, rfl⟩)
      | (exfalso; omega)
  · subst h
    go_enter Try.func27, Try.ntmps27
    go_wp2
    go_returns
    exact ⟨rfl, rfl⟩
  · have e : absV n = n := by unfold absV; rw [if_pos (by omega)]
    rw [e]
    go_enter Try.func27, Try.ntmps27
    go_wp2
    all_goals first
      | (go_returns; exact ⟨rfl, rfl⟩)
      | (exfalso; omega)
end Go.Proofs.Ytlgmdicpmifcmaa
