/- Within two bounds; a time: the program's way and the reference's. -/
import Derived.Test.YtgmjdalfbebgbaaKeep
namespace Go.Proofs.Ytgmjdalfbebgbaa
open Go.ChangeShapes Go.WideShapes Go.ChangeAt Go.RowKit
set_option linter.unusedVariables false

/-- Is it within these bounds? -/
def inB (lo n hi : Int) : Bool := decide (lo ≤ n) && decide (n ≤ hi)
theorem inB_yes {lo n hi : Int} (h0 : lo ≤ n) (h1 : n ≤ hi) : inB lo n hi = true := by simp [inB, h0, h1]
theorem inB_low {lo n hi : Int} (h0 : ¬ lo ≤ n) : inB lo n hi = false := by simp [inB, h0]
theorem inB_high {lo n hi : Int} (h0 : ¬ n ≤ hi) : inB lo n hi = false := by simp [inB, h0]
theorem inB_iff {lo n hi : Int} : inB lo n hi = true ↔ lo ≤ n ∧ n ≤ hi := by simp [inB]

theorem within_c (n lo hi : Int) (w : World) :
    Calls Try.prog 91 #[.int .i64 n, .int .i64 lo, .int .i64 hi] w fun e w' => e = .returned (.bool (inB lo n hi)) ∧ w = w' := by
  by_cases h0 : lo ≤ n
  · by_cases h1 : n ≤ hi
    · rw [inB_yes h0 h1]
      go_enter Try.func91, Try.ntmps91
      go_wp2
      go_returns
      exact ⟨rfl, rfl⟩
    · rw [inB_high h1]
      go_enter Try.func91, Try.ntmps91
      go_wp2
      go_returns
      exact ⟨rfl, rfl⟩
  · rw [inB_low h0]
    go_enter Try.func91, Try.ntmps91
    go_wp2
    go_returns
    exact ⟨rfl, rfl⟩

theorem l1In_c (n lo hi : Int) (w : World) :
    Calls Try.prog 63 #[.int .i64 n, .int .i64 lo, .int .i64 hi] w fun e w' => e = .returned (.bool (inB lo n hi)) ∧ w = w' := by
  by_cases h0 : lo ≤ n
  · by_cases h1 : n ≤ hi
    · rw [inB_yes h0 h1]
      go_enter Try.func63, Try.ntmps63
      go_wp2
      go_returns
      exact ⟨rfl, rfl⟩
    · rw [inB_high h1]
      go_enter Try.func63, Try.ntmps63
      go_wp2
      go_returns
      exact ⟨rfl, rfl⟩
  · rw [inB_low h0]
    go_enter Try.func63, Try.ntmps63
    go_wp2
    go_returns
    exact ⟨rfl, rfl⟩

end Go.Proofs.Ytgmjdalfbebgbaa
