/- Within two bounds; a time: the program's way and the reference's. -/
import Derived.Test.YtbkkgkmllplbaaaGreatDoorKeep
namespace Go.Proofs.YtbkkgkmllplbaaaGreatDoor
open Go.ChangeShapes Go.WideShapes Go.ChangeAt Go.RowKit
set_option linter.unusedVariables false

/-- Is it within these bounds? -/
def inB (lo n hi : Int) : Bool := decide (lo ≤ n) && decide (n ≤ hi)
theorem inB_yes {lo n hi : Int} (h0 : lo ≤ n) (h1 : n ≤ hi) : inB lo n hi = true := by simp [inB, h0, h1]
theorem inB_low {lo n hi : Int} (h0 : ¬ lo ≤ n) : inB lo n hi = false := by simp [inB, h0]
theorem inB_high {lo n hi : Int} (h0 : ¬ n ≤ hi) : inB lo n hi = false := by simp [inB, h0]
theorem inB_iff {lo n hi : Int} : inB lo n hi = true ↔ lo ≤ n ∧ n ≤ hi := by simp [inB]

theorem within_c (n lo hi : Int) (w : World) :
    Calls Tryz.prog 38 #[.int .i64 n, .int .i64 lo, .int .i64 hi] w fun e w' => e = .returned (.bool (inB lo n hi)) ∧ w = w' := by
  by_cases h0 : lo ≤ n
  · by_cases h1 : n ≤ hi
    · rw [inB_yes h0 h1]
      go_enter Tryz.func38, Tryz.ntmps38
      go_wp2
      go_returns
      exact ⟨rfl, rfl⟩
    · rw [inB_high h1]
      go_enter Tryz.func38, Tryz.ntmps38
      go_wp2
      go_returns
      exact ⟨rfl, rfl⟩
  · rw [inB_low h0]
    go_enter Tryz.func38, Tryz.ntmps38
    go_wp2
    go_returns
    exact ⟨rfl, rfl⟩

theorem l1In_c (n lo hi : Int) (w : World) :
    Calls Tryz.prog 34 #[.int .i64 n, .int .i64 lo, .int .i64 hi] w fun e w' => e = .returned (.bool (inB lo n hi)) ∧ w = w' := by
  by_cases h0 : lo ≤ n
  · by_cases h1 : n ≤ hi
    · rw [inB_yes h0 h1]
      go_enter Tryz.func34, Tryz.ntmps34
      go_wp2
      go_returns
      exact ⟨rfl, rfl⟩
    · rw [inB_high h1]
      go_enter Tryz.func34, Tryz.ntmps34
      go_wp2
      go_returns
      exact ⟨rfl, rfl⟩
  · rw [inB_low h0]
    go_enter Tryz.func34, Tryz.ntmps34
    go_wp2
    go_returns
    exact ⟨rfl, rfl⟩

theorem isTime_c (t : Int) (w : World) :
    Calls Tryz.prog 39 #[.int .i64 t] w fun e w' => e = .returned (.bool (inB 0 t 4000000000000000)) ∧ w = w' := by
  go_enter Tryz.func39, Tryz.ntmps39
  go_wp2_with (go_at_call 38; refine (within_c _ _ _ _).mono ?_; rintro e w1 ⟨rfl, rfl⟩)
  go_returns
  exact ⟨rfl, rfl⟩

theorem l1Time_c (t : Int) (w : World) :
    Calls Tryz.prog 35 #[.int .i64 t] w fun e w' => e = .returned (.bool (inB 0 t 4000000000000000)) ∧ w = w' := by
  go_enter Tryz.func35, Tryz.ntmps35
  go_wp2_with (go_at_call 34; refine (l1In_c _ _ _ _).mono ?_; rintro e w1 ⟨rfl, rfl⟩)
  go_returns
  exact ⟨rfl, rfl⟩
end Go.Proofs.YtbkkgkmllplbaaaGreatDoor
