/- Which lists of nodes are right: of the reference. -/
import Derived.Test.YtckonbbdeohccaaNdOk
import Derived.Test.YtckonbbdeohccaaNdTo
namespace Go.Proofs.Ytckonbbdeohccaa
open Go.ChangeShapes Go.WideShapes Go.ChangeAt Go.RowKit Go.Sort
set_option linter.unusedVariables false
set_option linter.unusedSimpArgs false

theorem l1In_below (n lo hi : Int) (w : World) : Calls Try.prog 37 #[.int .i64 n, .int .i64 lo, .int .i64 hi] w fun e w' => e = .returned (.bool (inB lo n hi)) ∧ Below w.heap.size w w' := (l1In_c n lo hi w).mono (by rintro e w' ⟨rfl, rfl⟩; exact ⟨rfl, Below.refl _ _⟩)
/-- The reference's test of what a node says of itself is the program's. -/
theorem stands_eq {v : Nd} (h : v.peers.contains (-1) = false) : standsB v = if v.src then (v.str == 1 && v.ref == -1) else (inB 2 v.str 15 && v.peers.contains v.ref || (v.str == 16 && v.ref == -1)) := by
  unfold standsB
  cases v.src with
  | true => simp only [if_true]; rw [Bool.and_comm]
  | false =>
    simp only [Bool.false_eq_true, if_false]
    cases hr : (v.ref == -1) with
    | true =>
      have e : v.ref = -1 := by simpa using hr
      simp only [if_true]
      rw [e, h]
      simp
    | false =>
      simp only [Bool.false_eq_true, if_false, Bool.and_false, Bool.or_false]
      rw [Bool.and_comm]
end Go.Proofs.Ytckonbbdeohccaa
