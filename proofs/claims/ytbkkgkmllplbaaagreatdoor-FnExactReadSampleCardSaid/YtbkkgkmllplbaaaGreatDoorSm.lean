/- A sample's four numbers: right or not, made, aged, its reach: the numbers alone; the reference's SampleOk, SampleOf, Aged, Reach by them. -/
import Derived.Test.YtbkkgkmllplbaaaGreatDoorIn
import Derived.Test.YtbkkgkmllplbaaaGreatDoorFlat
import Derived.BigGuardPart
import Derived.BigQuiet
namespace Go.Proofs.YtbkkgkmllplbaaaGreatDoor
open Go.ChangeShapes Go.WideShapes Go.ChangeAt Go.RowKit
set_option linter.unusedVariables false
set_option linter.unusedSimpArgs false

structure Sm where
  off : Int
  delay : Int
  disp : Int
  at_ : Int

def Sm.ok (s : Sm) : Bool := inB (-1000000000000) s.off 1000000000000 && inB 0 s.delay 1000000000000 && inB 0 s.disp 16000000 && inB 0 s.at_ 4000000000000000
def Sm.zero : Sm := ⟨0, 0, 0, 0⟩
theorem Sm.ok_iff {s : Sm} : s.ok = true ↔ (-1000000000000 ≤ s.off ∧ s.off ≤ 1000000000000) ∧ (0 ≤ s.delay ∧ s.delay ≤ 1000000000000) ∧ (0 ≤ s.disp ∧ s.disp ≤ 16000000) ∧ (0 ≤ s.at_ ∧ s.at_ ≤ 4000000000000000) := by
  simp [Sm.ok, inB, and_assoc]

/-- Four right times, in their order. -/
def waysOk (a b c d : Int) : Bool := inB 0 a 4000000000000000 && inB 0 b 4000000000000000 && inB 0 c 4000000000000000 && inB 0 d 4000000000000000 && !decide (d < a) && !decide (c < b)
theorem waysOk_iff {a b c d : Int} : waysOk a b c d = true ↔ (0 ≤ a ∧ a ≤ 4000000000000000) ∧ (0 ≤ b ∧ b ≤ 4000000000000000) ∧ (0 ≤ c ∧ c ≤ 4000000000000000) ∧ (0 ≤ d ∧ d ≤ 4000000000000000) ∧ a ≤ d ∧ b ≤ c := by
  simp [waysOk, inB, and_assoc]
def smOf (a b c d : Int) : Sm := ⟨(b - a + c - d) / 2, d - a - (c - b), min 16000000 (1 + (d - a) * 15 / 1000000), d⟩
def smOfOk (a b c d : Int) : Bool := waysOk a b c d && (smOf a b c d).ok
def smOfV (a b c d : Int) : Sm := if smOfOk a b c d then smOf a b c d else Sm.zero

/-- So many begun seconds. -/
def begun (n : Int) : Int := (n + 999999) / 1000000
def agedOk (s : Sm) (now : Int) : Bool := s.ok && inB 0 now 4000000000000000 && !decide (now < s.at_)
theorem agedOk_iff {s : Sm} {now : Int} : agedOk s now = true ↔ s.ok = true ∧ (0 ≤ now ∧ now ≤ 4000000000000000) ∧ s.at_ ≤ now := by
  simp [agedOk, inB, and_assoc]
def agedOf (s : Sm) (now : Int) : Sm := ⟨s.off, s.delay, min 16000000 (s.disp + begun (now - s.at_) * 15), now⟩
def agedV (s : Sm) (now : Int) : Sm := if agedOk s now then agedOf s now else Sm.zero
def reachV (s : Sm) : Int := if s.ok then (s.delay + 1) / 2 + s.disp else -1

/-! ### Go's quotient down -/
theorem tdiv_pos {a : Int} (h : 0 ≤ a) (b : Int) : Int.tdiv a b = a / b := Int.tdiv_eq_ediv_of_nonneg h
theorem tdiv_two (a : Int) : Int.tdiv a 2 = if a < 0 ∧ a % 2 ≠ 0 then a / 2 + 1 else a / 2 := by
  by_cases h : a < 0
  · have e : Int.tdiv a 2 = -((-a) / 2) := by
      have := Int.neg_tdiv (-a) 2
      rw [Int.neg_neg] at this
      rw [this, tdiv_pos (by omega)]
    rw [e]
    split <;> omega
  · rw [tdiv_pos (by omega)]
    split <;> omega
theorem tmod_two (a : Int) : Int.tmod a 2 = if a < 0 ∧ a % 2 ≠ 0 then -1 else a % 2 := by
  rw [Int.tmod_def, tdiv_two]
  split <;> omega
end Go.Proofs.YtbkkgkmllplbaaaGreatDoor
