/- Many come, one behind the other: numbers alone. -/
import Derived.Test.YtckonbbdeohccaaCameI
import Derived.Test.YtckonbbdeohccaaIRow
namespace Go.Proofs.Ytckonbbdeohccaa
open Go.ChangeShapes Go.WideShapes Go.ChangeAt Go.RowKit
set_option linter.unusedVariables false
set_option linter.unusedSimpArgs false

/-- When the one at this place comes, as the program reckons: no further than behind the last time there is. -/
def timeI (start gap : Int) : Nat → Int
  | 0 => start
  | k + 1 => if timeI start gap k ≤ 1000000000 then timeI start gap k + gap else timeI start gap k
def oneO (o : Option (List Cl × Int)) : Int := match o with | some (_, t) => t | none => 2
def oneV (A : List Cl) (i now : Int) : Int := oneO (comeV A i now)
def allC (l : List Cl) (ids : List Int) (start gap : Int) : Nat → List Cl
  | 0 => l
  | k + 1 => afterC (allC l ids start gap k) (comeV (allC l ids start gap k) (ids.getD k 0) (start + (k : Int) * gap))
def allT (l : List Cl) (ids : List Int) (start gap : Int) : Nat → List Int
  | 0 => []
  | k + 1 => allT l ids start gap k ++ [oneV (allC l ids start gap k) (ids.getD k 0) (start + (k : Int) * gap)]
theorem allC_ok {l : List Cl} (ho : limOk l = true) (ids : List Int) (start gap : Int) (k : Nat) : limOk (allC l ids start gap k) = true := by
  induction k with
  | zero => exact ho
  | succ k ih => exact comeV_ok ih
theorem allT_len (l : List Cl) (ids : List Int) (start gap : Int) (k : Nat) : (allT l ids start gap k).length = k := by
  induction k with
  | zero => rfl
  | succ k ih => rw [allT, List.length_append, ih]; rfl
theorem timeI_is (start gap : Int) (g0 : 0 ≤ gap) (k : Nat) : timeI start gap k = start + (k : Int) * gap ∨ (1000000000 < timeI start gap k ∧ 1000000000 < start + (k : Int) * gap) := by
  induction k with
  | zero => left; simp [timeI]
  | succ k ih =>
    have e : start + ((k + 1 : Nat) : Int) * gap = start + (k : Int) * gap + gap := by rw [Int.natCast_add, Int.add_mul]; simp; omega
    rw [e, timeI]
    split
    · rcases ih with ih | ih
      · left; rw [ih]
      · omega
    · right; omega
theorem timeI_lo (start gap : Int) (g0 : 0 ≤ gap) (k : Nat) : start ≤ timeI start gap k := by
  induction k with
  | zero => exact Int.le_refl _
  | succ k ih => rw [timeI]; split <;> omega
theorem timeI_hi (start gap : Int) (g1 : gap ≤ 1000000) (s1 : start ≤ 9223372036854775807) (k : Nat) : timeI start gap k ≤ 9223372036854775807 := by
  induction k with
  | zero => exact s1
  | succ k ih => rw [timeI]; split <;> omega
theorem comeV_late {A : List Cl} {i now : Int} (h : 1000000000 < now) : comeV A i now = none := by
  unfold comeV
  rw [if_neg]
  intro hh
  rw [Bool.and_eq_true, inB_iff, inB_iff] at hh
  omega
theorem comeV_early {A : List Cl} {i now : Int} (h : now < 0) : comeV A i now = none := by
  unfold comeV
  rw [if_neg]
  intro hh
  rw [Bool.and_eq_true, inB_iff, inB_iff] at hh
  omega
theorem comeV_time (A : List Cl) (i start gap : Int) (g0 : 0 ≤ gap) (k : Nat) : comeV A i (timeI start gap k) = comeV A i (start + (k : Int) * gap) := by
  rcases timeI_is start gap g0 k with h | ⟨h1, h2⟩
  · rw [h]
  · rw [comeV_late h1, comeV_late h2]
def allOk (l : List Cl) (m : Nat) (gap : Int) : Bool := limOk l && (decide (m ≤ 200) && inB 0 gap 1000000)
def resA (l : List Cl) (ids : List Int) (start gap : Int) : List Cl := if allOk l ids.length gap = true then allC l ids start gap ids.length else []
def resT (l : List Cl) (ids : List Int) (start gap : Int) : List Int := if allOk l ids.length gap = true then allT l ids start gap ids.length else []
/-- What CameAll answers: a limiter and a row of the call's own. -/
def AllOut (W : World) (A : List Cl) (T : List Int) : Ending → World → Prop := fun e w' =>
  ∃ (x : Option Addr) (cap : Nat) (y : Option Addr) (cy : Nat), e = .returned (.tuple #[.agg #[.slice x A.length cap], .slice y T.length cy]) ∧ ClRow W.heap.size w' x cap A ∧ IRow W.heap.size w' y cy T ∧ Below W.heap.size W w'
theorem own_keepB {W W' : World} {base : Nat} {e : TypeId} {size : Nat} {v : Value} {n : Nat} {xs : List Value} {row : Option Nat} (h : W.ownsRow base e size v n xs) (hg : W.grownBy W' row) (hne : ∀ g, row = some g → g < base) : W'.ownsRow base e size v n xs := by
  refine ⟨h.1, ?_⟩
  rcases h.2 with e | ⟨g, c, cur, e, hb', hgg, r⟩
  · exact .inl e
  · exact .inr ⟨g, c, cur, e, hb', (hg.block g (Array.getElem?_eq_some_iff.1 hgg).1 (fun e2 => by have := hne g e2.symm; omega)).trans hgg, r⟩
end Go.Proofs.Ytckonbbdeohccaa
