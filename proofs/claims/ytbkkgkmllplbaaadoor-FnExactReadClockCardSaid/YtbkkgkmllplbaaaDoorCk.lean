/- A clock's five numbers: right or not, what follows an offset, what is slewed: the numbers alone. -/
import Derived.Test.YtbkkgkmllplbaaaDoorIn
import Derived.Test.YtbkkgkmllplbaaaDoorFlat
import Derived.BigGuardPart
import Derived.BigQuiet
namespace Go.Proofs.YtbkkgkmllplbaaaDoor
open Go.ChangeShapes Go.WideShapes Go.ChangeAt Go.RowKit
set_option linter.unusedVariables false
set_option linter.unusedSimpArgs false

structure Ck where
  st : Int
  off : Int
  fr : Int
  poll : Int
  calm : Int
deriving DecidableEq

def Ck.zero : Ck := ⟨0, 0, 0, 0, 0⟩
theorem Ck.same {a b : Ck} (h0 : a.st = b.st) (h1 : a.off = b.off) (h2 : a.fr = b.fr) (h3 : a.poll = b.poll) (h4 : a.calm = b.calm) : a = b := by
  cases a; cases b; simp_all
def Ck.ok (c : Ck) : Bool := inB 0 c.st 2 && inB (-127999) c.off 127999 && inB (-500) c.fr 500 && inB 4 c.poll 10 && inB 0 c.calm 3
theorem Ck.ok_iff {c : Ck} : c.ok = true ↔ (0 ≤ c.st ∧ c.st ≤ 2) ∧ (-127999 ≤ c.off ∧ c.off ≤ 127999) ∧ (-500 ≤ c.fr ∧ c.fr ≤ 500) ∧ (4 ≤ c.poll ∧ c.poll ≤ 10) ∧ (0 ≤ c.calm ∧ c.calm ≤ 3) := by
  simp [Ck.ok, inB, and_assoc]

/-- Less than this on either side. -/
def unB (n b : Int) : Bool := decide (-b < n) && decide (n < b)
theorem unB_iff {n b : Int} : unB n b = true ↔ -b < n ∧ n < b := by simp [unB]
theorem unB_no {n b : Int} (h : ¬ (-b < n ∧ n < b)) : unB n b = false := by
  cases e : unB n b with
  | false => rfl
  | true => exact absurd (unB_iff.1 e) h
theorem unB_step (n : Int) : unB n 128000 = inB (-127999) n 127999 := by
  rw [Bool.eq_iff_iff, unB_iff, inB_iff]; omega

/-- Held within this on either side. -/
def clampV (n m : Int) : Int := max (-m) (min m n)
theorem clampV_of {n m : Int} (h : 0 ≤ m) : (n < -m ∧ clampV n m = -m) ∨ (m < n ∧ clampV n m = m) ∨ (-m ≤ n ∧ n ≤ m ∧ clampV n m = n) := by
  unfold clampV; omega
theorem clampV_bounds (n : Int) {m : Int} (h : 0 ≤ m) : -m ≤ clampV n m ∧ clampV n m ≤ m := by unfold clampV; omega

def adjOk (c : Ck) (o g : Int) : Bool := c.ok && inB (-1000000000000) o 1000000000000 && inB 1 g 100000
theorem adjOk_iff {c : Ck} {o g : Int} : adjOk c o g = true ↔ c.ok = true ∧ (-1000000000000 ≤ o ∧ o ≤ 1000000000000) ∧ (1 ≤ g ∧ g ≤ 100000) := by
  simp [adjOk, inB, and_assoc]

/-- Poll and Calm behind an offset. -/
def polled (c : Ck) (o : Int) : Ck :=
  if unB o 10000 = false then ⟨c.st, c.off, c.fr, max (c.poll - 1) 4, 0⟩
  else if unB o 1000 = true then (if c.calm < 3 then ⟨c.st, c.off, c.fr, c.poll, c.calm + 1⟩ else ⟨c.st, c.off, c.fr, min (c.poll + 1) 10, 0⟩)
  else c
/-- What the rate is then. -/
def rateV (c : Ck) (o g : Int) : Int := clampV (c.fr + Int.tdiv o (16 * g)) 500
def followedV (c : Ck) (o g : Int) : Ck := polled ⟨1, o, rateV c o g, c.poll, c.calm⟩ o
def greatV (c : Ck) : Ck := if c.st = 1 then ⟨2, c.off, c.fr, c.poll, c.calm⟩ else ⟨1, 0, c.fr, 4, 0⟩
def adjV (c : Ck) (o g : Int) : Ck := if adjOk c o g then (if unB o 128000 then followedV c o g else greatV c) else Ck.zero
def stepV (c : Ck) (o g : Int) : Int := if adjOk c o g then (if unB o 128000 then 0 else if c.st = 1 then 0 else o) else 0

def slewOk (c : Ck) (g : Int) : Bool := c.ok && inB 0 g 100000
theorem slewOk_iff {c : Ck} {g : Int} : slewOk c g = true ↔ c.ok = true ∧ (0 ≤ g ∧ g ≤ 100000) := by
  simp [slewOk, inB, and_assoc]
def slewV (c : Ck) (g : Int) : Ck := if slewOk c g then ⟨c.st, c.off - clampV c.off (500 * g), c.fr, c.poll, c.calm⟩ else Ck.zero
def slewnV (c : Ck) (g : Int) : Int := if slewOk c g then clampV c.off (500 * g) + c.fr * g else 0

theorem tdiv_bounds {a b m : Int} (hb : 1 ≤ b) (h0 : -m ≤ a) (h1 : a ≤ m) : -m ≤ Int.tdiv a b ∧ Int.tdiv a b ≤ m := by
  by_cases h : 0 ≤ a
  · rw [Int.tdiv_eq_ediv_of_nonneg h]
    have q0 : 0 ≤ a / b := Int.ediv_nonneg h (by omega)
    have q1 : a / b ≤ a := Int.ediv_le_self b h
    omega
  · have e : Int.tdiv a b = -((-a) / b) := by
      have := Int.neg_tdiv (-a) b
      rw [Int.neg_neg] at this
      rw [this, Int.tdiv_eq_ediv_of_nonneg (by omega)]
    have q0 : 0 ≤ (-a) / b := Int.ediv_nonneg (by omega) (by omega)
    have q1 : (-a) / b ≤ -a := Int.ediv_le_self b (by omega)
    omega

theorem polled_ok {c : Ck} (h : c.ok = true) (o : Int) : (polled c o).ok = true := by
  rw [Ck.ok_iff] at h ⊢
  unfold polled
  split
  · dsimp only; omega
  · split
    · split <;> (dsimp only; omega)
    · exact h
theorem followedV_ok {c : Ck} {o g : Int} (h : c.ok = true) (ho : unB o 128000 = true) : (followedV c o g).ok = true := by
  have hb := clampV_bounds (c.fr + Int.tdiv o (16 * g)) (show (0 : Int) ≤ 500 by omega)
  rw [Ck.ok_iff] at h
  rw [unB_iff] at ho
  refine polled_ok (Ck.ok_iff.2 ?_) o
  dsimp only [rateV]
  omega
theorem greatV_ok {c : Ck} (h : c.ok = true) : (greatV c).ok = true := by
  rw [Ck.ok_iff] at h ⊢
  unfold greatV
  split <;> (dsimp only; omega)
theorem adjV_ok {c : Ck} {o g : Int} (h : adjOk c o g = true) : (adjV c o g).ok = true := by
  have hc := (adjOk_iff.1 h).1
  unfold adjV
  rw [if_pos h]
  split
  · exact followedV_ok hc (by assumption)
  · exact greatV_ok hc
end Go.Proofs.YtbkkgkmllplbaaaDoor
