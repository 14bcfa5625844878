/- The reference's drawing, by what it leaves: a number within bounds, the reader where it stood. -/
import Derived.Test.YtejkjlfdadficaaCode
namespace Go.Proofs.Ytejkjlfdadficaa
open Go.ChangeShapes Go.WideShapes Go.ChangeAt Go.RowKit
set_option linter.unusedVariables false

theorem grown_trans {a b c : World} {row : Option Nat} (h : a.grownBy b row) (k : b.grownBy c row) : a.grownBy c row :=
  ⟨k.os.trans h.os, k.tape.trans h.tape, k.output.trans h.output, Nat.le_trans h.size k.size, fun i hi hne => (k.block i (Nat.lt_of_lt_of_le hi h.size) hne).trans (h.block i hi hne)⟩

theorem RdPost.weaken {lo hi lo' hi' : Int} {a : Nat} {w : World} {e : Ending} {w' : World} (h : RdPost lo hi a w e w') (h0 : lo' ≤ lo) (h1 : hi ≤ hi') : RdPost lo' hi' a w e w' := by
  obtain ⟨v, v0, v1, rest⟩ := h
  exact ⟨v, by omega, by omega, rest⟩

set_option maxHeartbeats 1000000 in
theorem below_c (a : Nat) (n m : Int) (hn : n ≤ 4611686018427387904) (h0 : 0 ≤ m) (hm : n - 1 ≤ m) (w : World) (h : Rd w a) : Calls Try.prog 22 #[.pointer (some ⟨a, 0, none⟩), .int .i64 n] w (RdPost 0 m a w) := by
  by_cases h1 : n ≤ 1
  · go_enter Try.func22, Try.ntmps22
    go_wp2_with fail
    go_returns
    exact ⟨0, by omega, by omega, rfl, h, World.grownBy.refl _ _⟩
  · by_cases h2 : n ≤ 256
    · go_enter Try.func22, Try.ntmps22
      go_wp2_with fail
      refine (next_c a _ h).mono ?_
      rintro e w1 ⟨v, v0, v1, rfl, hr, hg⟩
      go_wp2_with fail
      go_returns
      exact ⟨v % n, Int.emod_nonneg _ (by omega), by have := Int.emod_lt_of_pos v (show 0 < n by omega); omega, rfl, hr, hg⟩
    · go_enter Try.func22, Try.ntmps22
      go_wp2_with fail
      refine (next_c a _ h).mono ?_
      rintro e w1 ⟨v, v0, v1, rfl, hr, hg⟩
      go_wp2_with fail
      refine (next_c a _ hr).mono ?_
      rintro e w2 ⟨u, u0, u1, rfl, hr2, hg2⟩
      go_wp2_with fail
      go_returns
      exact ⟨(v * 256 + u) % n, Int.emod_nonneg _ (by omega), by have := Int.emod_lt_of_pos (v * 256 + u) (show 0 < n by omega); omega, rfl, hr2, grown_trans hg hg2⟩

/-- A yes or a no, the reader where it stood. -/
def RdBool (a : Nat) (w : World) : Ending → World → Prop := fun e w' => ∃ b : Bool, e = .returned (.bool b) ∧ Rd w' a ∧ w.grownBy w' (some a)

/-- A word, the reader where it stood. -/
def RdWord (a : Nat) (w : World) : Ending → World → Prop := fun e w' => ∃ u : Int, 0 ≤ u ∧ u ≤ 18446744073709551615 ∧ e = .returned (.int .u64 u) ∧ Rd w' a ∧ w.grownBy w' (some a)

theorem wrap64_range (n : Int) : -9223372036854775808 ≤ wrap64 n ∧ wrap64 n ≤ 9223372036854775807 := by unfold wrap64; omega
theorem small_range {n : Int} (h0 : -4611686018427387904 ≤ n) (h1 : n ≤ 4611686018427387904) : -9223372036854775808 ≤ n ∧ n ≤ 9223372036854775807 := by omega

/-- Any number at all. -/
def RdAny (a : Nat) (w : World) : Ending → World → Prop := RdPost (-9223372036854775808) 9223372036854775807 a w

end Go.Proofs.Ytejkjlfdadficaa
