/- What is drawn for chapter 13. -/
import Derived.Test.YtiaiihagoopkfaaRegOps
import Derived.Test.YtiaiihagoopkfaaDraw0
import Derived.Test.YtiaiihagoopkfaaAbs
namespace Go.Proofs.Ytiaiihagoopkfaa
open Go.ChangeShapes Go.WideShapes Go.ChangeAt Go.RowKit
set_option linter.unusedVariables false

/-- Any number and any answer; nothing that lay has turned. -/
def AnyIntBool (w : World) : Ending → World → Prop := fun e w' => ∃ (v : Int) (b : Bool), -9223372036854775808 ≤ v ∧ v ≤ 9223372036854775807 ∧ e = .returned (.tuple #[.int .i64 v, .bool b]) ∧ Below w.heap.size w w'
def AnyTwo (w : World) : Ending → World → Prop := fun e w' => ∃ (v u : Int), -9223372036854775808 ≤ v ∧ v ≤ 9223372036854775807 ∧ -9223372036854775808 ≤ u ∧ u ≤ 9223372036854775807 ∧ e = .returned (.tuple #[.int .i64 v, .int .i64 u]) ∧ Below w.heap.size w w'

set_option maxHeartbeats 1000000 in
theorem drawShifted_c (x : Option Addr) (n cap : Nat) (w : World) (hc : Code w.heap.size w (.slice x n cap) n) (hn : n ≤ 1048576) : Calls Try.prog 26 #[.slice x n cap] w (AnyIntBool w) := by
  go_enter Try.func26, Try.ntmps26
  go_wp2_with fail
  refine (open_c x n cap _).mono ?_
  rintro e w1 ⟨rfl, rfl⟩
  go_wp2_with fail
  refine (below_c _ 256 255 (by omega) (by omega) (by omega) _ (rd_open hc hn)).mono ?_
  rintro e w2 ⟨v, v0, v1, rfl, hr2, hg2⟩
  have hb2 := grown_below ((Below.refl _ _).alloc (Nat.le_refl _) _) hg2 (Nat.le_refl _)
  go_wp2_with fail
  refine (once_c _ 8 (by omega) (by omega) _ hr2).mono ?_
  rintro e w3 ⟨b, rfl, hr3, hg3⟩
  have hb3 := grown_below hb2 hg3 (Nat.le_refl _)
  cases b with
  | true =>
    go_wp2_with fail
    refine (off_c _ 0 255 (by omega) (by omega) (by omega) _ hr3).mono ?_
    rintro e w4 ⟨u, u0, u1, rfl, hr4, hg4⟩
    have hb4 := grown_below hb3 hg4 (Nat.le_refl _)
    go_wp2_with fail
    refine (once_c _ 2 (by omega) (by omega) _ hr4).mono ?_
    rintro e w5 ⟨c, rfl, hr5, hg5⟩
    go_wp2_with fail
    go_returns
    exact ⟨u, c, u0, u1, rfl, grown_below hb4 hg5 (Nat.le_refl _)⟩
  | false =>
    go_wp2_with fail
    refine (once_c _ 2 (by omega) (by omega) _ hr3).mono ?_
    rintro e w5 ⟨c, rfl, hr5, hg5⟩
    go_wp2_with fail
    go_returns
    exact ⟨v, c, by omega, by omega, rfl, grown_below hb3 hg5 (Nat.le_refl _)⟩

theorem drawOnes_c (x : Option Addr) (n cap : Nat) (w : World) (hc : Code w.heap.size w (.slice x n cap) n) (hn : n ≤ 1048576) : Calls Try.prog 27 #[.slice x n cap] w (AnyInt w) := by
  go_enter Try.func27, Try.ntmps27
  go_wp2_with fail
  refine (drawShifted_c x n cap _ hc hn).mono ?_
  rintro e w1 ⟨v, b, v0, v1, rfl, hb⟩
  go_wp2_with fail
  go_returns
  exact ⟨v, v0, v1, rfl, hb⟩

theorem drawReachable_c (x : Option Addr) (n cap : Nat) (w : World) (hc : Code w.heap.size w (.slice x n cap) n) (hn : n ≤ 1048576) : Calls Try.prog 28 #[.slice x n cap] w (AnyInt w) := by
  go_enter Try.func28, Try.ntmps28
  go_wp2_with fail
  refine (drawOnes_c x n cap _ hc hn).mono ?_
  rintro e w1 ⟨v, v0, v1, rfl, hb⟩
  go_wp2_with fail
  go_returns
  exact ⟨v, v0, v1, rfl, hb⟩

set_option maxHeartbeats 1000000 in
theorem drawPollFor_c (x : Option Addr) (n cap : Nat) (w : World) (hc : Code w.heap.size w (.slice x n cap) n) (hn : n ≤ 1048576) : Calls Try.prog 30 #[.slice x n cap] w (AnyTwo w) := by
  go_enter Try.func30, Try.ntmps30
  go_wp2_with fail
  refine (open_c x n cap _).mono ?_
  rintro e w1 ⟨rfl, rfl⟩
  have hro := rd_open hc hn
  have hbo : Below w.heap.size w (w.alloc (.cells #[.slice x n cap, .int .i64 0] 65)) := (Below.refl _ _).alloc (Nat.le_refl _) _
  have hco := hc.next hbo
  obtain ⟨b1, eb⟩ : ∃ b1, b1 = w.heap.size := ⟨_, rfl⟩
  rw [← eb] at hro ⊢
  obtain ⟨W1, hW1⟩ : ∃ W1, w.alloc (.cells #[.slice x n cap, .int .i64 0] 65) = W1 := ⟨_, rfl⟩
  rw [hW1] at hro hbo hco ⊢
  clear hW1
  have EB := Lib.hid eb
  clear eb
  go_wp2_with fail
  refine (drawShifted_c x n cap _ hco hn).mono ?_
  rintro e w2 ⟨v, b, v0, v1, rfl, hb2⟩
  have hr2 : Rd w2 b1 := hro.kept (row := none) ⟨hb2.os, hb2.tape, hb2.output, hb2.size, fun k hk _ => hb2.block k hk⟩ (by simp)
  have hbb2 := grow_next hbo hb2
  go_wp2_with fail
  refine (once_c _ 4 (by omega) (by omega) _ hr2).mono ?_
  rintro e w3 ⟨c, rfl, hr3, hg3⟩
  have hb3 := grown_below hbb2 hg3 (Nat.le_of_eq EB.out.symm)
  cases c with
  | true =>
    go_wp2_with fail
    refine (below_c _ 5 4 (by omega) (by omega) (by omega) _ hr3).mono ?_
    rintro e w4 ⟨u, u0, u1, rfl, hr4, hg4⟩
    have hb4 := grown_below hb3 hg4 (Nat.le_of_eq EB.out.symm)
    go_wp2_with fail
    refine (off_c _ 4 10 (by omega) (by omega) (by omega) _ hr4).mono ?_
    rintro e w5 ⟨y, y0, y1, rfl, hr5, hg5⟩
    go_wp2_with fail
    go_returns
    exact ⟨u, y, by omega, by omega, y0, y1, rfl, grown_below hb4 hg5 (Nat.le_of_eq EB.out.symm)⟩
  | false =>
    go_wp2_with fail
    refine (off_c _ 4 10 (by omega) (by omega) (by omega) _ hr3).mono ?_
    rintro e w5 ⟨y, y0, y1, rfl, hr5, hg5⟩
    go_wp2_with fail
    go_returns
    exact ⟨v, y, v0, v1, y0, y1, rfl, grown_below hb3 hg5 (Nat.le_of_eq EB.out.symm)⟩
end Go.Proofs.Ytiaiihagoopkfaa
