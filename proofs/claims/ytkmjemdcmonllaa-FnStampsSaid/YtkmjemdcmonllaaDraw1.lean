/- What is drawn for the first chapter: any time, any text. -/
import Derived.Test.YtkmjemdcmonllaaReader
namespace Go.Proofs.Ytkmjemdcmonllaa
open Go.ChangeShapes Go.WideShapes Go.ChangeAt Go.RowKit
set_option linter.unusedVariables false

theorem open_c (x : Option Addr) (n cap : Nat) (w : World) : Calls Try.prog 57 #[.slice x n cap] w fun e w' => e = .returned (.pointer (some ⟨w.heap.size, 0, none⟩)) ∧ w' = w.alloc (.cells #[.slice x n cap, .int .i64 0] 71) := by
  go_enter Try.func57, Try.ntmps57
  go_wp2
  go_returns
  exact ⟨rfl, rfl⟩

theorem rd_open {w : World} {x : Option Addr} {n cap : Nat} (hc : Code w.heap.size w (.slice x n cap) n) (hn : n ≤ 1048576) : Rd (w.alloc (.cells #[.slice x n cap, .int .i64 0] 71)) w.heap.size :=
  ⟨_, n, 0, blk_new w _, Nat.zero_le _, hn, hc.below ((Below.refl _ _).alloc (Nat.le_refl _) _)⟩

/-- Any number; nothing that lay has turned. -/
def AnyInt (w : World) : Ending → World → Prop := fun e w' => ∃ v : Int, -9223372036854775808 ≤ v ∧ v ≤ 9223372036854775807 ∧ e = .returned (.int .i64 v) ∧ Below w.heap.size w w'

theorem grown_below {w a b : World} {k : Nat} (h : Below w.heap.size w a) (hg : a.grownBy b (some k)) (hk : w.heap.size ≤ k) : Below w.heap.size w b :=
  h.grown hg h.size (fun j e => by cases e; exact hk)

theorem drawSeconds_c (x : Option Addr) (n cap : Nat) (w : World) (hc : Code w.heap.size w (.slice x n cap) n) (hn : n ≤ 1048576) : Calls Try.prog 26 #[.slice x n cap] w (AnyInt w) := by
  go_enter Try.func26, Try.ntmps26
  go_wp2_with fail
  refine (open_c x n cap _).mono ?_
  rintro e w1 ⟨rfl, rfl⟩
  go_wp2_with fail
  refine (time_c _ _ (rd_open hc hn)).mono ?_
  rintro e w2 ⟨v, v0, v1, rfl, hr2, hg2⟩
  go_wp2_with fail
  go_returns
  exact ⟨v, v0, v1, rfl, grown_below ((Below.refl _ _).alloc (Nat.le_refl _) _) hg2 (Nat.le_refl _)⟩

theorem drawStamp_c (x : Option Addr) (n cap : Nat) (w : World) (hc : Code w.heap.size w (.slice x n cap) n) (hn : n ≤ 1048576) : Calls Try.prog 21 #[.slice x n cap] w (AnyInt w) := by
  go_enter Try.func21, Try.ntmps21
  go_wp2_with fail
  refine (drawSeconds_c x n cap _ hc hn).mono ?_
  rintro e w1 ⟨v, v0, v1, rfl, hb⟩
  go_wp2_with fail
  go_returns
  exact ⟨v, v0, v1, rfl, hb⟩

theorem drawShort_c (x : Option Addr) (n cap : Nat) (w : World) (hc : Code w.heap.size w (.slice x n cap) n) (hn : n ≤ 1048576) : Calls Try.prog 30 #[.slice x n cap] w (AnyInt w) := by
  go_enter Try.func30, Try.ntmps30
  go_wp2_with fail
  refine (open_c x n cap _).mono ?_
  rintro e w1 ⟨rfl, rfl⟩
  go_wp2_with fail
  refine (once_c _ 4 (by omega) (by omega) _ (rd_open hc hn)).mono ?_
  rintro e w2 ⟨b, rfl, hr2, hg2⟩
  have hb2 := grown_below ((Below.refl _ _).alloc (Nat.le_refl _) _) hg2 (Nat.le_refl _)
  cases b with
  | true =>
    go_wp2_with fail
    refine (off_c _ 0 65535000000 (by omega) (by omega) (by omega) _ hr2).mono ?_
    rintro e w3 ⟨u, u0, u1, rfl, hr3, hg3⟩
    go_wp2_with fail
    go_returns
    exact ⟨u, u0, u1, rfl, grown_below hb2 hg3 (Nat.le_refl _)⟩
  | false =>
    go_wp2_with fail
    refine (below_c _ 16777216 16777215 (by omega) (by omega) (by omega) _ hr2).mono ?_
    rintro e w3 ⟨u, u0, u1, rfl, hr3, hg3⟩
    go_wp2_with fail
    refine (below_c _ 3000 2999 (by omega) (by omega) (by omega) _ hr3).mono ?_
    rintro e w4 ⟨y, y0, y1, rfl, hr4, hg4⟩
    go_wp2_with fail
    go_returns
    refine ⟨_, ?_, ?_, rfl, grown_below (grown_below hb2 hg3 (Nat.le_refl _)) hg4 (Nat.le_refl _)⟩
    · exact (wrap64_range _).1
    · exact (wrap64_range _).2
end Go.Proofs.Ytkmjemdcmonllaa
