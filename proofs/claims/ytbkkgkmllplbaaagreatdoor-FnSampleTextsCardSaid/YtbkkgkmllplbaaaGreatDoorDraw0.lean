/- What every drawing opens with. -/
import Derived.Test.YtbkkgkmllplbaaaGreatDoorReader
namespace Go.Proofs.YtbkkgkmllplbaaaGreatDoor
open Go.ChangeShapes Go.WideShapes Go.ChangeAt Go.RowKit
set_option linter.unusedVariables false

theorem open_c (x : Option Addr) (n cap : Nat) (w : World) : Calls Tryz.prog 18 #[.slice x n cap] w fun e w' => e = .returned (.pointer (some ⟨w.heap.size, 0, none⟩)) ∧ w' = w.alloc (.cells #[.slice x n cap, .int .i64 0] 59) := by
  go_enter Tryz.func18, Tryz.ntmps18
  go_wp2
  go_returns
  exact ⟨rfl, rfl⟩

theorem rd_open {w : World} {x : Option Addr} {n cap : Nat} (hc : Code w.heap.size w (.slice x n cap) n) (hn : n ≤ 1048576) : Rd (w.alloc (.cells #[.slice x n cap, .int .i64 0] 59)) w.heap.size :=
  ⟨_, n, 0, blk_new w _, Nat.zero_le _, hn, hc.below ((Below.refl _ _).alloc (Nat.le_refl _) _)⟩

/-- Any number; nothing that lay has turned. -/
def AnyInt (w : World) : Ending → World → Prop := fun e w' => ∃ v : Int, -9223372036854775808 ≤ v ∧ v ≤ 9223372036854775807 ∧ e = .returned (.int .i64 v) ∧ Below w.heap.size w w'

theorem grown_below {w a b : World} {k : Nat} (h : Below w.heap.size w a) (hg : a.grownBy b (some k)) (hk : w.heap.size ≤ k) : Below w.heap.size w b :=
  h.grown hg h.size (fun j e => by cases e; exact hk)

end Go.Proofs.YtbkkgkmllplbaaaGreatDoor
