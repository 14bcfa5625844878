/- The reference's drawing of packets: some packet, some question; nothing that lay has turned. -/
import Derived.Test.YtdogfcmedlgnaaaDraw0
import Derived.Test.YtdogfcmedlgnaaaPacketOk
namespace Go.Proofs.Ytdogfcmedlgnaaa
open Go.ChangeShapes Go.WideShapes Go.ChangeAt Go.RowKit
set_option linter.unusedVariables false

/-- Two numbers; nothing that lay has turned. -/
def AnyTwo (w : World) : Ending → World → Prop := fun e w' => ∃ s t : Int, (-9223372036854775808 ≤ s ∧ s ≤ 9223372036854775807) ∧ (-9223372036854775808 ≤ t ∧ t ≤ 9223372036854775807) ∧ e = .returned (.tuple #[.int .i64 s, .int .i64 t]) ∧ Below w.heap.size w w'

set_option maxHeartbeats 1000000 in
theorem drawAsked_c (x : Option Addr) (n cap : Nat) (w : World) (hc : Code w.heap.size w (.slice x n cap) n) (hn : n ≤ 1048576) : Calls Try.prog 8 #[.slice x n cap] w (AnyTwo w) := by
  go_enter Try.func8, Try.ntmps8
  go_wp2_with fail
  refine (open_c x n cap _).mono ?_
  rintro e w1 ⟨rfl, rfl⟩
  go_wp2_with fail
  refine (time_c _ _ (rd_open hc hn)).mono ?_
  rintro e w2 ⟨v, v0, v1, rfl, hr2, hg2⟩
  go_wp2_with fail
  refine (off_c _ 0 17 (by omega) (by omega) (by omega) _ hr2).mono ?_
  rintro e w3 ⟨u, u0, u1, rfl, hr3, hg3⟩
  go_wp2_with fail
  go_returns
  exact ⟨v, u, ⟨v0, v1⟩, ⟨u0, u1⟩, rfl, grown_below ((Below.refl _ _).alloc (Nat.le_refl _) _) (grown_trans hg2 hg3) (Nat.le_refl _)⟩

end Go.Proofs.Ytdogfcmedlgnaaa
