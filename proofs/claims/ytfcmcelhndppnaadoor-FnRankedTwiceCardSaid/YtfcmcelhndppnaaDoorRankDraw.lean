/- Peers drawn for ranking, for those that are left, for who is chosen. -/
import Derived.Test.YtfcmcelhndppnaaDoorPeersDraw
namespace Go.Proofs.YtfcmcelhndppnaaDoor
open Go.ChangeShapes Go.WideShapes Go.ChangeAt Go.RowKit
set_option linter.unusedVariables false
set_option linter.unusedSimpArgs false

theorem drawRanked_c (x : Option Addr) (n cap : Nat) (w : World) (hc : Code w.heap.size w (.slice x n cap) n) (hn : n ≤ 1048576) : Calls Tryd.prog 18 #[.slice x n cap] w (AnyPrs 6 w) := by
  go_enter Tryd.func18, Tryd.ntmps18
  go_wp2_with fail
  refine (drawPeersOk_c x n cap w hc hn).mono ?_
  rintro e w1 ⟨y, c, l, rfl, rest⟩
  go_wp2_with fail
  go_returns
  exact ⟨y, c, l, rfl, rest⟩
theorem drawSurvivors_c (x : Option Addr) (n cap : Nat) (w : World) (hc : Code w.heap.size w (.slice x n cap) n) (hn : n ≤ 1048576) : Calls Tryd.prog 25 #[.slice x n cap] w (fun e w' =>
    ∃ (y : Option Addr) (c : Nat) (l : List Pr) (k : Int), e = .returned (.tuple #[.slice y l.length c, .int .i64 k]) ∧ -9223372036854775808 ≤ k ∧ k ≤ 9223372036854775807 ∧ l.length ≤ 7 ∧ l.length ≤ c ∧ c ≤ maxLen ∧ Prs w'.heap.size w' y l ∧ Below w.heap.size w w') := by
  go_enter Tryd.func25, Tryd.ntmps25
  go_wp2_with fail
  refine (open_c x n cap _).mono ?_
  rintro e w1 ⟨rfl, rfl⟩
  have hr1 := rd_open hc hn
  go_wp2_with fail
  refine (peers_c _ 7 (by omega) _ hr1).mono ?_
  rintro e w2 ⟨y, c, l, rfl, hl, hrow, hr2, hg2⟩
  have g2 := grown_below (below_new w (.cells #[.slice x n cap, .int .i64 0] 72)) hg2 (Nat.le_refl _)
  have hcc := hrow.cap_
  have HW := Lib.hid hrow
  have HG : Hid (∀ g, y = some ⟨g, 0, none⟩ → (some w.heap.size : Option Nat) ≠ some g) := Lib.hid (fun g e h => by
    subst e
    have := hrow.lt.1
    simp only [Option.some.injEq, World.size_alloc] at h this
    omega)
  clear hrow
  go_wp2_with fail
  refine (off_c _ 1 5 (by omega) (by omega) (by omega) _ hr2).mono ?_
  rintro e w3 ⟨k, k0, k1, rfl, hr3, hg3⟩
  have g3 := grown_below g2 hg3 (Nat.le_refl _)
  have HP := Lib.hid (HW.out.keep hg3 HG.out).prs
  go_wp2_with fail
  go_returns
  exact ⟨y, c, l, k, rfl, k0, k1, hl, hcc.1, hcc.2, HP.out, g3⟩
end Go.Proofs.YtfcmcelhndppnaaDoor
