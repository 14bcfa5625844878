/- What is drawn for chapter 14: leaps, and leaps with a time. -/
import Derived.Test.YtlgmdicpmifcmaaLpDraw
namespace Go.Proofs.Ytlgmdicpmifcmaa
open Go.ChangeShapes Go.WideShapes Go.ChangeAt Go.RowKit
set_option linter.unusedVariables false
set_option linter.unusedSimpArgs false

/-- Some leaps in a row of the call's own; nothing that lay has turned. -/
def AnyLps (w : World) : Ending → World → Prop := fun e w' =>
  ∃ (x : Option Addr) (cap : Nat) (l : List Lp), e = .returned (.slice x l.length cap) ∧ l.length ≤ 4 ∧ LpRow w.heap.size w' x cap l ∧ Below w.heap.size w w'
def AnyLpsAt (w : World) : Ending → World → Prop := fun e w' =>
  ∃ (x : Option Addr) (cap : Nat) (l : List Lp) (t : Int), e = .returned (.tuple #[.slice x l.length cap, .int .i64 t]) ∧ l.length ≤ 4 ∧ LpRow w.heap.size w' x cap l ∧ Below w.heap.size w w'

theorem drawLeapsOk_c (x : Option Addr) (n cap : Nat) (w : World) (hc : Code w.heap.size w (.slice x n cap) n) (hn : n ≤ 1048576) : Calls Try.prog 23 #[.slice x n cap] w (AnyLps w) := by
  go_enter Try.func23, Try.ntmps23
  go_wp2_with fail
  refine (open_c x n cap _).mono ?_
  rintro e w1 ⟨rfl, rfl⟩
  go_wp2_with fail
  refine (leaps_c _ _ (rd_open hc hn)).mono ?_
  rintro e w2 ⟨y, c, l, rfl, hl, hrow, hr, hg⟩
  go_wp2_with fail
  go_returns
  exact ⟨y, c, l, rfl, hl, hrow.low (by simp), grown_below (below_new w _) hg (Nat.le_refl _)⟩

set_option maxHeartbeats 2000000 in
theorem drawLeapAt_c (x : Option Addr) (n cap : Nat) (w : World) (hc : Code w.heap.size w (.slice x n cap) n) (hn : n ≤ 1048576) : Calls Try.prog 21 #[.slice x n cap] w (AnyLpsAt w) := by
  go_enter Try.func21, Try.ntmps21
  go_wp2_with fail
  refine (open_c x n cap _).mono ?_
  rintro e w1 ⟨rfl, rfl⟩
  have hro := rd_open hc hn
  have hbo : Below w.heap.size w (w.alloc (.cells #[.slice x n cap, .int .i64 0] 60)) := (Below.refl _ _).alloc (Nat.le_refl _) _
  have hlt1 : w.heap.size < (w.alloc (.cells #[.slice x n cap, .int .i64 0] 60)).heap.size := by simp
  obtain ⟨a, ea⟩ : ∃ a, a = w.heap.size := ⟨_, rfl⟩
  rw [← ea] at hro ⊢
  obtain ⟨W1, hW1⟩ : ∃ W1, w.alloc (.cells #[.slice x n cap, .int .i64 0] 60) = W1 := ⟨_, rfl⟩
  rw [hW1] at hro hbo hlt1 ⊢
  clear hW1
  have EA := Lib.hid ea
  have haW : a < W1.heap.size := by omega
  clear ea
  go_wp2_with fail
  refine (leaps_c a _ hro).mono ?_
  rintro e w2 ⟨y, c, l, rfl, hl, hrow, hr, hg⟩
  have hb2 := grown_below hbo hg (Nat.le_of_eq EA.out.symm)
  obtain ⟨m, hm⟩ : ∃ m, m = l.length := ⟨_, rfl⟩
  have HM := Lib.hid hm
  rw [← hm] at hl ⊢
  clear hm
  by_cases h0 : 0 < m
  · have h00 : (0 : Int) < (m : Int) := by omega
    go_wp2_with fail
    refine (once_c a 4 (by omega) (by omega) _ hr).mono ?_
    rintro e w3 ⟨b, rfl, hr3, hg3⟩
    have hb3 := grown_below hb2 hg3 (Nat.le_of_eq EA.out.symm)
    have hrow3 := hrow.keepR (row := some a) hg3 (fun k e => by simp only [Option.some.injEq] at e; omega)
    cases b with
    | true =>
      go_wp2_with fail
      refine (off_c a 0 4000000000 (by omega) (by omega) (by omega) _ hr3).mono ?_
      rintro e w4 ⟨u, u0, u1, rfl, hr4, hg4⟩
      have hb4 := grown_below hb3 hg4 (Nat.le_of_eq EA.out.symm)
      have hrow4 := hrow3.keepR (row := some a) hg4 (fun k e => by simp only [Option.some.injEq] at e; omega)
      go_wp2_with fail
      go_returns
      exact ⟨y, c, l, u, by rw [HM.out]; rfl, by rw [← HM.out]; exact hl, hrow4.low (by omega), hb4⟩
    | false =>
      obtain ⟨v0, hv0⟩ := get_at (l := l) (k := 0) (by rw [← HM.out]; exact h0)
      obtain ⟨g, rfl, _⟩ := hrow3.at_ hv0
      clear hv0
      go_wp2_with fail
      go_region_with (first
        | (go_at_call 36; ((with_reducible refine (below_c a (m : Int) ((m : Int) - 1) (by omega) (by omega) (by omega) _ ?_).mono ?_); (exact hr3.drewR); rintro e w4 ⟨kz, k0, k1, rfl, hr4, hg4'⟩; have hg4 := grown_undrew hg4'; have hb4 := grown_below hb3 hg4 (Nat.le_of_eq EA.out.symm); have hrow4 := hrow3.keepR (row := some a) hg4 (fun k e => by simp only [Option.some.injEq] at e; omega); have hkm : kz < (m : Int) := (by omega); obtain ⟨vk, hvk⟩ := get_at (l := l) (k := kz.toNat) (by rw [← HM.out]; omega); have HVK := Lib.hid hvk; clear hvk; have C4 := (hrow4.atg HVK.out).1))
        | (go_at_call 36; (with_reducible refine (below_c a 100000 99999 (by omega) (by omega) (by omega) _ hr4).mono ?_); rintro e w5 ⟨d, d0, d1, rfl, hr5, hg5⟩; have hb5 := grown_below hb4 hg5 (Nat.le_of_eq EA.out.symm); have hrow5 := hrow4.keepR (row := some a) hg5 (fun k e => by simp only [Option.some.injEq] at e; omega); have C5 := (hrow5.atg HVK.out).1))
      all_goals
        go_wp2_with fail
        go_returns
        exact ⟨some ⟨g, 0, none⟩, c, l, _, by rw [HM.out]; rfl, by rw [← HM.out]; exact hl, hrow5.low (by omega), hb5⟩
  · have h00 : ¬ (0 : Int) < (m : Int) := by omega
    go_wp2_with fail
    refine (off_c a 0 4000000000 (by omega) (by omega) (by omega) _ hr).mono ?_
    rintro e w4 ⟨u, u0, u1, rfl, hr4, hg4⟩
    have hb4 := grown_below hb2 hg4 (Nat.le_of_eq EA.out.symm)
    have hrow4 := hrow.keepR (row := some a) hg4 (fun k e => by simp only [Option.some.injEq] at e; omega)
    go_wp2_with fail
    go_returns
    exact ⟨y, c, l, u, by rw [HM.out]; rfl, by rw [← HM.out]; exact hl, hrow4.low (by omega), hb4⟩

theorem drawSmeared_c (x : Option Addr) (n cap : Nat) (w : World) (hc : Code w.heap.size w (.slice x n cap) n) (hn : n ≤ 1048576) : Calls Try.prog 26 #[.slice x n cap] w (AnyLpsAt w) := by
  go_enter Try.func26, Try.ntmps26
  go_wp2_with fail
  refine (drawLeapAt_c x n cap w hc hn).mono ?_
  rintro e w2 ⟨y, c, l, t, rfl, hl, hrow, hb⟩
  go_wp2_with fail
  go_returns
  exact ⟨y, c, l, t, rfl, hl, hrow, hb⟩

theorem drawNextLeap_c (x : Option Addr) (n cap : Nat) (w : World) (hc : Code w.heap.size w (.slice x n cap) n) (hn : n ≤ 1048576) : Calls Try.prog 22 #[.slice x n cap] w (AnyLpsAt w) := by
  go_enter Try.func22, Try.ntmps22
  go_wp2_with fail
  refine (drawLeapAt_c x n cap w hc hn).mono ?_
  rintro e w2 ⟨y, c, l, t, rfl, hl, hrow, hb⟩
  go_wp2_with fail
  go_returns
  exact ⟨y, c, l, t, rfl, hl, hrow, hb⟩
end Go.Proofs.Ytlgmdicpmifcmaa
