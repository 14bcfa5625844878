/- A text that is hurt: some text, hardly longer; the reader where it stood. -/
import Derived.Test.YtbkkgkmllplbaaaGreatDoorDraw1
import Derived.Test.YtbkkgkmllplbaaaGreatDoorCodeZ
import Derived.WalkLawsBesides
import Derived.Deep.RegionWith
namespace Go.Proofs.YtbkkgkmllplbaaaGreatDoor
open Go.ChangeShapes Go.WideShapes Go.ChangeAt Go.RowKit
set_option linter.unusedVariables false

/-- A text of at most so many bytes, the reader where it stood. -/
def RdText (m : Nat) (a : Nat) (w : World) : Ending → World → Prop := fun e w' => ∃ s : ByteArray, s.size ≤ m ∧ e = .returned (.string s) ∧ Rd w' a ∧ w.grownBy w' (some a)

theorem grown_drew1 (w : World) (row : Option Nat) : w.grownBy w.drew row := ⟨rfl, rfl, rfl, Nat.le_refl _, fun _ _ _ => rfl⟩

theorem hurt_size (s : ByteArray) (k : Nat) (c : UInt8) (h : k < s.size) : (s.extract 0 k ++ ⟨#[c]⟩ ++ s.extract (k + 1) s.size).size ≤ s.size + 1 := by
  rw [ByteArray.size_append, ByteArray.size_append, ByteArray.size_extract, ByteArray.size_extract]
  show min k s.size - 0 + 1 + (min s.size s.size - (k + 1)) ≤ s.size + 1
  omega

theorem below_drew1 (a : Nat) (zs : List Int) (p : Nat) (y : Int) (_ : 0 ≤ y) (ey : belowV zs p 4 = y) {w2 : World} (h : RdZ w2 a zs p) : Calls Tryz.prog 30 #[.pointer (some ⟨a, 0, none⟩), .int .i64 4] w2.drew fun e w' => e = .returned (.int .i64 y) ∧ Rd w' a ∧ w2.grownBy w' (some a) := by
  refine (below_z a zs p 4 (by omega) (by omega) _ (h.kept (grown_drew1 _ none) (by simp))).mono ?_
  rintro e w3 ⟨he, hr, hg⟩
  exact ⟨by rw [he, ey], hr.toRd, grown_trans (grown_drew1 _ _) hg⟩

theorem below_built (a : Nat) (zs : List Int) (p : Nat) (y : Int) (_ : 0 ≤ y) (ey : belowV zs p 4 = y) {w2 : World} (h : RdZ w2 a zs p) : Calls Tryz.prog 30 #[.pointer (some ⟨a, 0, none⟩), .int .i64 4] (w2.alloc (.cells #[.string ⟨#[0]⟩, .string ⟨#[55]⟩, .string ⟨#[255]⟩, .string ⟨#[32]⟩] 9)).drew fun e w' => e = .returned (.int .i64 y) ∧ Rd w' a ∧ w2.grownBy w' (some a) ∧
    w'.cell? ⟨w2.heap.size, 0, none⟩ = some (.string ⟨#[0]⟩) ∧ w'.cell? ⟨w2.heap.size, 1, none⟩ = some (.string ⟨#[55]⟩) ∧ w'.cell? ⟨w2.heap.size, 2, none⟩ = some (.string ⟨#[255]⟩) ∧ w'.cell? ⟨w2.heap.size, 3, none⟩ = some (.string ⟨#[32]⟩) := by
  have ha : a < w2.heap.size := by
    obtain ⟨⟨_, hb, _⟩, _⟩ := h
    exact (Array.getElem?_eq_some_iff.1 hb).1
  refine (below_z a zs p 4 (by omega) (by omega) _ ((h.kept (World.grownBy_alloc w2 (.cells #[.string ⟨#[0]⟩, .string ⟨#[55]⟩, .string ⟨#[255]⟩, .string ⟨#[32]⟩] 9) none) (by simp)).kept (grown_drew1 _ none) (by simp))).mono ?_
  rintro e w3 ⟨he, hr, hg⟩
  have hblk : w3.heap[w2.heap.size]? = some (.cells #[.string ⟨#[0]⟩, .string ⟨#[55]⟩, .string ⟨#[255]⟩, .string ⟨#[32]⟩] 9) := (hg.block w2.heap.size (by simp) (fun e => by simp only [Option.some.injEq] at e; omega)).trans (blk_new w2 _)
  refine ⟨by rw [he, ey], hr.toRd, grown_trans (World.grownBy_alloc w2 (.cells #[.string ⟨#[0]⟩, .string ⟨#[55]⟩, .string ⟨#[255]⟩, .string ⟨#[32]⟩] 9) _) (grown_trans (grown_drew1 _ _) hg), ?_, ?_, ?_, ?_⟩ <;> simp [World.cell?, hblk]

set_option maxHeartbeats 4000000 in
theorem hurt_c (a : Nat) (s : ByteArray) (hs : s.size ≤ 1073741824) (w : World) (h : Rd w a) : Calls Tryz.prog 20 #[.pointer (some ⟨a, 0, none⟩), .string s] w (RdText (s.size + 1) a w) := by
  go_enter Tryz.func20, Tryz.ntmps20
  go_wp2_with fail
  refine (below_c a 6 5 (by omega) (by omega) (by omega) _ h).mono ?_
  rintro e w1 ⟨v, v0, v1, rfl, hr, hg⟩
  have ha : a < w1.heap.size := by
    obtain ⟨_, _, _, hb, _⟩ := hr
    exact (Array.getElem?_eq_some_iff.1 hb).1
  by_cases c1 : v = 1
  · subst c1
    go_wp2_with fail
    refine (below_c a (s.size + 1) s.size (by omega) (by omega) (by omega) _ hr).mono ?_
    rintro e w2 ⟨u, u0, u1, rfl, hr2, hg2⟩
    obtain ⟨k, rfl⟩ := Int.eq_ofNat_of_zero_le u0
    go_wp2_with fail
    go_returns
    exact ⟨s.extract 0 k, by simp; omega, rfl, hr2, grown_trans hg hg2⟩
  · by_cases c3 : v = 3
    · subst c3
      go_wp2_with fail
      refine (below_c a 4 3 (by omega) (by omega) (by omega) _ (hr.kept (World.grownBy_alloc w1 _ none) (by simp))).mono ?_
      rintro e w3 ⟨u, u0, u1, rfl, hr3, hg3⟩
      have hblk : w3.heap[w1.heap.size]? = some (.cells #[.string ⟨#[0]⟩, .string ⟨#[49]⟩, .string ⟨#[10]⟩, .string ⟨#[32]⟩] 9) := (hg3.block _ (by simp) (fun e => by cases e; omega)).trans (blk_new w1 _)
      have d0 : w3.cell? ⟨w1.heap.size, 0, none⟩ = some (.string ⟨#[0]⟩) := by simp [World.cell?, hblk]
      have d1 : w3.cell? ⟨w1.heap.size, 1, none⟩ = some (.string ⟨#[49]⟩) := by simp [World.cell?, hblk]
      have d2 : w3.cell? ⟨w1.heap.size, 2, none⟩ = some (.string ⟨#[10]⟩) := by simp [World.cell?, hblk]
      have d3 : w3.cell? ⟨w1.heap.size, 3, none⟩ = some (.string ⟨#[32]⟩) := by simp [World.cell?, hblk]
      clear hblk
      have hgg := grown_trans hg (grown_trans (World.grownBy_alloc w1 _ _) hg3)
      rcases (show u = 0 ∨ u = 1 ∨ u = 2 ∨ u = 3 by omega) with rfl | rfl | rfl | rfl
      all_goals
        go_wp2_with fail
        go_returns
        exact ⟨_, by rw [ByteArray.size_append]; exact Nat.le_refl _, rfl, hr3, hgg⟩
    · by_cases c2 : v = 2
      · subst c2
        by_cases hz : 0 < s.size
        · have hz' : (0 : Int) < (s.size : Int) := by omega
          go_wp2_with fail
          refine (below_c a s.size (s.size - 1) (by omega) (by omega) (by omega) _ hr).mono ?_
          rintro e w2 ⟨u, u0, u1, rfl, hr2, hg2⟩
          obtain ⟨k, rfl⟩ := Int.eq_ofNat_of_zero_le u0
          have hk : (k : Int) < (s.size : Int) := by omega
          have e1 : IntKind.i64.wrap ((k : Int) + 1) = (k : Int) + 1 := IntWalk.i64_in _ (by omega)
          have e2 : (0 : Int) ≤ (k : Int) := Int.natCast_nonneg _
          have e3 : (k : Int) + 1 ≤ (s.size : Int) := by omega
          have e4 : (0 : Int) ≤ (k : Int) + 1 := by omega
          have e5 : k ≤ s.size := by omega
          have e6 : k + 1 ≤ s.size := by omega
          obtain ⟨zs, p, hrz⟩ := hr2.toZ
          obtain ⟨y, ey⟩ : ∃ y, belowV zs p 4 = y := ⟨_, rfl⟩
          have hy := belowV_range zs p 4 (by omega)
          rw [ey] at hy
          obtain ⟨y0, y1⟩ := hy
          have ha2 : a < w2.heap.size := Nat.lt_of_lt_of_le ha hg2.size
          have HA := Lib.hid (below_drew1 a zs p y (by omega) ey hrz)
          have HB := Lib.hid (below_built a zs p y (by omega) ey hrz)
          clear ey hrz
          rcases (show y = 0 ∨ y = 1 ∨ y = 2 ∨ y = 3 by omega) with rfl | rfl | rfl | rfl
          all_goals
            go_wp2_with fail
            go_region_with (first
              | (go_at_call 30; refine HA.out.mono ?_; rintro e w3 ⟨rfl, hr3, hg3⟩)
              | (go_at_call 30; refine HB.out.mono ?_; rintro e w3 ⟨rfl, hr3, hg3, d0, d1, d2, d3⟩))
            all_goals
              go_wp2_with fail
              go_returns
              first
                | exact ⟨_, hurt_size s k _ (by omega), rfl, hr3, grown_trans (grown_trans hg hg2) hg3⟩
                | exact ⟨_, hurt_size s k _ (by omega), rfl, hr3.kept (World.grownBy_alloc w3 _ none) (by simp), grown_trans (grown_trans (grown_trans hg hg2) hg3) (World.grownBy_alloc w3 _ _)⟩
        · have hz' : ¬ (0 : Int) < (s.size : Int) := by omega
          go_wp2_with fail
          go_returns
          exact ⟨s, by omega, rfl, hr, hg⟩
      · go_wp2_with fail
        go_returns
        exact ⟨s, by omega, rfl, hr, hg⟩
end Go.Proofs.YtbkkgkmllplbaaaGreatDoor
