/- Where more than half agree: the program's Majority and the reference's. -/
import Derived.Test.YtohcebiepekbeaaGreatDoorAgreedS
namespace Go.Proofs.YtohcebiepekbeaaGreatDoor
open Go.ChangeShapes Go.WideShapes Go.ChangeAt Go.RowKit
set_option linter.unusedVariables false
set_option linter.unusedSimpArgs false

def MajPost (W : World) (l : List Iv) : Ending → World → Prop := fun r w' =>
  ∃ lo hi M : Int, r = .returned (.tuple #[.agg #[.int .i64 (if 2 * M ≤ l.length then 0 else lo), .int .i64 (if 2 * M ≤ l.length then 0 else hi)], .bool (!decide (2 * M ≤ l.length))]) ∧ Agr l lo hi M ∧ Below W.heap.size W w'


theorem majority_impl (l : List Iv) (n : Nat) (hn : Hid (n = l.length)) (hm : n ≤ 1048576) (x : Option Addr) (cap : Nat) (W : World) (h : Ivs W.heap.size W x l) :
    Calls Tryz.prog 46 #[.slice x n cap] W (MajPost W l) := by
  have R := blk_new W (.cells #[.int .i64 0, .int .i64 0] 45)
  have g0 := below_new W (.cells #[.int .i64 0, .int .i64 0] 45)
  go_enter Tryz.func46, Tryz.ntmps46
  go_wp2_with fail
  refine (agreed_impl l n hn hm x cap _ (h.next g0)).mono ?_
  rintro e w1 ⟨lo, hi, M, rfl, hA, hb1⟩
  have R1 := blk_next hb1 R
  have g1 := grow_next g0 hb1
  obtain ⟨m0, m1⟩ := hA.bounds
  rw [← hn.out] at m1
  have HA := Lib.hid hA
  clear hA
  have R2 := blk_alloc R1 (.cells #[.int .i64 lo, .int .i64 hi] 45)
  have V2 := blk_new w1 (.cells #[.int .i64 lo, .int .i64 hi] 45)
  have g2 : Below W.heap.size W (w1.alloc (.cells #[.int .i64 lo, .int .i64 hi] 45)) := g1.alloc (by have := g1.size; omega) _
  have lw : W.heap.size < w1.heap.size := (Array.getElem?_eq_some_iff.1 R1).1
  obtain ⟨v0, v1⟩ := iv_cells (q := ⟨lo, hi⟩) V2
  dsimp only at v0 v1
  by_cases hle : 2 * M ≤ (n : Int)
  · have HIF := Lib.hid (show (if 2 * M ≤ (l.length : Int) then 0 else lo) = 0 ∧ (if 2 * M ≤ (l.length : Int) then 0 else hi) = 0 ∧ (!decide (2 * M ≤ (l.length : Int))) = false by rw [← hn.out]; simp [hle])
    have e1 : decide (2 * M ≤ (n : Int)) = true := decide_eq_true hle
    obtain ⟨s0, s1⟩ := iv_cells (q := ⟨0, 0⟩) R1
    obtain ⟨y0, y1⟩ := iv_thaw (q := ⟨0, 0⟩) R1
    obtain ⟨q0, q1⟩ := iv_cells (iv_put (q := ⟨0, 0⟩) R2 ⟨0, 0⟩)
    obtain ⟨q2, q3⟩ := iv_cells (iv_put (q := ⟨0, 0⟩) R1 ⟨0, 0⟩)
    have G2 : Below W.heap.size W (((w1.setCell ⟨W.heap.size, 0, none⟩ (.int .i64 0)).setCell ⟨W.heap.size, 1, none⟩ (.int .i64 0)).alloc (.cells #[.int .i64 lo, .int .i64 hi] 45)) := by
      refine Below.alloc ?_ (by have := g1.size; simpa [World.setCell] using this) _
      repeat (refine below_setCell ?_ (by omega) _ _)
      exact g1
    have G : Below W.heap.size W (((w1.alloc (.cells #[.int .i64 lo, .int .i64 hi] 45)).setCell ⟨W.heap.size, 0, none⟩ (.int .i64 0)).setCell ⟨W.heap.size, 1, none⟩ (.int .i64 0)) := by
      repeat (refine below_setCell ?_ (by omega) _ _)
      exact g2
    dsimp only at s0 s1 q0 q1 q2 q3
    go_wp2_with fail
    refine bodyPost_ret (by simp [results, Tryz.results46, go_sem, q0, q1, q2, q3, lw]; try rfl) rfl ?_
    exact ⟨lo, hi, M, by rw [HIF.out.1, HIF.out.2.1, HIF.out.2.2], HA.out, by first | exact G2 | exact G⟩
  · have HIF := Lib.hid (show (if 2 * M ≤ (l.length : Int) then 0 else lo) = lo ∧ (if 2 * M ≤ (l.length : Int) then 0 else hi) = hi ∧ (!decide (2 * M ≤ (l.length : Int))) = true by rw [← hn.out]; simp [hle])
    have e1 : decide (2 * M ≤ (n : Int)) = false := decide_eq_false hle
    obtain ⟨s0, s1⟩ := iv_cells (q := ⟨0, 0⟩) R1
    obtain ⟨y0, y1⟩ := iv_thaw (q := ⟨0, 0⟩) R1
    obtain ⟨q0, q1⟩ := iv_cells (iv_put (q := ⟨0, 0⟩) R2 ⟨lo, hi⟩)
    obtain ⟨q2, q3⟩ := iv_cells (iv_put (q := ⟨0, 0⟩) R1 ⟨lo, hi⟩)
    have G2 : Below W.heap.size W (((w1.setCell ⟨W.heap.size, 0, none⟩ (.int .i64 lo)).setCell ⟨W.heap.size, 1, none⟩ (.int .i64 hi)).alloc (.cells #[.int .i64 lo, .int .i64 hi] 45)) := by
      refine Below.alloc ?_ (by have := g1.size; simpa [World.setCell] using this) _
      repeat (refine below_setCell ?_ (by omega) _ _)
      exact g1
    have G : Below W.heap.size W (((w1.alloc (.cells #[.int .i64 lo, .int .i64 hi] 45)).setCell ⟨W.heap.size, 0, none⟩ (.int .i64 lo)).setCell ⟨W.heap.size, 1, none⟩ (.int .i64 hi)) := by
      repeat (refine below_setCell ?_ (by omega) _ _)
      exact g2
    dsimp only at s0 s1 q0 q1 q2 q3
    go_wp2_with fail
    refine bodyPost_ret (by simp [results, Tryz.results46, go_sem, q0, q1, q2, q3, lw]; try rfl) rfl ?_
    exact ⟨lo, hi, M, by rw [HIF.out.1, HIF.out.2.1, HIF.out.2.2], HA.out, by first | exact G2 | exact G⟩


theorem majority_spec (l : List Iv) (n : Nat) (hn : Hid (n = l.length)) (hm : n ≤ 1048576) (x : Option Addr) (cap : Nat) (W : World) (h : Ivs W.heap.size W x l) :
    Calls Tryz.prog 38 #[.slice x n cap] W (MajPost W l) := by
  have R := blk_new W (.cells #[.int .i64 0, .int .i64 0] 45)
  have g0 := below_new W (.cells #[.int .i64 0, .int .i64 0] 45)
  go_enter Tryz.func38, Tryz.ntmps38
  go_wp2_with fail
  refine (agreed_spec l n hn hm x cap _ (h.next g0)).mono ?_
  rintro e w1 ⟨lo, hi, M, rfl, hA, hb1⟩
  have R1 := blk_next hb1 R
  have g1 := grow_next g0 hb1
  obtain ⟨m0, m1⟩ := hA.bounds
  rw [← hn.out] at m1
  have HA := Lib.hid hA
  clear hA
  have R2 := blk_alloc R1 (.cells #[.int .i64 lo, .int .i64 hi] 45)
  have V2 := blk_new w1 (.cells #[.int .i64 lo, .int .i64 hi] 45)
  have g2 : Below W.heap.size W (w1.alloc (.cells #[.int .i64 lo, .int .i64 hi] 45)) := g1.alloc (by have := g1.size; omega) _
  have lw : W.heap.size < w1.heap.size := (Array.getElem?_eq_some_iff.1 R1).1
  obtain ⟨v0, v1⟩ := iv_cells (q := ⟨lo, hi⟩) V2
  dsimp only at v0 v1
  by_cases hle : 2 * M ≤ (n : Int)
  · have HIF := Lib.hid (show (if 2 * M ≤ (l.length : Int) then 0 else lo) = 0 ∧ (if 2 * M ≤ (l.length : Int) then 0 else hi) = 0 ∧ (!decide (2 * M ≤ (l.length : Int))) = false by rw [← hn.out]; simp [hle])
    have e1 : decide (2 * M ≤ (n : Int)) = true := decide_eq_true hle
    obtain ⟨s0, s1⟩ := iv_cells (q := ⟨0, 0⟩) R1
    obtain ⟨y0, y1⟩ := iv_thaw (q := ⟨0, 0⟩) R1
    obtain ⟨q0, q1⟩ := iv_cells (iv_put (q := ⟨0, 0⟩) R2 ⟨0, 0⟩)
    obtain ⟨q2, q3⟩ := iv_cells (iv_put (q := ⟨0, 0⟩) R1 ⟨0, 0⟩)
    have G2 : Below W.heap.size W (((w1.setCell ⟨W.heap.size, 0, none⟩ (.int .i64 0)).setCell ⟨W.heap.size, 1, none⟩ (.int .i64 0)).alloc (.cells #[.int .i64 lo, .int .i64 hi] 45)) := by
      refine Below.alloc ?_ (by have := g1.size; simpa [World.setCell] using this) _
      repeat (refine below_setCell ?_ (by omega) _ _)
      exact g1
    have G : Below W.heap.size W (((w1.alloc (.cells #[.int .i64 lo, .int .i64 hi] 45)).setCell ⟨W.heap.size, 0, none⟩ (.int .i64 0)).setCell ⟨W.heap.size, 1, none⟩ (.int .i64 0)) := by
      repeat (refine below_setCell ?_ (by omega) _ _)
      exact g2
    dsimp only at s0 s1 q0 q1 q2 q3
    go_wp2_with fail
    refine bodyPost_ret (by simp [results, Tryz.results38, go_sem, q0, q1, q2, q3, lw]; try rfl) rfl ?_
    exact ⟨lo, hi, M, by rw [HIF.out.1, HIF.out.2.1, HIF.out.2.2], HA.out, by first | exact G2 | exact G⟩
  · have HIF := Lib.hid (show (if 2 * M ≤ (l.length : Int) then 0 else lo) = lo ∧ (if 2 * M ≤ (l.length : Int) then 0 else hi) = hi ∧ (!decide (2 * M ≤ (l.length : Int))) = true by rw [← hn.out]; simp [hle])
    have e1 : decide (2 * M ≤ (n : Int)) = false := decide_eq_false hle
    obtain ⟨s0, s1⟩ := iv_cells (q := ⟨0, 0⟩) R1
    obtain ⟨y0, y1⟩ := iv_thaw (q := ⟨0, 0⟩) R1
    obtain ⟨q0, q1⟩ := iv_cells (iv_put (q := ⟨0, 0⟩) R2 ⟨lo, hi⟩)
    obtain ⟨q2, q3⟩ := iv_cells (iv_put (q := ⟨0, 0⟩) R1 ⟨lo, hi⟩)
    have G2 : Below W.heap.size W (((w1.setCell ⟨W.heap.size, 0, none⟩ (.int .i64 lo)).setCell ⟨W.heap.size, 1, none⟩ (.int .i64 hi)).alloc (.cells #[.int .i64 lo, .int .i64 hi] 45)) := by
      refine Below.alloc ?_ (by have := g1.size; simpa [World.setCell] using this) _
      repeat (refine below_setCell ?_ (by omega) _ _)
      exact g1
    have G : Below W.heap.size W (((w1.alloc (.cells #[.int .i64 lo, .int .i64 hi] 45)).setCell ⟨W.heap.size, 0, none⟩ (.int .i64 lo)).setCell ⟨W.heap.size, 1, none⟩ (.int .i64 hi)) := by
      repeat (refine below_setCell ?_ (by omega) _ _)
      exact g2
    dsimp only at s0 s1 q0 q1 q2 q3
    go_wp2_with fail
    refine bodyPost_ret (by simp [results, Tryz.results38, go_sem, q0, q1, q2, q3, lw]; try rfl) rfl ?_
    exact ⟨lo, hi, M, by rw [HIF.out.1, HIF.out.2.1, HIF.out.2.2], HA.out, by first | exact G2 | exact G⟩


/-- What Majority tells. -/
def MajIs (l : List Iv) (u v : Int) (b : Bool) : Prop := ∃ lo hi M : Int, Agr l lo hi M ∧ u = (if 2 * M ≤ l.length then 0 else lo) ∧ v = (if 2 * M ≤ l.length then 0 else hi) ∧ b = !decide (2 * M ≤ l.length)
theorem MajIs.same {l : List Iv} {u v u' v' : Int} {b b' : Bool} (h : MajIs l u v b) (h' : MajIs l u' v' b') : u = u' ∧ v = v' ∧ b = b' := by
  obtain ⟨lo, hi, M, hA, rfl, rfl, rfl⟩ := h
  obtain ⟨lo', hi', M', hA', rfl, rfl, rfl⟩ := h'
  obtain ⟨rfl, rfl, rfl⟩ := hA.same hA'
  exact ⟨rfl, rfl, rfl⟩
def MajTold (W : World) (l : List Iv) : Ending → World → Prop := fun r w' =>
  ∃ (u v : Int) (b : Bool), r = .returned (.tuple #[.agg #[.int .i64 u, .int .i64 v], .bool b]) ∧ MajIs l u v b ∧ Below W.heap.size W w'
theorem maj_told {W : World} {l : List Iv} {r : Ending} {w' : World} (h : MajPost W l r w') : MajTold W l r w' := by
  obtain ⟨lo, hi, M, rfl, hA, hB⟩ := h
  exact ⟨_, _, _, rfl, ⟨lo, hi, M, hA, rfl, rfl, rfl⟩, hB⟩
end Go.Proofs.YtohcebiepekbeaaGreatDoor
