/- The reference's drawing, by what it leaves: a number within bounds, the reader where it stood. -/
import Derived.Test.YtbkkgkmllplbaaaDoorCode
namespace Go.Proofs.YtbkkgkmllplbaaaDoor
open Go.ChangeShapes Go.WideShapes Go.ChangeAt Go.RowKit
set_option linter.unusedVariables false

theorem grown_trans {a b c : World} {row : Option Nat} (h : a.grownBy b row) (k : b.grownBy c row) : a.grownBy c row :=
  ⟨k.os.trans h.os, k.tape.trans h.tape, k.output.trans h.output, Nat.le_trans h.size k.size, fun i hi hne => (k.block i (Nat.lt_of_lt_of_le hi h.size) hne).trans (h.block i hi hne)⟩

theorem RdPost.weaken {lo hi lo' hi' : Int} {a : Nat} {w : World} {e : Ending} {w' : World} (h : RdPost lo hi a w e w') (h0 : lo' ≤ lo) (h1 : hi ≤ hi') : RdPost lo' hi' a w e w' := by
  obtain ⟨v, v0, v1, rest⟩ := h
  exact ⟨v, by omega, by omega, rest⟩

set_option maxHeartbeats 1000000 in
theorem below_c (a : Nat) (n m : Int) (hn : n ≤ 4611686018427387904) (h0 : 0 ≤ m) (hm : n - 1 ≤ m) (w : World) (h : Rd w a) : Calls Tryd.prog 46 #[.pointer (some ⟨a, 0, none⟩), .int .i64 n] w (RdPost 0 m a w) := by
  by_cases h1 : n ≤ 1
  · go_enter Tryd.func46, Tryd.ntmps46
    go_wp2_with fail
    go_returns
    exact ⟨0, by omega, by omega, rfl, h, World.grownBy.refl _ _⟩
  · by_cases h2 : n ≤ 256
    · go_enter Tryd.func46, Tryd.ntmps46
      go_wp2_with fail
      refine (next_c a _ h).mono ?_
      rintro e w1 ⟨v, v0, v1, rfl, hr, hg⟩
      go_wp2_with fail
      go_returns
      exact ⟨v % n, Int.emod_nonneg _ (by omega), by have := Int.emod_lt_of_pos v (show 0 < n by omega); omega, rfl, hr, hg⟩
    · go_enter Tryd.func46, Tryd.ntmps46
      go_wp2_with fail
      refine (next_c a _ h).mono ?_
      rintro e w1 ⟨v, v0, v1, rfl, hr, hg⟩
      go_wp2_with fail
      refine (next_c a _ hr).mono ?_
      rintro e w2 ⟨u, u0, u1, rfl, hr2, hg2⟩
      go_wp2_with fail
      go_returns
      exact ⟨(v * 256 + u) % n, Int.emod_nonneg _ (by omega), by have := Int.emod_lt_of_pos (v * 256 + u) (show 0 < n by omega); omega, rfl, hr2, grown_trans hg hg2⟩

/-- A yes or a no, the reader where it stood. -/
def RdBool (a : Nat) (w : World) : Ending → World → Prop := fun e w' => ∃ b : Bool, e = .returned (.bool b) ∧ Rd w' a ∧ w.grownBy w' (some a)

theorem once_c (a : Nat) (n : Int) (hn : n ≤ 4611686018427387904) (h0 : 1 ≤ n) (w : World) (h : Rd w a) : Calls Tryd.prog 31 #[.pointer (some ⟨a, 0, none⟩), .int .i64 n] w (RdBool a w) := by
  go_enter Tryd.func31, Tryd.ntmps31
  go_wp2_with fail
  refine (below_c a n (n - 1) hn (by omega) (by omega) _ h).mono ?_
  rintro e w1 ⟨v, v0, v1, rfl, hr, hg⟩
  go_wp2_with fail
  go_returns
  exact ⟨_, rfl, hr, hg⟩

/-- A word, the reader where it stood. -/
def RdWord (a : Nat) (w : World) : Ending → World → Prop := fun e w' => ∃ u : Int, 0 ≤ u ∧ u ≤ 18446744073709551615 ∧ e = .returned (.int .u64 u) ∧ Rd w' a ∧ w.grownBy w' (some a)

set_option maxHeartbeats 1000000 in
theorem word_c (a : Nat) (w : World) (h : Rd w a) : Calls Tryd.prog 78 #[.pointer (some ⟨a, 0, none⟩)] w (RdWord a w) := by
  go_enter Tryd.func78, Tryd.ntmps78
  go_wp2
  go_loopw [3, 4] (fun x i wr => ∃ (k : Nat) (u : Int), k ≤ 8 ∧ i = .int .i64 k ∧ x = .int .u64 u ∧ 0 ≤ u ∧ u ≤ 18446744073709551615 ∧ Rd wr a ∧ w.grownBy wr (some a)) (fun _ i _ => 8 - (intOf i).toNat)
  case atStart => exact ⟨0, 0, by omega, rfl, rfl, by omega, by omega, h, World.grownBy.refl _ _⟩
  case round =>
    obtain ⟨k, u, hk, rfl, rfl, u0, u1, hr, hg⟩ := hrel
    by_cases hlt : k < 8
    · go_wp2_with fail
      refine (next_c a _ hr).mono ?_
      rintro e w1 ⟨v, v0, v1, rfl, hr1, hg1⟩
      go_wp2_with fail
      go_roundw
      case rel =>
        have hb := bounds_u64 (wf_bits .or .u64 (IntKind.u64.wrap (u * 256)) v)
        exact ⟨k + 1, _, by omega, by go_num, rfl, hb.1, hb.2, hr1, grown_trans hg hg1⟩
      case measure => simp [intOf]; omega
    · go_wp2_with fail
      go_returns
      exact ⟨u, u0, u1, rfl, hr, hg⟩

theorem wrap64_range (n : Int) : -9223372036854775808 ≤ wrap64 n ∧ wrap64 n ≤ 9223372036854775807 := by unfold wrap64; omega
theorem small_range {n : Int} (h0 : -4611686018427387904 ≤ n) (h1 : n ≤ 4611686018427387904) : -9223372036854775808 ≤ n ∧ n ≤ 9223372036854775807 := by omega

/-- Any number at all. -/
def RdAny (a : Nat) (w : World) : Ending → World → Prop := RdPost (-9223372036854775808) 9223372036854775807 a w

set_option maxHeartbeats 1000000 in
theorem near_c (a : Nat) (lo hi : Int) (hl : -2305843009213693952 ≤ lo) (hh : hi ≤ 2305843009213693952) (hlh : lo ≤ hi) (w : World) (h : Rd w a) : Calls Tryd.prog 63 #[.pointer (some ⟨a, 0, none⟩), .int .i64 lo, .int .i64 hi] w (RdAny a w) := by
  go_enter Tryd.func63, Tryd.ntmps63
  go_wp2_with fail
  refine (below_c a 8 7 (by omega) (by omega) (by omega) _ h).mono ?_
  rintro e w1 ⟨v, v0, v1, rfl, hr, hg⟩
  by_cases c0 : v = 0
  · subst c0
    go_wp2_with fail
    go_returns
    exact ⟨lo, by omega, by omega, rfl, hr, hg⟩
  · by_cases c1 : v = 1
    · subst c1
      go_wp2_with fail
      go_returns
      exact ⟨hi, by omega, by omega, rfl, hr, hg⟩
    · go_wp2_with fail
      refine (word_c a _ hr).mono ?_
      rintro e w2 ⟨u, u0, u1, rfl, hr2, hg2⟩
      go_wp2_with fail
      go_returns
      refine ⟨_, ?_, ?_, rfl, hr2, grown_trans hg hg2⟩
      · exact (wrap64_range _).1
      · exact (wrap64_range _).2

set_option maxHeartbeats 1000000 in
theorem off_c (a : Nat) (lo hi : Int) (hl : -2305843009213693952 ≤ lo) (hh : hi ≤ 2305843009213693952) (hlh : lo ≤ hi) (w : World) (h : Rd w a) : Calls Tryd.prog 49 #[.pointer (some ⟨a, 0, none⟩), .int .i64 lo, .int .i64 hi] w (RdAny a w) := by
  go_enter Tryd.func49, Tryd.ntmps49
  go_wp2_with fail
  refine (once_c a 24 (by omega) (by omega) _ h).mono ?_
  rintro e w1 ⟨b, rfl, hr, hg⟩
  cases b with
  | false =>
    go_wp2_with fail
    refine (near_c a lo hi hl hh hlh _ hr).mono ?_
    rintro e w2 ⟨v, v0, v1, rfl, hr2, hg2⟩
    go_wp2_with fail
    go_returns
    exact ⟨v, v0, v1, rfl, hr2, grown_trans hg hg2⟩
  | true =>
    have ha : a < w1.heap.size := by
      obtain ⟨_, _, _, hb, _⟩ := hr
      exact (Array.getElem?_eq_some_iff.1 hb).1
    go_wp2_with fail
    refine (below_c a 4 3 (by omega) (by omega) (by omega) _ (hr.kept (World.grownBy_alloc w1 _ none) (by simp))).mono ?_
    rintro e w2 ⟨v, v0, v1, rfl, hr2, hg2⟩
    have hblk : w2.heap[w1.heap.size]? = some (.cells #[.int .i64 (lo - 1), .int .i64 (hi + 1), .int .i64 (-9223372036854775808), .int .i64 9223372036854775807] 2) :=
      (hg2.block _ (by simp) (fun e => by cases e; omega)).trans (blk_new w1 _)
    have d0 : w2.cell? ⟨w1.heap.size, 0, none⟩ = some (.int .i64 (lo - 1)) := by simp [World.cell?, hblk]
    have d1 : w2.cell? ⟨w1.heap.size, 1, none⟩ = some (.int .i64 (hi + 1)) := by simp [World.cell?, hblk]
    have d2 : w2.cell? ⟨w1.heap.size, 2, none⟩ = some (.int .i64 (-9223372036854775808)) := by simp [World.cell?, hblk]
    have d3 : w2.cell? ⟨w1.heap.size, 3, none⟩ = some (.int .i64 9223372036854775807) := by simp [World.cell?, hblk]
    have hg3 := grown_trans hg (grown_trans (World.grownBy_alloc w1 _ _) hg2)
    clear hblk
    rcases (show v = 0 ∨ v = 1 ∨ v = 2 ∨ v = 3 by omega) with rfl | rfl | rfl | rfl
    all_goals
      go_wp2_with fail
      go_returns
      exact ⟨_, by omega, by omega, rfl, hr2, hg3⟩

end Go.Proofs.YtbkkgkmllplbaaaDoor
