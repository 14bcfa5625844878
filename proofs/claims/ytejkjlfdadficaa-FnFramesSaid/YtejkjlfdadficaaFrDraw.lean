/- The reference's drawn texts and texts of frames. -/
import Derived.Test.YtejkjlfdadficaaFrameOf
import Derived.Test.YtejkjlfdadficaaHurt
import Derived.Test.YtejkjlfdadficaaBytesDraw
namespace Go.Proofs.Ytejkjlfdadficaa
open Go.ChangeShapes Go.WideShapes Go.ChangeAt Go.RowKit
set_option linter.unusedVariables false
set_option linter.unusedSimpArgs false

set_option maxHeartbeats 1000000 in
theorem text_c (a : Nat) (w : World) (h : Rd w a) : Calls Try.prog 23 #[.pointer (some ⟨a, 0, none⟩)] w (RdText 3 a w) := by
  have ha : a < w.heap.size := by
    obtain ⟨_, _, _, hb, _⟩ := h
    exact (Array.getElem?_eq_some_iff.1 hb).1
  go_enter Try.func23, Try.ntmps23
  go_wp2_with fail
  refine (below_c a 5 4 (by omega) (by omega) (by omega) _ (h.kept (World.grownBy_alloc w _ none) (by simp))).mono ?_
  rintro e w3 ⟨u, u0, u1, rfl, hr3, hg3⟩
  have hblk : w3.heap[w.heap.size]? = some (.cells #[.string ⟨#[]⟩, .string ⟨#[97]⟩, .string ⟨#[120, 10]⟩, .string ⟨#[97, 98, 99]⟩, .string ⟨#[0]⟩] 9) := (hg3.block _ (by simp) (fun e => by cases e; omega)).trans (blk_new w _)
  have d0 : w3.cell? ⟨w.heap.size, 0, none⟩ = some (.string ⟨#[]⟩) := by simp [World.cell?, hblk]
  have d1 : w3.cell? ⟨w.heap.size, 1, none⟩ = some (.string ⟨#[97]⟩) := by simp [World.cell?, hblk]
  have d2 : w3.cell? ⟨w.heap.size, 2, none⟩ = some (.string ⟨#[120, 10]⟩) := by simp [World.cell?, hblk]
  have d3 : w3.cell? ⟨w.heap.size, 3, none⟩ = some (.string ⟨#[97, 98, 99]⟩) := by simp [World.cell?, hblk]
  have d4 : w3.cell? ⟨w.heap.size, 4, none⟩ = some (.string ⟨#[0]⟩) := by simp [World.cell?, hblk]
  clear hblk
  have hgg := grown_trans (World.grownBy_alloc w _ _) hg3
  rcases (show u = 0 ∨ u = 1 ∨ u = 2 ∨ u = 3 ∨ u = 4 by omega) with rfl | rfl | rfl | rfl | rfl
  all_goals
    go_wp2_with fail
    go_returns
    exact ⟨_, by decide, rfl, hr3, hgg⟩
/-- Any text of so many bytes at most. -/
def AnyTextF (m : Nat) (w : World) : Ending → World → Prop := fun e w' => ∃ s : ByteArray, s.size ≤ m ∧ e = .returned (.string s) ∧ Below w.heap.size w w'
set_option maxHeartbeats 1000000 in
theorem drawFrameOf_c (x : Option Addr) (n cap : Nat) (w : World) (hc : Code w.heap.size w (.slice x n cap) n) (hn : n ≤ 1048576) : Calls Try.prog 16 #[.slice x n cap] w (AnyTextF 8 w) := by
  go_enter Try.func16, Try.ntmps16
  go_wp2_with fail
  refine (open_c x n cap _).mono ?_
  rintro e w1 ⟨rfl, rfl⟩
  go_wp2_with fail
  refine (text_c _ _ (rd_open hc hn)).mono ?_
  rintro e w2 ⟨s, hs, rfl, hr2, hg2⟩
  go_wp2_with fail
  refine (bytes_c _ 5 (by omega) _ hr2).mono ?_
  rintro e w3 ⟨t, ht, rfl, hr3, hg3⟩
  go_wp2_with fail
  go_returns
  exact ⟨s ++ t, by rw [ByteArray.size_append]; omega, rfl, grown_below (below_new w _) (grown_trans hg2 hg3) (Nat.le_refl _)⟩
theorem frameB_le (t : ByteArray) : (frameB t).size ≤ 8 + t.size := by
  unfold frameB
  split
  · rw [ByteArray.size_append, headB_size]; omega
  · exact Nat.zero_le _
set_option maxHeartbeats 1000000 in
theorem drawTakeFrames_c (x : Option Addr) (n cap : Nat) (w : World) (hc : Code w.heap.size w (.slice x n cap) n) (hn : n ≤ 1048576) : Calls Try.prog 14 #[.slice x n cap] w (AnyTextF 34 w) := by
  go_enter Try.func14, Try.ntmps14
  go_wp2_with fail
  refine (open_c x n cap _).mono ?_
  rintro e w1 ⟨rfl, rfl⟩
  have hr0 := rd_open hc hn
  go_wp2_with fail
  refine (below_c _ 4 3 (by omega) (by omega) (by omega) _ hr0).mono ?_
  rintro e w2 ⟨u, u0, u1, rfl, hr2, hg2⟩
  have hb2 := grown_below (below_new w _) hg2 (Nat.le_refl _)
  clear hr0 hg2
  obtain ⟨k0, rfl⟩ := Int.eq_ofNat_of_zero_le u0
  go_wp2_with fail
  go_loopw [4, 5] (fun t i wr => ∃ (k : Nat) (s : ByteArray), i = .int .i64 k ∧ t = .string s ∧ s.size + 11 * k ≤ 33 ∧ Rd wr w.heap.size ∧ Below w.heap.size w wr) (fun _ i _ => (intOf i).toNat)
  case atStart => exact ⟨k0, ⟨#[]⟩, rfl, rfl, by have : (⟨#[]⟩ : ByteArray).size = 0 := rfl; omega, hr2, hb2⟩
  case round =>
    obtain ⟨k, s, rfl, rfl, hs, hr, hb⟩ := hrel
    by_cases hk : 0 < k
    · have hk' : decide ((0 : Int) < (k : Int)) = true := decide_eq_true (by omega)
      go_wp2_with fail
      refine (text_c _ _ hr).mono ?_
      rintro e w3 ⟨t, ht, rfl, hr3, hg3⟩
      have hb3 := grown_below hb hg3 (Nat.le_refl _)
      have hz := frameB_le t
      have HF := Lib.hid (frameOf_spec t (by omega))
      obtain ⟨f, hf⟩ : ∃ f, frameB t = f := ⟨_, rfl⟩
      rw [hf] at hz HF
      clear hf
      go_wp2_with fail
      refine (HF.out _).mono ?_
      rintro e w4 ⟨rfl, hb4⟩
      have hr4 : Rd w4 w.heap.size := hr3.kept (row := none) ⟨hb4.os, hb4.tape, hb4.output, hb4.size, fun k hk _ => hb4.block k hk⟩ (by simp)
      have hb34 := grow_next hb3 hb4
      go_wp2_with fail
      go_roundw
      case rel => exact ⟨k - 1, s ++ f, by rw [show ((k - 1 : Nat) : Int) = (k : Int) - 1 by omega], rfl, by rw [ByteArray.size_append]; omega, hr4, hb34⟩
      case measure => simp [intOf]; omega
    · have hk' : decide ((0 : Int) < (k : Int)) = false := decide_eq_false (by omega)
      go_wp2_with fail
      refine (hurt_c _ s (by omega) _ hr).mono ?_
      rintro e w5 ⟨v, hv, rfl, hr5, hg5⟩
      go_wp2_with fail
      go_returns
      exact ⟨v, by omega, rfl, grown_below hb hg5 (Nat.le_refl _)⟩
end Go.Proofs.Ytejkjlfdadficaa
