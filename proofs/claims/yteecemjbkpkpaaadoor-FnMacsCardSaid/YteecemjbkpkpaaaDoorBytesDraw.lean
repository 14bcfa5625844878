/- A few bytes of any kind: some text of at most so many bytes; the reader where it stood. -/
import Derived.Test.YteecemjbkpkpaaaDoorHurt
import Derived.Test.YteecemjbkpkpaaaDoorPut
import Derived.Maps.AppendAt
namespace Go.Proofs.YteecemjbkpkpaaaDoor
open Go.ChangeShapes Go.WideShapes Go.ChangeAt Go.RowKit
set_option linter.unusedVariables false

theorem infoByte' : (Tryd.prog.info? 5).map (fun i => (i.zero, i.size, i.bytes)) = some (some (.int .u8 0), 1, 1) := by kernel_rfl

theorem grown_own {w b c : World} {a : Nat} {row : Option Nat} (h : w.grownBy b (some a)) (hg : b.grownBy c row) (hrow : ∀ k, row = some k → w.heap.size ≤ k) : w.grownBy c (some a) :=
  ⟨hg.os.trans h.os, hg.tape.trans h.tape, hg.output.trans h.output, Nat.le_trans h.size hg.size, fun i hi hne => (hg.block i (Nat.lt_of_lt_of_le hi h.size) (fun e => by have := hrow i e.symm; omega)).trans (h.block i hi hne)⟩

set_option maxHeartbeats 2000000 in
theorem bytes_c (a : Nat) (m : Nat) (hm : m ≤ 1000) (w : World) (h : Rd w a) : Calls Tryd.prog 14 #[.pointer (some ⟨a, 0, none⟩), .int .i64 m] w (RdText m a w) := by
  obtain ⟨i0, hi, hz0, hz1, hz2⟩ := info_parts infoByte'
  have ha : a < w.heap.size := by
    obtain ⟨_, _, _, hb, _⟩ := h
    exact (Array.getElem?_eq_some_iff.1 hb).1
  go_enter Tryd.func14, Tryd.ntmps14
  go_wp2_with fail
  have hrow0 := World.ownsRow_made (base := w.heap.size) (e := 5) (size := 1) w #[] 0 (Nat.le_refl _) (by simp [maxLen]) rfl
  refine (below_c a ((m : Int) + 1) m (by omega) (by omega) (by omega) _ (h.kept (World.grownBy_alloc w _ none) (by simp))).mono ?_
  rintro e w2 ⟨v, v0, v1, rfl, hr2, hg2⟩
  have hrow2 := hrow0.kept hg2 (.inr (by simp [Value.ownBlock]; omega))
  have hg02 := grown_trans (World.grownBy_alloc w (.cells #[] 5) (some a)) hg2
  clear hrow0 hg2
  obtain ⟨j, rfl⟩ := Int.eq_ofNat_of_zero_le v0
  go_wp2_with fail
  go_loopw [5, 6] (fun o i wr => ∃ (k : Nat) (xs : List Int), k ≤ j ∧ i = .int .i64 k ∧ xs.length + k = j ∧ wr.ownsRow w.heap.size 5 1 o xs.length (xs.map (Value.int .u8)) ∧ Rd wr a ∧ w.grownBy wr (some a)) (fun _ i _ => (intOf i).toNat)
  case atStart => exact ⟨j, [], Nat.le_refl _, rfl, by simp, hrow2, hr2, hg02⟩
  case round =>
    obtain ⟨k, xs, hk, rfl, hxk, hrow, hr, hg⟩ := hrel
    by_cases hk0 : 0 < k
    · have hk1 : (0 : Int) < (k : Int) := by omega
      go_wp2_with fail
      refine (below_c a 256 255 (by omega) (by omega) (by omega) _ hr).mono ?_
      rintro e w3 ⟨c, c0, c1, rfl, hr3, hg3⟩
      have hrow3 := hrow.kept hg3 (.inr (fun e => by have := (hrow.lt a e).1; omega))
      have hg03 := grown_trans hg hg3
      have hsz : w.heap.size ≤ w3.heap.size := hg03.size
      clear hrow hr hg3
      go_wp2_with (at_builtin; refine wpList_append_own _ rfl _ _ 22 rfl w.heap.size 5 i0 (.int .u8 0) 1 1 Tryd.underlying22 hi hz0 hz1 hz2 rfl (by decide) _ _ _ rfl (hrow3.alloc _) ⟨w3.heap.size, 0, none⟩ 1 1 [.int .u8 c] rfl rfl (cell_one_new _ _ _) (by simp [Value.oneCell']) (by unfold maxLen; omega) (by omega) (by simp; omega) ?_; intro v' w4 hown' hgrow _)
      have hgrow' : (w3.alloc (.cells #[.int .u8 c] 5)).grownBy w4 u5.ownBlock := hgrow
      clear hgrow
      go_roundw
      case rel =>
        exact ⟨k - 1, xs ++ [c], by omega, by rw [show ((k - 1 : Nat) : Int) = (k : Int) - 1 from by omega], by simp; omega, by simpa using hown',
          (hr3.kept (World.grownBy_alloc w3 _ none) (by simp)).kept hgrow' (fun g hg => by have := (hrow3.lt g hg).1; omega),
          grown_own (grown_trans hg03 (World.grownBy_alloc w3 _ _)) hgrow' (fun g hg => (hrow3.lt g hg).1)⟩
      case measure => simp [intOf]; omega
    · have hk1 : ¬ (0 : Int) < (k : Int) := by omega
      have hcv := convert_owned (P := Tryd.prog) (src := 22) (dst := 9) Tryd.underlying22 Tryd.underlying5 Tryd.underlying9 hrow
      go_wp2_with fail
      go_returns
      exact ⟨strOfNums xs, by rw [strOfNums_size]; omega, rfl, hr, hg⟩
end Go.Proofs.YteecemjbkpkpaaaDoor
