/- Drawn texts for digests and tags: so many bytes, just; any text of at most so many. -/
import Derived.Test.YtphmlpdohkfpiaaDoorBytesDraw
import Derived.Test.YtphmlpdohkfpiaaDoorDraw0
namespace Go.Proofs.YtphmlpdohkfpiaaDoor
open Go.ChangeShapes Go.WideShapes Go.ChangeAt Go.RowKit
set_option linter.unusedVariables false

set_option maxHeartbeats 2000000 in
theorem exact_c (a : Nat) (m : Nat) (hm : m ≤ 1000) (w : World) (h : Rd w a) : Calls Tryd.prog 37 #[.pointer (some ⟨a, 0, none⟩), .int .i64 m] w (RdText m a w) := by
  obtain ⟨i0, hi, hz0, hz1, hz2⟩ := info_parts infoByte'
  have ha : a < w.heap.size := by
    obtain ⟨_, _, _, hb, _⟩ := h
    exact (Array.getElem?_eq_some_iff.1 hb).1
  go_enter Tryd.func37, Tryd.ntmps37
  go_wp2_with fail
  have hrow0 := World.ownsRow_made (base := w.heap.size) (e := 5) (size := 1) w #[] 0 (Nat.le_refl _) (by simp [maxLen]) rfl
  have hr2 := h.kept (World.grownBy_alloc w (.cells #[] 5) none) (by simp)
  have hg02 := World.grownBy_alloc w (.cells #[] 5) (some a)
  go_loopw [5, 6] (fun o i wr => ∃ (k : Nat) (xs : List Int), k ≤ m ∧ i = .int .i64 k ∧ xs.length = k ∧ wr.ownsRow w.heap.size 5 1 o xs.length (xs.map (Value.int .u8)) ∧ Rd wr a ∧ w.grownBy wr (some a)) (fun _ i _ => (m : Nat) - (intOf i).toNat)
  case atStart => exact ⟨0, [], Nat.zero_le _, rfl, rfl, hrow0, hr2, hg02⟩
  case round =>
    obtain ⟨k, xs, hk, rfl, hxk, hrow, hr, hg⟩ := hrel
    by_cases hk0 : k < m
    · have hk1 : (k : Int) < (m : Int) := by omega
      go_wp2_with fail
      refine (below_c a 256 255 (by omega) (by omega) (by omega) _ hr).mono ?_
      rintro e w3 ⟨c, c0, c1, rfl, hr3, hg3⟩
      have hrow3 := hrow.kept hg3 (.inr (fun e => by have := (hrow.lt a e).1; omega))
      have hg03 := grown_trans hg hg3
      have hsz : w.heap.size ≤ w3.heap.size := hg03.size
      clear hrow hr hg3
      go_wp2_with (at_builtin; refine wpList_append_own _ rfl _ _ 35 rfl w.heap.size 5 i0 (.int .u8 0) 1 1 Tryd.underlying35 hi hz0 hz1 hz2 rfl (by decide) _ _ _ rfl (hrow3.alloc _) ⟨w3.heap.size, 0, none⟩ 1 1 [.int .u8 c] rfl rfl (cell_one_new _ _ _) (by simp [Value.oneCell']) (by unfold maxLen; omega) (by omega) (by simp; omega) ?_; intro v' w4 hown' hgrow _)
      have hgrow' : (w3.alloc (.cells #[.int .u8 c] 5)).grownBy w4 u5.ownBlock := hgrow
      clear hgrow
      go_roundw
      case rel =>
        exact ⟨k + 1, xs ++ [c], by omega, by rw [show ((k + 1 : Nat) : Int) = (k : Int) + 1 from by omega], by simp; omega, by simpa using hown',
          (hr3.kept (World.grownBy_alloc w3 _ none) (by simp)).kept hgrow' (fun g hg => by have := (hrow3.lt g hg).1; omega),
          grown_own (grown_trans hg03 (World.grownBy_alloc w3 _ _)) hgrow' (fun g hg => (hrow3.lt g hg).1)⟩
      case measure => simp [intOf]; omega
    · have hk1 : ¬ (k : Int) < (m : Int) := by omega
      have hcv := convert_owned (P := Tryd.prog) (src := 35) (dst := 9) Tryd.underlying35 Tryd.underlying5 Tryd.underlying9 hrow
      go_wp2_with fail
      go_returns
      exact ⟨strOfNums xs, by rw [strOfNums_size]; omega, rfl, hr, hg⟩
/-- Any text of at most so many bytes; nothing that lay has turned. -/
def AnyTextH (m : Nat) (w : World) : Ending → World → Prop := fun e w' => ∃ s : ByteArray, s.size ≤ m ∧ e = .returned (.string s) ∧ Below w.heap.size w w'
set_option maxHeartbeats 1000000 in
theorem drawSha256_c (x : Option Addr) (n cap : Nat) (w : World) (hc : Code w.heap.size w (.slice x n cap) n) (hn : n ≤ 1048576) : Calls Tryd.prog 21 #[.slice x n cap] w (AnyTextH 130 w) := by
  go_enter Tryd.func21, Tryd.ntmps21
  go_wp2_with fail
  refine (open_c x n cap _).mono ?_
  rintro e w1 ⟨rfl, rfl⟩
  go_wp2_with fail
  refine (once_c _ 3 (by omega) (by omega) _ (rd_open hc hn)).mono ?_
  rintro e w2 ⟨b, rfl, hr2, hg2⟩
  have hb2 := grown_below (below_new w _) hg2 (Nat.le_refl _)
  cases b with
  | true =>
    go_wp2_with fail
    refine (below_c _ 13 12 (by omega) (by omega) (by omega) _ hr2).mono ?_
    rintro e w3 ⟨v, v0, v1, rfl, hr3, hg3⟩
    have hb3 := grown_below hb2 hg3 (Nat.le_refl _)
    obtain ⟨j, rfl⟩ := Int.eq_ofNat_of_zero_le v0
    go_wp2_with fail
    rw [show (53 : Int) + (j : Int) = ((53 + j : Nat) : Int) from by omega]
    refine (exact_c _ (53 + j) (by omega) _ hr3).mono ?_
    rintro e w4 ⟨t, ht, rfl, hr4, hg4⟩
    go_wp2_with fail
    go_returns
    exact ⟨t, by omega, rfl, grown_below hb3 hg4 (Nat.le_refl _)⟩
  | false =>
    go_wp2_with fail
    refine (bytes_c _ 130 (by omega) _ hr2).mono ?_
    rintro e w4 ⟨t, ht, rfl, hr4, hg4⟩
    go_wp2_with fail
    go_returns
    exact ⟨t, ht, rfl, grown_below hb2 hg4 (Nat.le_refl _)⟩
/-- A key and a text, each of at most so many bytes. -/
def AnyKeyText (w : World) : Ending → World → Prop := fun e w' => ∃ k t : ByteArray, k.size ≤ 69 ∧ t.size ≤ 30 ∧ e = .returned (.tuple #[.string k, .string t]) ∧ Below w.heap.size w w'
set_option maxHeartbeats 1000000 in
theorem drawHmac_c (x : Option Addr) (n cap : Nat) (w : World) (hc : Code w.heap.size w (.slice x n cap) n) (hn : n ≤ 1048576) : Calls Tryd.prog 22 #[.slice x n cap] w (AnyKeyText w) := by
  go_enter Tryd.func22, Tryd.ntmps22
  go_wp2_with fail
  refine (open_c x n cap _).mono ?_
  rintro e w1 ⟨rfl, rfl⟩
  go_wp2_with fail
  refine (bytes_c _ 20 (by omega) _ (rd_open hc hn)).mono ?_
  rintro e w2 ⟨k, hk, rfl, hr2, hg2⟩
  have hb2 := grown_below (below_new w _) hg2 (Nat.le_refl _)
  go_wp2_with fail
  refine (once_c _ 4 (by omega) (by omega) _ hr2).mono ?_
  rintro e w3 ⟨b, rfl, hr3, hg3⟩
  have hb3 := grown_below hb2 hg3 (Nat.le_refl _)
  cases b with
  | true =>
    go_wp2_with fail
    refine (below_c _ 10 9 (by omega) (by omega) (by omega) _ hr3).mono ?_
    rintro e w4 ⟨v, v0, v1, rfl, hr4, hg4⟩
    have hb4 := grown_below hb3 hg4 (Nat.le_refl _)
    obtain ⟨j, rfl⟩ := Int.eq_ofNat_of_zero_le v0
    go_wp2_with fail
    rw [show (60 : Int) + (j : Int) = ((60 + j : Nat) : Int) from by omega]
    refine (exact_c _ (60 + j) (by omega) _ hr4).mono ?_
    rintro e w5 ⟨k2, hk2, rfl, hr5, hg5⟩
    have hb5 := grown_below hb4 hg5 (Nat.le_refl _)
    go_wp2_with fail
    refine (bytes_c _ 30 (by omega) _ hr5).mono ?_
    rintro e w6 ⟨t, ht, rfl, hr6, hg6⟩
    go_wp2_with fail
    go_returns
    exact ⟨k2, t, by omega, ht, rfl, grown_below hb5 hg6 (Nat.le_refl _)⟩
  | false =>
    go_wp2_with fail
    refine (bytes_c _ 30 (by omega) _ hr3).mono ?_
    rintro e w6 ⟨t, ht, rfl, hr6, hg6⟩
    go_wp2_with fail
    go_returns
    exact ⟨k, t, by omega, ht, rfl, grown_below hb3 hg6 (Nat.le_refl _)⟩
end Go.Proofs.YtphmlpdohkfpiaaDoor
