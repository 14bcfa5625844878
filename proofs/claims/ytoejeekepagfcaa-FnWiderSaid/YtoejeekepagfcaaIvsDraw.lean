/- The reference's drawing of lists of intervals: some list of so many at most; nothing that lay has turned. -/
import Derived.Test.YtoejeekepagfcaaDraw0
import Derived.Test.YtoejeekepagfcaaIvs
import Derived.Test.YtoejeekepagfcaaIvRow
import Derived.Laws.AppendOwn
import Derived.Laws.OwnMore
namespace Go.Proofs.Ytoejeekepagfcaa
open Go.ChangeShapes Go.WideShapes Go.ChangeAt Go.RowKit
set_option linter.unusedVariables false
set_option linter.unusedSimpArgs false


/-- Some intervals, so many at most; the reader where it stood. -/
def RdIvs (m : Nat) (a : Nat) (w : World) : Ending → World → Prop := fun e w' =>
  ∃ (x : Option Addr) (cap : Nat) (l : List Iv), e = .returned (.slice x l.length cap) ∧ l.length ≤ m ∧ IvRow w.heap.size w' x cap l ∧ Rd w' a ∧ w.grownBy w' (some a)

theorem grown_own' {w b c : World} {a : Nat} {row : Option Nat} (h : w.grownBy b (some a)) (hg : b.grownBy c row) (hrow : ∀ k, row = some k → w.heap.size ≤ k) : w.grownBy c (some a) :=
  ⟨hg.os.trans h.os, hg.tape.trans h.tape, hg.output.trans h.output, Nat.le_trans h.size hg.size, fun i hi hne => (hg.block i (Nat.lt_of_lt_of_le hi h.size) (fun e => by have := hrow i e.symm; omega)).trans (h.block i hi hne)⟩

set_option maxHeartbeats 2000000 in
theorem intervals_c (a : Nat) (m : Nat) (hm : m ≤ 100) (w : World) (h : Rd w a) : Calls Try.prog 45 #[.pointer (some ⟨a, 0, none⟩), .int .i64 m] w (RdIvs m a w) := by
  obtain ⟨i0, hi, hz0, hz1, hz2⟩ := info_partsT infoIv'
  have HI0 := Lib.hid hi
  have HZ0 := Lib.hid hz0
  have HZ1 := Lib.hid hz1
  have HZ2 := Lib.hid hz2
  clear hi hz0 hz1 hz2
  have ha : a < w.heap.size := by
    obtain ⟨_, _, _, hb, _⟩ := h
    exact (Array.getElem?_eq_some_iff.1 hb).1
  go_enter Try.func45, Try.ntmps45
  go_wp2_with fail
  have hrow0 := World.ownsRow_made (base := w.heap.size) (e := 25) (size := 2) w #[] 0 (Nat.le_refl _) (by simp [maxLen]) rfl
  refine (below_c a ((m : Int) + 1) m (by omega) (by omega) (by omega) _ (h.kept (World.grownBy_alloc w _ none) (by simp))).mono ?_
  rintro e w2 ⟨v, v0, v1, rfl, hr2, hg2⟩
  have hrow2 := hrow0.kept hg2 (.inr (by simp [Value.ownBlock]; omega))
  have hg02 := grown_trans (World.grownBy_alloc w (.cells #[] 25) (some a)) hg2
  clear hrow0 hg2
  obtain ⟨j, rfl⟩ := Int.eq_ofNat_of_zero_le v0
  go_wp2_with fail
  go_loopw [5, 6] (fun o i wr => ∃ (k : Nat) (l : List Iv), k ≤ j ∧ i = .int .i64 k ∧ l.length + k = j ∧ wr.ownsRow w.heap.size 25 2 o l.length (flatIv l) ∧ Rd wr a ∧ w.grownBy wr (some a)) (fun _ i _ => (intOf i).toNat)
  case atStart => exact ⟨j, [], Nat.le_refl _, rfl, by simp, hrow2, hr2, hg02⟩
  case round =>
    obtain ⟨k, l, hk, rfl, hlk, hrow, hr, hg⟩ := hrel
    by_cases hk0 : 0 < k
    · have hk1 : (0 : Int) < (k : Int) := by omega
      go_wp2_with fail
      refine (below_c a 40 39 (by omega) (by omega) (by omega) _ hr).mono ?_
      rintro e w3 ⟨c, c0, c1, rfl, hr3, hg3⟩
      have hrow3 := hrow.kept hg3 (.inr (fun e => by have := (hrow.lt a e).1; omega))
      have hg03 := grown_trans hg hg3
      clear hrow hr hg hg3
      go_wp2_with fail
      refine (below_c a 20 19 (by omega) (by omega) (by omega) _ hr3).mono ?_
      rintro e w4 ⟨d, d0, d1, rfl, hr4, hg4⟩
      have hrow4 := hrow3.kept hg4 (.inr (fun e => by have := (hrow3.lt a e).1; omega))
      have hg04 := grown_trans hg03 hg4
      have hsz : w.heap.size ≤ w4.heap.size := hg04.size
      clear hrow3 hr3 hg03 hg4
      have hF := Lib.hid (flatIv_append l [⟨c - 20, c - 20 + d⟩])
      go_wp2_with (at_builtin; refine wpList_append_own _ rfl _ _ 28 rfl w.heap.size 25 i0 (.agg #[.int .i64 0, .int .i64 0]) 2 16 Try.underlying28 HI0.out HZ0.out HZ1.out HZ2.out rfl (by decide) _ _ _ rfl (hrow4.alloc _) ⟨w4.heap.size, 0, none⟩ 1 1 [.int .i64 (c - 20), .int .i64 (c - 20 + d)] rfl rfl (cell_two_new w4 _ _ _) (by simp [Value.oneCell']) (by unfold maxLen; omega) (by omega) (by simp; omega) ?_; intro v' w5 hown' hgrow _)
      have hgrow' : (w4.alloc (.cells #[.int .i64 (c - 20), .int .i64 (c - 20 + d)] 25)).grownBy w5 u5.ownBlock := hgrow
      clear hgrow
      go_roundw
      case rel =>
        exact ⟨k - 1, l ++ [⟨c - 20, c - 20 + d⟩], by omega, by rw [show ((k - 1 : Nat) : Int) = (k : Int) - 1 from by omega], by simp; omega, by rw [hF.out]; simpa [flatIv, Iv.cells] using hown',
          (hr4.kept (World.grownBy_alloc w4 _ none) (by simp)).kept hgrow' (fun g hg => by have := (hrow4.lt g hg).1; omega),
          grown_own' (grown_trans hg04 (World.grownBy_alloc w4 _ _)) hgrow' (fun g hg => (hrow4.lt g hg).1)⟩
      case measure => simp [intOf]; omega
    · have hk1 : ¬ (0 : Int) < (k : Int) := by omega
      go_wp2_with fail
      refine (once_c a 20 (by omega) (by omega) _ hr).mono ?_
      rintro e w3 ⟨b, rfl, hr3, hg3⟩
      have hrow3 := hrow.kept hg3 (.inr (fun e => by have := (hrow.lt a e).1; omega))
      have hg03 := grown_trans hg hg3
      obtain ⟨x, cap, rfl⟩ := ownsRow_formT hrow3
      clear hrow hr hg hg3
      have hlj : l.length ≤ m := by omega
      cases b with
      | false =>
        go_wp2_with fail
        go_returns
        exact ⟨x, cap, l, rfl, hlj, hrow3, hr3, hg03⟩
      | true =>
        cases l with
        | nil =>
          go_wp2_with fail
          go_returns
          exact ⟨x, cap, [], rfl, hlj, hrow3, hr3, hg03⟩
        | cons v r =>
          obtain ⟨n, hn⟩ : ∃ n, n = (v :: r).length := ⟨_, rfl⟩
          have hn0 : 0 < n := by rw [hn]; simp
          have hn1 : (0 : Int) < (n : Int) := by omega
          have hnm : n ≤ m := by rw [hn]; exact hlj
          have HN := Lib.hid hn
          rw [← hn]
          clear hn hlj
          go_wp2_with fail
          refine (off_c a (-20) 20 (by omega) (by omega) (by omega) _ hr3).mono ?_
          rintro e w4 ⟨u, u0, u1, rfl, hr4, hg4⟩
          have hrow4 := hrow3.kept hg4 (.inr (fun e => by have := (hrow3.lt a e).1; omega))
          have hg04 := grown_trans hg03 hg4
          have hrow5 := hrow4
          rcases hrow4.2 with ⟨e, e0⟩ | ⟨g, c, cur, e, hbg, hg, _⟩
          · simp at e0
          · simp only [Value.slice.injEq] at e
            obtain ⟨rfl, _, rfl⟩ := e
            have c1 := World.ownsRow.cellAt hrow5 1 (by simp; omega)
            have f1 := World.ownsRow.frozenAt hrow5 1
            have hst := World.ownsRow.stored hrow5 1 (.int .i64 u)
            have e1 : (flatIv (v :: r))[1]? = some (.int .i64 v.hi) := rfl
            rw [e1] at c1
            have hst1 : (w4.setCell ⟨g, 1, none⟩ (.int .i64 u)).ownsRow w.heap.size 25 2 (.slice (some ⟨g, 0, none⟩) (v :: r).length cap) (v :: r).length (flatIv (⟨v.lo, u⟩ :: r)) := hst.1
            have hr5 := hr4.kept hst.2 (fun k e => by simp only [Option.some.injEq] at e; omega)
            have hg5 := grown_own' hg04 hst.2 (fun k e => by simp only [Option.some.injEq] at e; omega)
            rw [← HN.out] at hst1
            have HS := Lib.hid hst1
            clear hst hst1 hrow3 hrow4 hrow5 e1 hg
            go_wp2_with fail
            go_returns
            refine ⟨_, cap, ⟨v.lo, u⟩ :: r, by rw [HN.out]; rfl, by have := HN.out; simp at this ⊢; omega, ?_, hr5, hg5⟩
            have := HS.out
            rw [HN.out] at this
            exact this

/-- Some intervals, so many at most, in a row of the call's own; nothing that lay has turned. -/
def AnyIvs (m : Nat) (w : World) : Ending → World → Prop := fun e w' =>
  ∃ (x : Option Addr) (cap : Nat) (l : List Iv), e = .returned (.slice x l.length cap) ∧ l.length ≤ m ∧ IvRow w.heap.size w' x cap l ∧ Below w.heap.size w w'

theorem IvRow.low {base base' : Nat} {W : World} {x : Option Addr} {cap : Nat} {l : List Iv} (h : IvRow base W x cap l) (hb : base' ≤ base) : IvRow base' W x cap l := by
  refine ⟨h.1, ?_⟩
  rcases h.2 with e | ⟨g, c, cur, e, hg, r⟩
  · exact .inl e
  · exact .inr ⟨g, c, cur, e, Nat.le_trans hb hg, r⟩

theorem drawAgreed_c (x : Option Addr) (n cap : Nat) (w : World) (hc : Code w.heap.size w (.slice x n cap) n) (hn : n ≤ 1048576) : Calls Try.prog 28 #[.slice x n cap] w (AnyIvs 8 w) := by
  go_enter Try.func28, Try.ntmps28
  go_wp2_with fail
  refine (open_c x n cap _).mono ?_
  rintro e w1 ⟨rfl, rfl⟩
  go_wp2_with fail
  refine (intervals_c _ 8 (by omega) _ (rd_open hc hn)).mono ?_
  rintro e w2 ⟨y, c, l, rfl, hl, hrow, hr, hg⟩
  go_wp2_with fail
  go_returns
  exact ⟨y, c, l, rfl, hl, hrow.low (by simp), grown_below (below_new w _) hg (Nat.le_refl _)⟩

theorem drawChimers_c (x : Option Addr) (n cap : Nat) (w : World) (hc : Code w.heap.size w (.slice x n cap) n) (hn : n ≤ 1048576) : Calls Try.prog 33 #[.slice x n cap] w (AnyIvs 8 w) := by
  go_enter Try.func33, Try.ntmps33
  go_wp2_with fail
  refine (drawAgreed_c x n cap w hc hn).mono ?_
  rintro e w2 ⟨y, c, l, rfl, hl, hrow, hb⟩
  go_wp2_with fail
  go_returns
  exact ⟨y, c, l, rfl, hl, hrow, hb⟩

theorem drawMajority_c (x : Option Addr) (n cap : Nat) (w : World) (hc : Code w.heap.size w (.slice x n cap) n) (hn : n ≤ 1048576) : Calls Try.prog 35 #[.slice x n cap] w (AnyIvs 8 w) := by
  go_enter Try.func35, Try.ntmps35
  go_wp2_with fail
  refine (drawAgreed_c x n cap w hc hn).mono ?_
  rintro e w2 ⟨y, c, l, rfl, hl, hrow, hb⟩
  go_wp2_with fail
  go_returns
  exact ⟨y, c, l, rfl, hl, hrow, hb⟩

/-- Some intervals and a place. -/
def AnyIvsAt (m : Nat) (w : World) : Ending → World → Prop := fun e w' =>
  ∃ (x : Option Addr) (cap : Nat) (l : List Iv) (q : Int), e = .returned (.tuple #[.slice x l.length cap, .int .i64 q]) ∧ l.length ≤ m ∧ IvRow w.heap.size w' x cap l ∧ Below w.heap.size w w'
theorem drawDepth_c (x : Option Addr) (n cap : Nat) (w : World) (hc : Code w.heap.size w (.slice x n cap) n) (hn : n ≤ 1048576) : Calls Try.prog 29 #[.slice x n cap] w (AnyIvsAt 7 w) := by
  go_enter Try.func29, Try.ntmps29
  go_wp2_with fail
  refine (open_c x n cap _).mono ?_
  rintro e w1 ⟨rfl, rfl⟩
  go_wp2_with fail
  refine (intervals_c _ 7 (by omega) _ (rd_open hc hn)).mono ?_
  rintro e w2 ⟨y, c, l, rfl, hl, hrow, hr, hg⟩
  go_wp2_with fail
  refine (below_c _ 50 49 (by omega) (by omega) (by omega) _ hr).mono ?_
  rintro e w3 ⟨q, q0, q1, rfl, hr3, hg3⟩
  have hrow3 := hrow.keep hg3 (fun g e => by have := (hrow.ge g e).1; simp at this ⊢; omega)
  go_wp2_with fail
  go_returns
  exact ⟨y, c, l, _, rfl, hl, hrow3.low (by simp), grown_below (below_new w _) (grown_trans hg hg3) (Nat.le_refl _)⟩
end Go.Proofs.Ytoejeekepagfcaa
