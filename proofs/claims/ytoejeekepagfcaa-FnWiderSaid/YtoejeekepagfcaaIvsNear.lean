/- The reference's drawing of lists of intervals: near 0, or past all bounds. -/
import Derived.Test.YtoejeekepagfcaaIvsDraw
namespace Go.Proofs.Ytoejeekepagfcaa
open Go.ChangeShapes Go.WideShapes Go.ChangeAt Go.RowKit
set_option linter.unusedVariables false
set_option linter.unusedSimpArgs false

/-- Near 0, or past all bounds. -/
def NearIv (v : Iv) : Prop := -20 ≤ v.lo ∧ v.lo ≤ 20 ∧ (v.hi ≤ 40 ∨ 4000000000000 < v.hi)
theorem near_of {a b : Int} (h0 : -20 ≤ a) (h1 : a ≤ 20) (h2 : b ≤ 40) : NearIv ⟨a, b⟩ := ⟨h0, h1, .inl h2⟩
theorem near_snoc {l : List Iv} {v : Iv} (h : ∀ v ∈ l, NearIv v) (hv : NearIv v) : ∀ u ∈ l ++ [v], NearIv u := fun u hu => by
  rcases List.mem_append.1 hu with hu | hu
  · exact h u hu
  · obtain rfl := List.mem_singleton.1 hu
    exact hv
theorem near_head {v : Iv} {r : List Iv} {u : Int} (h : ∀ x ∈ v :: r, NearIv x) (hu : u ≤ 40 ∨ 4000000000000 < u) : ∀ x ∈ (⟨v.lo, u⟩ : Iv) :: r, NearIv x := fun x hx => by
  rcases List.mem_cons.1 hx with rfl | hx
  · have := h v (List.mem_cons_self ..)
    exact ⟨this.1, this.2.1, hu⟩
  · exact h x (List.mem_cons_of_mem _ hx)
def RdNear (a : Nat) (w : World) : Ending → World → Prop := fun e w' => ∃ v : Int, -9223372036854775808 ≤ v ∧ v ≤ 9223372036854775807 ∧ (v ≤ 40 ∨ 4000000000000 < v) ∧ e = .returned (.int .i64 v) ∧ Rd w' a ∧ w.grownBy w' (some a)
set_option maxHeartbeats 1000000 in
theorem near20_c (a : Nat) (w : World) (h : Rd w a) : Calls Try.prog 58 #[.pointer (some ⟨a, 0, none⟩), .int .i64 (-20), .int .i64 20] w (RdNear a w) := by
  go_enter Try.func58, Try.ntmps58
  go_wp2_with fail
  refine (below_c a 8 7 (by omega) (by omega) (by omega) _ h).mono ?_
  rintro e w1 ⟨v, v0, v1, rfl, hr, hg⟩
  by_cases c0 : v = 0
  · subst c0
    go_wp2_with fail
    go_returns
    exact ⟨_, by omega, by omega, by omega, rfl, hr, hg⟩
  · by_cases c1 : v = 1
    · subst c1
      go_wp2_with fail
      go_returns
      exact ⟨_, by omega, by omega, by omega, rfl, hr, hg⟩
    · go_wp2_with fail
      refine (word_c a _ hr).mono ?_
      rintro e w2 ⟨u, u0, u1, rfl, hr2, hg2⟩
      go_wp2_with fail
      go_returns
      exact ⟨_, by omega, by omega, by omega, rfl, hr2, grown_trans hg hg2⟩
set_option maxHeartbeats 1000000 in
theorem off20_c (a : Nat) (w : World) (h : Rd w a) : Calls Try.prog 53 #[.pointer (some ⟨a, 0, none⟩), .int .i64 (-20), .int .i64 20] w (RdNear a w) := by
  go_enter Try.func53, Try.ntmps53
  go_wp2_with fail
  refine (once_c a 24 (by omega) (by omega) _ h).mono ?_
  rintro e w1 ⟨b, rfl, hr, hg⟩
  cases b with
  | false =>
    go_wp2_with fail
    refine (near20_c a _ hr).mono ?_
    rintro e w2 ⟨v, v0, v1, hn, rfl, hr2, hg2⟩
    go_wp2_with fail
    go_returns
    exact ⟨v, v0, v1, hn, rfl, hr2, grown_trans hg hg2⟩
  | true =>
    have ha : a < w1.heap.size := by
      obtain ⟨_, _, _, hb, _⟩ := hr
      exact (Array.getElem?_eq_some_iff.1 hb).1
    go_wp2_with fail
    refine (below_c a 4 3 (by omega) (by omega) (by omega) _ (hr.kept (World.grownBy_alloc w1 _ none) (by simp))).mono ?_
    rintro e w2 ⟨v, v0, v1, rfl, hr2, hg2⟩
    have hblk : w2.heap[w1.heap.size]? = some (.cells #[.int .i64 (-21), .int .i64 21, .int .i64 (-9223372036854775808), .int .i64 9223372036854775807] 2) :=
      (hg2.block _ (by simp) (fun e => by cases e; omega)).trans (blk_new w1 _)
    have d0 : w2.cell? ⟨w1.heap.size, 0, none⟩ = some (.int .i64 (-21)) := by simp [World.cell?, hblk]
    have d1 : w2.cell? ⟨w1.heap.size, 1, none⟩ = some (.int .i64 21) := by simp [World.cell?, hblk]
    have d2 : w2.cell? ⟨w1.heap.size, 2, none⟩ = some (.int .i64 (-9223372036854775808)) := by simp [World.cell?, hblk]
    have d3 : w2.cell? ⟨w1.heap.size, 3, none⟩ = some (.int .i64 9223372036854775807) := by simp [World.cell?, hblk]
    have hg3 := grown_trans hg (grown_trans (World.grownBy_alloc w1 _ _) hg2)
    clear hblk
    rcases (show v = 0 ∨ v = 1 ∨ v = 2 ∨ v = 3 by omega) with rfl | rfl | rfl | rfl
    all_goals
      go_wp2_with fail
      go_returns
      exact ⟨_, by omega, by omega, by omega, rfl, hr2, hg3⟩
/-- Some intervals, so many at most; the reader where it stood. -/
def RdIvsN (m : Nat) (a : Nat) (w : World) : Ending → World → Prop := fun e w' =>
  ∃ (x : Option Addr) (cap : Nat) (l : List Iv), e = .returned (.slice x l.length cap) ∧ l.length ≤ m ∧ (∀ v ∈ l, NearIv v) ∧ IvRow w.heap.size w' x cap l ∧ Rd w' a ∧ w.grownBy w' (some a)

set_option maxHeartbeats 2000000 in
theorem intervalsN_c (a : Nat) (m : Nat) (hm : m ≤ 100) (w : World) (h : Rd w a) : Calls Try.prog 45 #[.pointer (some ⟨a, 0, none⟩), .int .i64 m] w (RdIvsN m a w) := by
  obtain ⟨i0, hi, hz0, hz1, hz2⟩ := info_partsT infoIv'
  have HI0 := Lib.hid hi
  have HZ0 := Lib.hid hz0
  have HZ1 := Lib.hid hz1
  have HZ2 := Lib.hid hz2
  clear hi hz0 hz1 hz2
  have ha : a < w.heap.size := by
    obtain ⟨_, _, _, hb, _⟩ := h
    exact (Array.getElem?_eq_some_iff.1 hb).1
  go_enter Try.func45, Try.ntmps45
  go_wp2_with fail
  have hrow0 := World.ownsRow_made (base := w.heap.size) (e := 25) (size := 2) w #[] 0 (Nat.le_refl _) (by simp [maxLen]) rfl
  refine (below_c a ((m : Int) + 1) m (by omega) (by omega) (by omega) _ (h.kept (World.grownBy_alloc w _ none) (by simp))).mono ?_
  rintro e w2 ⟨v, v0, v1, rfl, hr2, hg2⟩
  have hrow2 := hrow0.kept hg2 (.inr (by simp [Value.ownBlock]; omega))
  have hg02 := grown_trans (World.grownBy_alloc w (.cells #[] 25) (some a)) hg2
  clear hrow0 hg2
  obtain ⟨j, rfl⟩ := Int.eq_ofNat_of_zero_le v0
  go_wp2_with fail
  go_loopw [5, 6] (fun o i wr => ∃ (k : Nat) (l : List Iv), k ≤ j ∧ i = .int .i64 k ∧ l.length + k = j ∧ (∀ v ∈ l, NearIv v) ∧ wr.ownsRow w.heap.size 25 2 o l.length (flatIv l) ∧ Rd wr a ∧ w.grownBy wr (some a)) (fun _ i _ => (intOf i).toNat)
  case atStart => exact ⟨j, [], Nat.le_refl _, rfl, by simp, (fun _ hv => nomatch hv), hrow2, hr2, hg02⟩
  case round =>
    obtain ⟨k, l, hk, rfl, hlk, hnr, hrow, hr, hg⟩ := hrel
    have HNR := Lib.hid hnr
    clear hnr
    by_cases hk0 : 0 < k
    · have hk1 : (0 : Int) < (k : Int) := by omega
      go_wp2_with fail
      refine (below_c a 40 39 (by omega) (by omega) (by omega) _ hr).mono ?_
      rintro e w3 ⟨c, c0, c1, rfl, hr3, hg3⟩
      have hrow3 := hrow.kept hg3 (.inr (fun e => by have := (hrow.lt a e).1; omega))
      have hg03 := grown_trans hg hg3
      clear hrow hr hg hg3
      go_wp2_with fail
      refine (below_c a 20 19 (by omega) (by omega) (by omega) _ hr3).mono ?_
      rintro e w4 ⟨d, d0, d1, rfl, hr4, hg4⟩
      have hrow4 := hrow3.kept hg4 (.inr (fun e => by have := (hrow3.lt a e).1; omega))
      have hg04 := grown_trans hg03 hg4
      have hsz : w.heap.size ≤ w4.heap.size := hg04.size
      clear hrow3 hr3 hg03 hg4
      have hF := Lib.hid (flatIv_append l [⟨c - 20, c - 20 + d⟩])
      go_wp2_with (at_builtin; refine wpList_append_own _ rfl _ _ 28 rfl w.heap.size 25 i0 (.agg #[.int .i64 0, .int .i64 0]) 2 16 Try.underlying28 HI0.out HZ0.out HZ1.out HZ2.out rfl (by decide) _ _ _ rfl (hrow4.alloc _) ⟨w4.heap.size, 0, none⟩ 1 1 [.int .i64 (c - 20), .int .i64 (c - 20 + d)] rfl rfl (cell_two_new w4 _ _ _) (by simp [Value.oneCell']) (by unfold maxLen; omega) (by omega) (by simp; omega) ?_; intro v' w5 hown' hgrow _)
      have hgrow' : (w4.alloc (.cells #[.int .i64 (c - 20), .int .i64 (c - 20 + d)] 25)).grownBy w5 u5.ownBlock := hgrow
      clear hgrow
      go_roundw
      case rel =>
        exact ⟨k - 1, l ++ [⟨c - 20, c - 20 + d⟩], by omega, by rw [show ((k - 1 : Nat) : Int) = (k : Int) - 1 from by omega], by simp; omega, near_snoc HNR.out (near_of (a := c - 20) (b := c - 20 + d) (by omega) (by omega) (by omega)), by rw [hF.out]; simpa [flatIv, Iv.cells] using hown',
          (hr4.kept (World.grownBy_alloc w4 _ none) (by simp)).kept hgrow' (fun g hg => by have := (hrow4.lt g hg).1; omega),
          grown_own' (grown_trans hg04 (World.grownBy_alloc w4 _ _)) hgrow' (fun g hg => (hrow4.lt g hg).1)⟩
      case measure => simp [intOf]; omega
    · have hk1 : ¬ (0 : Int) < (k : Int) := by omega
      go_wp2_with fail
      refine (once_c a 20 (by omega) (by omega) _ hr).mono ?_
      rintro e w3 ⟨b, rfl, hr3, hg3⟩
      have hrow3 := hrow.kept hg3 (.inr (fun e => by have := (hrow.lt a e).1; omega))
      have hg03 := grown_trans hg hg3
      obtain ⟨x, cap, rfl⟩ := ownsRow_formT hrow3
      clear hrow hr hg hg3
      have hlj : l.length ≤ m := by omega
      cases b with
      | false =>
        go_wp2_with fail
        go_returns
        exact ⟨x, cap, l, rfl, hlj, HNR.out, hrow3, hr3, hg03⟩
      | true =>
        cases l with
        | nil =>
          go_wp2_with fail
          go_returns
          exact ⟨x, cap, [], rfl, hlj, HNR.out, hrow3, hr3, hg03⟩
        | cons v r =>
          obtain ⟨n, hn⟩ : ∃ n, n = (v :: r).length := ⟨_, rfl⟩
          have hn0 : 0 < n := by rw [hn]; simp
          have hn1 : (0 : Int) < (n : Int) := by omega
          have hnm : n ≤ m := by rw [hn]; exact hlj
          have HN := Lib.hid hn
          rw [← hn]
          clear hn hlj
          go_wp2_with fail
          refine (off20_c a _ hr3).mono ?_
          rintro e w4 ⟨u, u0, u1, hun, rfl, hr4, hg4⟩
          have hrow4 := hrow3.kept hg4 (.inr (fun e => by have := (hrow3.lt a e).1; omega))
          have hg04 := grown_trans hg03 hg4
          have hrow5 := hrow4
          rcases hrow4.2 with ⟨e, e0⟩ | ⟨g, c, cur, e, hbg, hg, _⟩
          · simp at e0
          · simp only [Value.slice.injEq] at e
            obtain ⟨rfl, _, rfl⟩ := e
            have c1 := World.ownsRow.cellAt hrow5 1 (by simp; omega)
            have f1 := World.ownsRow.frozenAt hrow5 1
            have hst := World.ownsRow.stored hrow5 1 (.int .i64 u)
            have e1 : (flatIv (v :: r))[1]? = some (.int .i64 v.hi) := rfl
            rw [e1] at c1
            have hst1 : (w4.setCell ⟨g, 1, none⟩ (.int .i64 u)).ownsRow w.heap.size 25 2 (.slice (some ⟨g, 0, none⟩) (v :: r).length cap) (v :: r).length (flatIv (⟨v.lo, u⟩ :: r)) := hst.1
            have hr5 := hr4.kept hst.2 (fun k e => by simp only [Option.some.injEq] at e; omega)
            have hg5 := grown_own' hg04 hst.2 (fun k e => by simp only [Option.some.injEq] at e; omega)
            rw [← HN.out] at hst1
            have HS := Lib.hid hst1
            clear hst hst1 hrow3 hrow4 hrow5 e1 hg
            go_wp2_with fail
            go_returns
            refine ⟨_, cap, ⟨v.lo, u⟩ :: r, by rw [HN.out]; rfl, by have := HN.out; simp at this ⊢; omega, near_head HNR.out hun, ?_, hr5, hg5⟩
            have := HS.out
            rw [HN.out] at this
            exact this

/-- Some intervals near 0, in a row of the call's own; nothing that lay has turned. -/
def AnyIvsN (m : Nat) (w : World) : Ending → World → Prop := fun e w' =>
  ∃ (x : Option Addr) (cap : Nat) (l : List Iv), e = .returned (.slice x l.length cap) ∧ l.length ≤ m ∧ (∀ v ∈ l, NearIv v) ∧ IvRow w.heap.size w' x cap l ∧ Below w.heap.size w w'
theorem drawAgreedN_c (x : Option Addr) (n cap : Nat) (w : World) (hc : Code w.heap.size w (.slice x n cap) n) (hn : n ≤ 1048576) : Calls Try.prog 28 #[.slice x n cap] w (AnyIvsN 8 w) := by
  go_enter Try.func28, Try.ntmps28
  go_wp2_with fail
  refine (open_c x n cap _).mono ?_
  rintro e w1 ⟨rfl, rfl⟩
  go_wp2_with fail
  refine (intervalsN_c _ 8 (by omega) _ (rd_open hc hn)).mono ?_
  rintro e w2 ⟨y, c, l, rfl, hl, hnr, hrow, hr, hg⟩
  go_wp2_with fail
  go_returns
  exact ⟨y, c, l, rfl, hl, hnr, hrow.low (by simp), grown_below (below_new w _) hg (Nat.le_refl _)⟩

end Go.Proofs.Ytoejeekepagfcaa
