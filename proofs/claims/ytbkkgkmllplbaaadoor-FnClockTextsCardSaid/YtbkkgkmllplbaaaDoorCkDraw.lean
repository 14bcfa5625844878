/- What the reference draws of clocks: some clock, some offset, some gap; nothing that lay has turned. -/
import Derived.Test.YtbkkgkmllplbaaaDoorCkAdjS
import Derived.Test.YtbkkgkmllplbaaaDoorDraw0
import Derived.Deep.RegionHeld3
import Derived.Deep.RegionWith
namespace Go.Proofs.YtbkkgkmllplbaaaDoor
open Go.ChangeShapes Go.WideShapes Go.ChangeAt Go.RowKit
set_option linter.unusedVariables false
set_option linter.unusedSimpArgs false

set_option maxHeartbeats 1000000 in
theorem offset_c (a : Nat) (w : World) (h : Rd w a) : Calls Tryd.prog 48 #[.pointer (some ⟨a, 0, none⟩)] w (RdAny a w) := by
  go_enter Tryd.func48, Tryd.ntmps48
  go_wp2_with fail
  refine (below_c a 6 5 (by omega) (by omega) (by omega) _ h).mono ?_
  rintro e w1 ⟨v, v0, v1, rfl, hr, hg⟩
  by_cases c0 : v = 0
  · subst c0
    go_wp2_with fail
    refine (off_c a (-128000) 128000 (by omega) (by omega) (by omega) _ hr).mono ?_
    rintro e w2 ⟨u, u0, u1, rfl, hr2, hg2⟩
    go_wp2_with fail
    go_returns
    exact ⟨u, u0, u1, rfl, hr2, grown_trans hg hg2⟩
  · by_cases c1 : v = 1
    · subst c1
      go_wp2_with fail
      refine (below_c a 2 1 (by omega) (by omega) (by omega) _ hr).mono ?_
      rintro e w2 ⟨u, u0, u1, rfl, hr2, hg2⟩
      go_wp2_with fail
      refine (below_c a 1048576 1048575 (by omega) (by omega) (by omega) _ hr2).mono ?_
      rintro e w3 ⟨x, x0, x1, rfl, hr3, hg3⟩
      go_wp2_with fail
      go_returns
      refine ⟨_, ?_, ?_, rfl, hr3, grown_trans hg (grown_trans hg2 hg3)⟩
      · exact (wrap64_range _).1
      · exact (wrap64_range _).2
    · by_cases c2 : v = 2
      · subst c2
        go_wp2_with fail
        refine (below_c a 40000 39999 (by omega) (by omega) (by omega) _ hr).mono ?_
        rintro e w2 ⟨u, u0, u1, rfl, hr2, hg2⟩
        go_wp2_with fail
        go_returns
        exact ⟨u - 20000, by omega, by omega, rfl, hr2, grown_trans hg hg2⟩
      · go_wp2_with fail
        refine (below_c a 3000 2999 (by omega) (by omega) (by omega) _ hr).mono ?_
        rintro e w2 ⟨u, u0, u1, rfl, hr2, hg2⟩
        go_wp2_with fail
        go_returns
        exact ⟨u - 1500, by omega, by omega, rfl, hr2, grown_trans hg hg2⟩

theorem rd_blk {w w' : World} {a k : Nat} {o : Obj} (hg : w.grownBy w' (some a)) (h : w.heap[k]? = some o) (hne : k ≠ a) : w'.heap[k]? = some o :=
  (hg.block k (Array.getElem?_eq_some_iff.1 h).1 (fun e => by simp only [Option.some.injEq] at e; omega)).trans h
theorem grown_below0 {w b : World} {row : Option Nat} (h : Below w.heap.size w b) : w.grownBy b row := ⟨h.os, h.tape, h.output, h.size, fun i hi _ => h.block i hi⟩
theorem grown_put0 {u w : World} {b o : Nat} {v : Value} {row : Option Nat} (h : u.grownBy w row) (hb : u.heap.size ≤ b) : u.grownBy (w.setCell ⟨b, o, none⟩ v) row :=
  ⟨h.os, h.tape, h.output, by have := h.size; simpa [World.setCell] using this, fun k hk hne => by
    have hk' : b ≠ k := by omega
    rw [← h.block k hk hne]
    simp [World.setCell, Array.getElem?_modify, hk']⟩
theorem rd_put0 {w : World} {a b o : Nat} {v : Value} (h : Rd w a) (hb : a < b) : Rd (w.setCell ⟨b, o, none⟩ v) a :=
  h.kept (row := some b) ⟨rfl, rfl, rfl, by simp [World.setCell], fun k _ hk => by
    have hk' : b ≠ k := fun e => hk (by rw [e])
    simp [World.setCell, Array.getElem?_modify, hk']⟩ (fun k e => by cases e; exact hb)

/-- While a clock is drawn: the result's box, behind it the clock's; the reader where it stood. -/
structure CD (w wr : World) (a : Nat) (c : Ck) : Prop where
  low : a < w.heap.size
  zero : wr.heap[w.heap.size]? = some (.cells #[.int .i64 Ck.zero.st, .int .i64 Ck.zero.off, .int .i64 Ck.zero.fr, .int .i64 Ck.zero.poll, .int .i64 Ck.zero.calm] 25)
  cur : wr.heap[w.heap.size + 1]? = some (.cells #[.int .i64 c.st, .int .i64 c.off, .int .i64 c.fr, .int .i64 c.poll, .int .i64 c.calm] 25)
  rd : Rd wr a
  grown : w.grownBy wr (some a)
theorem CD.grow {w wr w' : World} {a : Nat} {c : Ck} (h : CD w wr a c) (hr : Rd w' a) (hg : wr.grownBy w' (some a)) : CD w w' a c :=
  ⟨h.low, rd_blk hg h.zero (by have := h.low; omega), rd_blk hg h.cur (by have := h.low; omega), hr, grown_trans h.grown hg⟩
theorem CD.next {w wr w' : World} {a : Nat} {c : Ck} (h : CD w wr a c) (hb : Below wr.heap.size wr w') : CD w w' a c :=
  h.grow (h.rd.kept (row := none) (grown_below0 hb) (by simp)) (grown_below0 hb)
theorem CD.alloc {w wr : World} {a : Nat} {c : Ck} (h : CD w wr a c) (o : Obj) : CD w (wr.alloc o) a c := h.next (below_new wr o)
theorem CD.drew {w wr : World} {a : Nat} {c : Ck} (h : CD w wr a c) : CD w wr.drew a c := h.next ⟨rfl, rfl, rfl, Nat.le_refl _, fun _ _ => rfl⟩
theorem CD.cells {w wr : World} {a : Nat} {c : Ck} (h : CD w wr a c) : wr.cell? ⟨w.heap.size + 1, 0, none⟩ = some (.int .i64 c.st) ∧ wr.cell? ⟨w.heap.size + 1, 1, none⟩ = some (.int .i64 c.off) ∧ wr.cell? ⟨w.heap.size + 1, 2, none⟩ = some (.int .i64 c.fr) ∧ wr.cell? ⟨w.heap.size + 1, 3, none⟩ = some (.int .i64 c.poll) ∧ wr.cell? ⟨w.heap.size + 1, 4, none⟩ = some (.int .i64 c.calm) := ck_cells h.cur
theorem CD.lt {w wr : World} {a : Nat} {c : Ck} (h : CD w wr a c) : w.heap.size < wr.heap.size ∧ w.heap.size + 1 < wr.heap.size := ⟨(Array.getElem?_eq_some_iff.1 h.zero).1, (Array.getElem?_eq_some_iff.1 h.cur).1⟩
theorem CD.other {w wr : World} {a : Nat} {c : Ck} (h : CD w wr a c) {b : Nat} (hb : w.heap.size + 1 < b) (v : Ck) : CD w (((((wr.setCell ⟨b, 0, none⟩ (.int .i64 v.st)).setCell ⟨b, 1, none⟩ (.int .i64 v.off)).setCell ⟨b, 2, none⟩ (.int .i64 v.fr)).setCell ⟨b, 3, none⟩ (.int .i64 v.poll)).setCell ⟨b, 4, none⟩ (.int .i64 v.calm)) a c :=
  ⟨h.low, ck_other h.zero (by omega) v, ck_other h.cur (by omega) v, by
    have := h.low
    repeat (refine rd_put0 ?_ (by omega))
    exact h.rd, by
    repeat (refine grown_put0 ?_ (by omega))
    exact h.grown⟩
theorem CD.put {w wr : World} {a : Nat} {c : Ck} (h : CD w wr a c) (v : Ck) : CD w (((((wr.setCell ⟨w.heap.size + 1, 0, none⟩ (.int .i64 v.st)).setCell ⟨w.heap.size + 1, 1, none⟩ (.int .i64 v.off)).setCell ⟨w.heap.size + 1, 2, none⟩ (.int .i64 v.fr)).setCell ⟨w.heap.size + 1, 3, none⟩ (.int .i64 v.poll)).setCell ⟨w.heap.size + 1, 4, none⟩ (.int .i64 v.calm)) a v :=
  ⟨h.low, ck_other h.zero (by omega) v, ck_put h.cur v, by
    have := h.low
    repeat (refine rd_put0 ?_ (by omega))
    exact h.rd, by
    repeat (refine grown_put0 ?_ (by omega))
    exact h.grown⟩
theorem CD.set {w wr : World} {a : Nat} {c : Ck} (h : CD w wr a c) : (∀ n, CD w (wr.setCell ⟨w.heap.size + 1, 2, none⟩ (.int .i64 n)) a ⟨c.st, c.off, n, c.poll, c.calm⟩) ∧ (∀ n, CD w (wr.setCell ⟨w.heap.size + 1, 3, none⟩ (.int .i64 n)) a ⟨c.st, c.off, c.fr, n, c.calm⟩) := by
  have h1 := h.zero
  have h2 := h.cur
  have h3 := h.low
  refine ⟨fun n => ⟨h.low, ?_, ?_, rd_put0 h.rd (by omega), grown_put0 h.grown (by omega)⟩, fun n => ⟨h.low, ?_, ?_, rd_put0 h.rd (by omega), grown_put0 h.grown (by omega)⟩⟩ <;>
    simp [World.setCell, Array.getElem?_modify, h1, h2]
/-- The result's box behind its store. -/
theorem CD.fin {w wr : World} {a : Nat} {c : Ck} (h : CD w wr a c) (v : Ck) (W : World) (hW : W = (((((wr.setCell ⟨w.heap.size, 0, none⟩ (.int .i64 v.st)).setCell ⟨w.heap.size, 1, none⟩ (.int .i64 v.off)).setCell ⟨w.heap.size, 2, none⟩ (.int .i64 v.fr)).setCell ⟨w.heap.size, 3, none⟩ (.int .i64 v.poll)).setCell ⟨w.heap.size, 4, none⟩ (.int .i64 v.calm))) : (W.cell? ⟨w.heap.size, 0, none⟩ = some (.int .i64 v.st) ∧ W.cell? ⟨w.heap.size, 1, none⟩ = some (.int .i64 v.off) ∧ W.cell? ⟨w.heap.size, 2, none⟩ = some (.int .i64 v.fr) ∧ W.cell? ⟨w.heap.size, 3, none⟩ = some (.int .i64 v.poll) ∧ W.cell? ⟨w.heap.size, 4, none⟩ = some (.int .i64 v.calm)) ∧ Rd W a ∧ w.grownBy W (some a) := by
  have := h.low
  subst hW
  refine ⟨ck_cells (ck_put h.zero v), ?_, ?_⟩
  · repeat (refine rd_put0 ?_ (by omega))
    exact h.rd
  · repeat (refine grown_put0 ?_ (by omega))
    exact h.grown

theorem adj_any (c : Ck) (o g : Int) (w : World) : Calls Tryd.prog 47 #[.agg #[.int .i64 c.st, .int .i64 c.off, .int .i64 c.fr, .int .i64 c.poll, .int .i64 c.calm], .int .i64 o, .int .i64 g] w fun e w' =>
    ∃ (v : Ck) (n : Int) (b : Bool), e = .returned (.tuple #[.agg #[.int .i64 v.st, .int .i64 v.off, .int .i64 v.fr, .int .i64 v.poll, .int .i64 v.calm], .int .i64 n, .bool b]) ∧ Below w.heap.size w w' :=
  (adjusted_spec c o g w).mono fun _ _ ⟨he, hb⟩ => ⟨_, _, _, he, hb⟩

/-- Some clock, the reader where it stood. -/
def RdCk (a : Nat) (w : World) : Ending → World → Prop := fun e w' => ∃ c : Ck, e = .returned (.agg #[.int .i64 c.st, .int .i64 c.off, .int .i64 c.fr, .int .i64 c.poll, .int .i64 c.calm]) ∧ Rd w' a ∧ w.grownBy w' (some a)

set_option maxHeartbeats 8000000 in
theorem clock_c (a : Nat) (w : World) (h : Rd w a) : Calls Tryd.prog 30 #[.pointer (some ⟨a, 0, none⟩)] w (RdCk a w) := by
  have ha : a < w.heap.size := by
    obtain ⟨_, _, _, hb, _⟩ := h
    exact (Array.getElem?_eq_some_iff.1 hb).1
  have D0 : CD w ((w.alloc (.cells #[.int .i64 Ck.zero.st, .int .i64 Ck.zero.off, .int .i64 Ck.zero.fr, .int .i64 Ck.zero.poll, .int .i64 Ck.zero.calm] 25)).alloc (.cells #[.int .i64 ((⟨0, 0, 0, 4, 0⟩ : Ck)).st, .int .i64 ((⟨0, 0, 0, 4, 0⟩ : Ck)).off, .int .i64 ((⟨0, 0, 0, 4, 0⟩ : Ck)).fr, .int .i64 ((⟨0, 0, 0, 4, 0⟩ : Ck)).poll, .int .i64 ((⟨0, 0, 0, 4, 0⟩ : Ck)).calm] 25)) a ⟨0, 0, 0, 4, 0⟩ :=
    ⟨ha, blk_alloc (blk_new w _) _, by have := blk_new (w.alloc (.cells #[.int .i64 Ck.zero.st, .int .i64 Ck.zero.off, .int .i64 Ck.zero.fr, .int .i64 Ck.zero.poll, .int .i64 Ck.zero.calm] 25)) (.cells #[.int .i64 ((⟨0, 0, 0, 4, 0⟩ : Ck)).st, .int .i64 ((⟨0, 0, 0, 4, 0⟩ : Ck)).off, .int .i64 ((⟨0, 0, 0, 4, 0⟩ : Ck)).fr, .int .i64 ((⟨0, 0, 0, 4, 0⟩ : Ck)).poll, .int .i64 ((⟨0, 0, 0, 4, 0⟩ : Ck)).calm] 25); simpa only [World.size_alloc] using this,
      (h.kept (World.grownBy_alloc w _ none) (by simp)).kept (World.grownBy_alloc _ _ none) (by simp), grown_trans (World.grownBy_alloc w _ _) (World.grownBy_alloc _ _ _)⟩
  dsimp only [Ck.zero] at D0
  go_enter Tryd.func30, Tryd.ntmps30
  go_wp2_with fail
  refine (below_c a 12 11 (by omega) (by omega) (by omega) _ D0.rd).mono ?_
  rintro e w2 ⟨v, v0, v1, rfl, hr2, hg2⟩
  have D2 := D0.grow hr2 hg2
  clear D0 hr2 hg2
  obtain ⟨j, rfl⟩ := Int.eq_ofNat_of_zero_le v0
  go_wp2_with fail
  go_loopw [4] (fun i wr => ∃ (k : Nat) (c : Ck), k ≤ j ∧ i = .int .i64 k ∧ CD w wr a c) (fun i _ => (intOf i).toNat)
  case atStart => exact ⟨j, _, Nat.le_refl _, rfl, D2⟩
  case round =>
    obtain ⟨k, c, hk, rfl, D⟩ := hrel
    by_cases hk0 : 0 < k
    · have hk1 : (0 : Int) < (k : Int) := by omega
      have X := ck_cells D.cur
      obtain ⟨l0, l1⟩ := D.lt
      go_upto_region 5 with (fail)
      go_cut [5, 6, 7] from 15 to 25 (fun s5 s6 s7 wx => ∃ (b : Nat) (v : Ck) (n : Int) (r : Bool), s5 = .pointer (some ⟨b, 0, none⟩) ∧ s6 = .int .i64 n ∧ s7 = .bool r ∧ CD w wx a c ∧ wx.heap[b]? = some (.cells #[.int .i64 v.st, .int .i64 v.off, .int .i64 v.fr, .int .i64 v.poll, .int .i64 v.calm] 25))
      case first =>
        have Xd := D.drew.cells
        go_region_held3 (fun w' => w'.cell? ⟨w.heap.size + 1, 0, none⟩ = some (.int .i64 c.st) ∧ w'.cell? ⟨w.heap.size + 1, 1, none⟩ = some (.int .i64 c.off) ∧ w'.cell? ⟨w.heap.size + 1, 2, none⟩ = some (.int .i64 c.fr) ∧ w'.cell? ⟨w.heap.size + 1, 3, none⟩ = some (.int .i64 c.poll) ∧ w'.cell? ⟨w.heap.size + 1, 4, none⟩ = some (.int .i64 c.calm)) (first | with_reducible assumption | with_reducible exact (D.alloc _).drew.cells | with_reducible exact (D3.alloc _).cells | with_reducible exact (D4.alloc _).cells | with_reducible exact (D5.alloc _).cells | with_reducible exact (D5.other D4.lt.2 v).cells | with_reducible exact (D5.other D3.lt.2 v).cells | with_reducible exact (D5.other D.lt.2 v).cells) (first
          | (go_at_call 48; refine (offset_c a _ (by first | with_reducible exact D.drew.rd | with_reducible exact (D.alloc _).drew.rd)).mono ?_; rintro e w3 ⟨o, o0, o1, rfl, hr3, hg3⟩
             have D3 : CD w w3 a c := by first | with_reducible exact D.drew.grow hr3 hg3 | with_reducible exact (D.alloc _).drew.grow hr3 hg3
             have Y := ck_cells D3.cur; obtain ⟨l30, l31⟩ := D3.lt
             (first | (have N3 := rd_blk hg3 (blk_newd wr (.cells #[.int .i64 Ck.zero.st, .int .i64 Ck.zero.off, .int .i64 Ck.zero.fr, .int .i64 Ck.zero.poll, .int .i64 Ck.zero.calm] 25)) (by omega)) | (have N3 := True.intro)))
          | (go_at_call 46; refine (below_c a 1000 999 (by omega) (by omega) (by omega) _ (by first | with_reducible exact D3.rd | with_reducible exact (D3.alloc _).rd)).mono ?_; rintro e w4 ⟨u, u0, u1, rfl, hr4, hg4⟩
             have D4 : CD w w4 a c := by first | with_reducible exact D3.grow hr4 hg4 | with_reducible exact (D3.alloc _).grow hr4 hg4
             have Z := ck_cells D4.cur; obtain ⟨l40, l41⟩ := D4.lt
             (first | (have N4 := rd_blk hg4 N3 (by omega)) | (have N4 := rd_blk hg4 (blk_new w3 (.cells #[.int .i64 Ck.zero.st, .int .i64 Ck.zero.off, .int .i64 Ck.zero.fr, .int .i64 Ck.zero.poll, .int .i64 Ck.zero.calm] 25)) (by omega)) | (have N4 := True.intro)))
          | (go_at_call 47; refine (adj_any c _ _ _).mono ?_; rintro e w5 ⟨v, n, r, rfl, hb5⟩
             have D5 : CD w w5 a c := by first | with_reducible exact D4.next hb5 | with_reducible exact (D4.alloc _).next hb5
             have V5 := D5.cells
             (first | (have N5 := blk_next hb5 N4) | (have N5 := blk_next hb5 (blk_new w4 (.cells #[.int .i64 Ck.zero.st, .int .i64 Ck.zero.off, .int .i64 Ck.zero.fr, .int .i64 Ck.zero.poll, .int .i64 Ck.zero.calm] 25))) | (have N5 := True.intro))
             (first | (have N6 := ck_cells N5; have N7 := ck_thaw N5; dsimp only [Ck.zero] at N6) | skip)))
        all_goals
          try clear N6 N7
          go_wp2_with fail
          go_meet
          first
            | (with_reducible exact ⟨_, v, n, r, rfl, rfl, rfl, D5.alloc _, blk_new _ _⟩)
            | (with_reducible exact ⟨_, v, n, r, rfl, rfl, rfl, D5.other D4.lt.2 v, ck_put N5 v⟩)
            | (with_reducible exact ⟨_, v, n, r, rfl, rfl, rfl, D5.other D3.lt.2 v, ck_put N5 v⟩)
            | (with_reducible exact ⟨_, v, n, r, rfl, rfl, rfl, D5.other D.lt.2 v, ck_put N5 v⟩)
      case rest =>
        obtain ⟨b, v, n, r, rfl, rfl, rfl, D6, hN⟩ := hcut
        clear X l0 l1 D
        cases r with
        | true =>
          have N := ck_cells hN
          have X := ck_cells D6.cur
          have Y := ck_thaw D6.cur
          go_wp2_with fail
          go_roundw
          case rel => exact ⟨k - 1, v, by omega, by rw [show ((k - 1 : Nat) : Int) = (k : Int) - 1 from by omega], D6.put v⟩
          case measure => simp [intOf]; omega
        | false =>
          go_wp2_with fail
          go_roundw
          case rel => exact ⟨k - 1, c, by omega, by rw [show ((k - 1 : Nat) : Int) = (k : Int) - 1 from by omega], D6⟩
          case measure => simp [intOf]; omega
    · have hk1 : ¬ (0 : Int) < (k : Int) := by omega
      go_wp2_with fail
      refine (below_c a 40 39 (by omega) (by omega) (by omega) _ D.rd).mono ?_
      rintro e w3 ⟨u, u0, u1, rfl, hr3, hg3⟩
      have D3 := D.grow hr3 hg3
      clear D hr3 hg3
      by_cases e38 : u = 38
      · subst e38
        go_wp2_with fail
        refine (off_c a (-500) 500 (by omega) (by omega) (by omega) _ D3.rd).mono ?_
        rintro e w4 ⟨n, n0, n1, rfl, hr4, hg4⟩
        have D4 := D3.grow hr4 hg4
        have X4 := ck_cells D4.cur
        have Y4 := ck_thaw D4.cur
        have D5 := D4.set.1 n
        have X := ck_cells D5.cur
        have Z := ck_cells D5.zero
        have V := ck_thaw D5.zero
        have F := D5.fin ⟨c.st, c.off, n, c.poll, c.calm⟩ _ rfl
        dsimp only [Ck.zero] at X Z F
        clear D3 D4 D5 hr4 hg4
        go_wp2_with fail
        refine bodyPost_ret (by simp [results, Tryd.results30, go_sem, F]; try rfl) rfl ?_
        exact ⟨⟨c.st, c.off, n, c.poll, c.calm⟩, rfl, F.2⟩
      · by_cases e39 : u = 39
        · subst e39
          go_wp2_with fail
          refine (off_c a 4 10 (by omega) (by omega) (by omega) _ D3.rd).mono ?_
          rintro e w4 ⟨n, n0, n1, rfl, hr4, hg4⟩
          have D4 := D3.grow hr4 hg4
          have X4 := ck_cells D4.cur
          have Y4 := ck_thaw D4.cur
          have D5 := D4.set.2 n
          have X := ck_cells D5.cur
          have Z := ck_cells D5.zero
          have V := ck_thaw D5.zero
          have F := D5.fin ⟨c.st, c.off, c.fr, n, c.calm⟩ _ rfl
          dsimp only [Ck.zero] at X Z F
          clear D3 D4 D5 hr4 hg4
          go_wp2_with fail
          refine bodyPost_ret (by simp [results, Tryd.results30, go_sem, F]; try rfl) rfl ?_
          exact ⟨⟨c.st, c.off, c.fr, n, c.calm⟩, rfl, F.2⟩
        · have X := ck_cells D3.cur
          have Z := ck_cells D3.zero
          have V := ck_thaw D3.zero
          have F := D3.fin c _ rfl
          dsimp only [Ck.zero] at X Z F
          clear D3
          go_wp2_with fail
          refine bodyPost_ret (by simp [results, Tryd.results30, go_sem, F]; try rfl) rfl ?_
          exact ⟨c, rfl, F.2⟩
end Go.Proofs.YtbkkgkmllplbaaaDoor
