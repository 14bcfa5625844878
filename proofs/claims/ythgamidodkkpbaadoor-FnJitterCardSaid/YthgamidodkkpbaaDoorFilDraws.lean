/- What is drawn for chapter 4: filters, and samples. -/
import Derived.Test.YthgamidodkkpbaaDoorFilDraw
import Derived.Deep.RegionWith
namespace Go.Proofs.YthgamidodkkpbaaDoor
open Go.ChangeShapes Go.WideShapes Go.ChangeAt Go.RowKit
set_option linter.unusedVariables false
set_option linter.unusedSimpArgs false

/-- Some samples, eight at most; nothing that lay has turned. -/
def AnySms (w : World) : Ending → World → Prop := fun e w' =>
  ∃ (g off c m : Nat) (l : List Sm), e = .returned (.slice (some ⟨g, off, none⟩) m c) ∧ m = l.length ∧ m ≤ 8 ∧ m ≤ c ∧ c ≤ maxLen ∧ Sms w'.heap.size w' (some ⟨g, off, none⟩) l ∧ Below w.heap.size w w'
theorem drawFilterOk_c (x : Option Addr) (n cap : Nat) (w : World) (hc : Code w.heap.size w (.slice x n cap) n) (hn : n ≤ 1048576) : Calls Tryd.prog 11 #[.slice x n cap] w (AnySms w) := by
  go_enter Tryd.func11, Tryd.ntmps11
  go_wp2_with fail
  refine (open_c x n cap _).mono ?_
  rintro e w1 ⟨rfl, rfl⟩
  have hr1 := rd_open hc hn
  go_wp2_with fail
  refine (filter_c _ 10 (by omega) _ hr1).mono ?_
  rintro e w2 ⟨g, off, c, m, l, rfl, D⟩
  have g2 := grown_below (below_new w (.cells #[.slice x n cap, .int .i64 0] 59)) D.grown (Nat.le_refl _)
  go_wp2_with fail
  go_returns
  exact ⟨g, off, c, m, l, rfl, D.len, D.le, D.cap.1, D.cap.2, D.sms, g2⟩
theorem drawBestOf_c (x : Option Addr) (n cap : Nat) (w : World) (hc : Code w.heap.size w (.slice x n cap) n) (hn : n ≤ 1048576) : Calls Tryd.prog 15 #[.slice x n cap] w (AnySms w) := by
  go_enter Tryd.func15, Tryd.ntmps15
  go_wp2_with fail
  refine (drawFilterOk_c x n cap w hc hn).mono ?_
  rintro e w1 ⟨g, off, c, m, l, rfl, hm, rest⟩
  have HM := Lib.hid hm
  clear hm
  go_wp2_with fail
  go_returns
  exact ⟨g, off, c, m, l, rfl, HM.out, rest⟩
theorem drawJitterOf_c (x : Option Addr) (n cap : Nat) (w : World) (hc : Code w.heap.size w (.slice x n cap) n) (hn : n ≤ 1048576) : Calls Tryd.prog 18 #[.slice x n cap] w (AnySms w) := by
  go_enter Tryd.func18, Tryd.ntmps18
  go_wp2_with fail
  refine (drawFilterOk_c x n cap w hc hn).mono ?_
  rintro e w1 ⟨g, off, c, m, l, rfl, hm, rest⟩
  have HM := Lib.hid hm
  clear hm
  go_wp2_with fail
  go_returns
  exact ⟨g, off, c, m, l, rfl, HM.out, rest⟩
def AnySmsS (w : World) : Ending → World → Prop := fun e w' =>
  ∃ (g off c m : Nat) (l : List Sm) (s : Sm), e = .returned (.tuple #[.slice (some ⟨g, off, none⟩) m c, .agg #[.int .i64 s.off, .int .i64 s.delay, .int .i64 s.disp, .int .i64 s.at_]]) ∧ m = l.length ∧ m ≤ 8 ∧ m ≤ c ∧ c ≤ maxLen ∧ w.heap.size ≤ g ∧ Sms w'.heap.size w' (some ⟨g, off, none⟩) l ∧ Below w.heap.size w w'
theorem rd_drewF {w : World} {a : Nat} (h : Rd w a) : Rd w.drew a := h.kept (row := none) ⟨rfl, rfl, rfl, Nat.le_refl _, fun _ _ _ => rfl⟩ (by simp)
theorem rd_blockF {w w' : World} {a k : Nat} {o : Obj} (hg : w.grownBy w' (some a)) (h : w.heap[k]? = some o) (hne : k ≠ a) : w'.heap[k]? = some o :=
  (hg.block k (Array.getElem?_eq_some_iff.1 h).1 (fun e => by simp only [Option.some.injEq] at e; omega)).trans h

set_option maxRecDepth 100000 in
set_option maxHeartbeats 4000000 in
theorem drawFilterAdd_c (x : Option Addr) (n cap : Nat) (w : World) (hc : Code w.heap.size w (.slice x n cap) n) (hn : n ≤ 1048576) : Calls Tryd.prog 8 #[.slice x n cap] w (AnySmsS w) := by
  have hc0 := hc.next (w' := w.alloc (.cells #[.int .i64 0, .int .i64 0, .int .i64 0, .int .i64 0] 26)) (by go_grown)
  go_enter Tryd.func8, Tryd.ntmps8
  go_wp2_with fail
  refine (open_c x n cap _).mono ?_
  rintro e w1 ⟨rfl, rfl⟩
  have hr1 := rd_open hc0 hn
  simp only [World.size_alloc] at hr1
  have Z1 := blk_alloc (blk_new w (.cells #[.int .i64 0, .int .i64 0, .int .i64 0, .int .i64 0] 26)) (.cells #[.slice x n cap, .int .i64 0] 59)
  have g1 : Below w.heap.size w ((w.alloc (.cells #[.int .i64 0, .int .i64 0, .int .i64 0, .int .i64 0] 26)).alloc (.cells #[.slice x n cap, .int .i64 0] 59)) := by go_grown
  have s1 : w.heap.size + 1 < ((w.alloc (.cells #[.int .i64 0, .int .i64 0, .int .i64 0, .int .i64 0] 26)).alloc (.cells #[.slice x n cap, .int .i64 0] 59)).heap.size := by simp
  generalize (w.alloc (.cells #[.int .i64 0, .int .i64 0, .int .i64 0, .int .i64 0] 26)).alloc (.cells #[.slice x n cap, .int .i64 0] 59) = w1 at *
  go_wp2_with fail
  refine (filter_c _ 10 (by omega) _ hr1).mono ?_
  rintro e w2 ⟨g, off, c, m, l, rfl, D2⟩
  have Z2 := rd_blockF D2.grown Z1 (by omega)
  clear hr1 Z1 hc hc0
  go_wp2_with fail
  refine (below_c _ 1048576 1048575 (by omega) (by omega) (by omega) _ D2.rd).mono ?_
  rintro e w3 ⟨t, t0, t1, rfl, hr3, hg3⟩
  have D3 := D2.step s1 hr3 hg3
  have Z3 := rd_blockF hg3 Z2 (by omega)
  clear D2 Z2 hr3 hg3
  rcases Nat.eq_zero_or_pos m with hm0 | hm0
  · have hd : decide ((0 : Int) < (m : Int)) = false := decide_eq_false (by omega)
    have hd2 : ¬ 0 < m := by omega
    clear hm0
    go_wp2_with fail
    refine (sample_c _ _ _ D3.rd).mono ?_
    rintro e w5 ⟨s, hst, rfl, hr5, hg5⟩
    have D5 := D3.step s1 hr5 hg5
    have Z5 := rd_blockF hg5 Z3 (by omega)
    have G5 := grown_below g1 D5.grown (by omega)
    have hgw : w.heap.size ≠ g := by have := D5.new_; omega
    obtain ⟨r0, r1, r2, r3⟩ := sample_cells (q := ⟨0, 0, 0, 0⟩) Z5
    obtain ⟨f0, f1, f2, f3⟩ := sample_thaw (q := ⟨0, 0, 0, 0⟩) Z5
    have S5 := D5.sms.keepG (grown_set (grown_set (grown_set (grown_set (World.grownBy.refl w5 (some w.heap.size)) 0 (.int .i64 s.off)) 1 (.int .i64 s.delay)) 2 (.int .i64 s.disp)) 3 (.int .i64 s.at_)) (fun e => hgw (by simpa using e))
    have G := below_put (below_put (below_put (below_put G5 (b := w.heap.size) (Nat.le_refl _) 0 (.int .i64 s.off)) (b := w.heap.size) (Nat.le_refl _) 1 (.int .i64 s.delay)) (b := w.heap.size) (Nat.le_refl _) 2 (.int .i64 s.disp)) (b := w.heap.size) (Nat.le_refl _) 3 (.int .i64 s.at_)
    obtain ⟨x0, x1, x2, x3⟩ := sample_cells (sample_put (q := ⟨0, 0, 0, 0⟩) Z5 s)
    have HL := Lib.hid (⟨D5.len, D5.le, D5.cap.1, D5.cap.2⟩ : m = l.length ∧ m ≤ 8 ∧ m ≤ c ∧ c ≤ maxLen)
    clear hst
    go_wp2_with fail
    try simp only [Exit.inBlock, Exit.then]
    refine bodyPost_ret (by simp [results, Tryd.results8, go_sem, x0, x1, x2, x3, r0, r1, r2, r3]; try rfl) rfl ?_
    exact ⟨g, off, c, m, l, s, rfl, HL.out.1, HL.out.2.1, HL.out.2.2.1, HL.out.2.2.2, (by have := D5.new_; omega), S5, G⟩
  · have hd : decide ((0 : Int) < (m : Int)) = true := decide_eq_true (by omega)
    have hm8 := D3.le
    go_wp2_with fail
    refine (once_c _ 8 (by omega) (by omega) _ D3.rd).mono ?_
    rintro e w4 ⟨b, rfl, hr4, hg4⟩
    have D4 := D3.step s1 hr4 hg4
    have Z4 := rd_blockF hg4 Z3 (by omega)
    clear D3 Z3 hr4 hg4
    cases b with
    | true =>
      go_wp2_with fail
      refine (sample_c _ _ _ D4.rd).mono ?_
      rintro e w5 ⟨s, hst, rfl, hr5, hg5⟩
      have D5 := D4.step s1 hr5 hg5
      have Z5 := rd_blockF hg5 Z4 (by omega)
      have G5 := grown_below g1 D5.grown (by omega)
      have hgw : w.heap.size ≠ g := by have := D5.new_; omega
      obtain ⟨r0, r1, r2, r3⟩ := sample_cells (q := ⟨0, 0, 0, 0⟩) Z5
      obtain ⟨f0, f1, f2, f3⟩ := sample_thaw (q := ⟨0, 0, 0, 0⟩) Z5
      have S5 := D5.sms.keepG (grown_set (grown_set (grown_set (grown_set (World.grownBy.refl w5 (some w.heap.size)) 0 (.int .i64 s.off)) 1 (.int .i64 s.delay)) 2 (.int .i64 s.disp)) 3 (.int .i64 s.at_)) (fun e => hgw (by simpa using e))
      have G := below_put (below_put (below_put (below_put G5 (b := w.heap.size) (Nat.le_refl _) 0 (.int .i64 s.off)) (b := w.heap.size) (Nat.le_refl _) 1 (.int .i64 s.delay)) (b := w.heap.size) (Nat.le_refl _) 2 (.int .i64 s.disp)) (b := w.heap.size) (Nat.le_refl _) 3 (.int .i64 s.at_)
      obtain ⟨x0, x1, x2, x3⟩ := sample_cells (sample_put (q := ⟨0, 0, 0, 0⟩) Z5 s)
      have HL := Lib.hid (⟨D5.len, D5.le, D5.cap.1, D5.cap.2⟩ : m = l.length ∧ m ≤ 8 ∧ m ≤ c ∧ c ≤ maxLen)
      clear hst
      go_wp2_with fail
      try simp only [Exit.inBlock, Exit.then]
      refine bodyPost_ret (by simp [results, Tryd.results8, go_sem, x0, x1, x2, x3, r0, r1, r2, r3]; try rfl) rfl ?_
      exact ⟨g, off, c, m, l, s, rfl, HL.out.1, HL.out.2.1, HL.out.2.2.1, HL.out.2.2.2, (by have := D5.new_; omega), S5, G⟩
    | false =>
      obtain ⟨u, hu⟩ := getS (l := l) (k := m - 1) (by rw [← D4.len]; omega)
      obtain ⟨b', o', e', _, _, _, _, c3⟩ := D4.sms.at_ hu
      simp only [Option.some.injEq, Addr.mk.injEq] at e'
      obtain ⟨rfl, rfl, _⟩ := e'
      have hki : ((m - 1 : Nat) : Int) = (m : Int) - 1 := by omega
      have hk1 : IntKind.i64.wrap ((m : Int) - 1) = ((m - 1 : Nat) : Int) := by rw [hki]; exact IntWalk.i64_in _ (by omega)
      have hk3 : m - 1 < m := by omega
      have rd4 := rd_drewF D4.rd
      have Z4d : w4.drew.heap[w.heap.size]? = some (.cells #[.int .i64 0, .int .i64 0, .int .i64 0, .int .i64 0] 26) := Z4
      have D4d := D4.step s1 rd4 ⟨rfl, rfl, rfl, Nat.le_refl _, fun _ _ _ => rfl⟩
      have c3d : w4.drew.cell? ⟨g, off + (m - 1) * 4 + 3, none⟩ = some (.int .i64 u.at_) := c3
      clear hu hki
      go_wp2_with fail
      go_region_with (go_at_call 26; (with_reducible refine (below_c _ 99 98 (by omega) (by omega) (by omega) _ rd4).mono ?_); rintro e w6 ⟨v, v0, v1, rfl, hr6, hg6⟩; have D6 := D4d.step s1 hr6 hg6; have Z6 := rd_blockF hg6 Z4d (by omega); have c3e := hg6.cell c3d (by simp; have := D4.new_; omega))
      all_goals
        go_wp2_with fail
        refine (sample_c _ _ _ D6.rd).mono ?_
        rintro e w5 ⟨s, hst, rfl, hr5, hg5⟩
        have D5 := D6.step s1 hr5 hg5
        have Z5 := rd_blockF hg5 Z6 (by omega)
        have G5 := grown_below g1 D5.grown (by omega)
        have hgw : w.heap.size ≠ g := by have := D5.new_; omega
        obtain ⟨r0, r1, r2, r3⟩ := sample_cells (q := ⟨0, 0, 0, 0⟩) Z5
        obtain ⟨f0, f1, f2, f3⟩ := sample_thaw (q := ⟨0, 0, 0, 0⟩) Z5
        have S5 := D5.sms.keepG (grown_set (grown_set (grown_set (grown_set (World.grownBy.refl w5 (some w.heap.size)) 0 (.int .i64 s.off)) 1 (.int .i64 s.delay)) 2 (.int .i64 s.disp)) 3 (.int .i64 s.at_)) (fun e => hgw (by simpa using e))
        have G := below_put (below_put (below_put (below_put G5 (b := w.heap.size) (Nat.le_refl _) 0 (.int .i64 s.off)) (b := w.heap.size) (Nat.le_refl _) 1 (.int .i64 s.delay)) (b := w.heap.size) (Nat.le_refl _) 2 (.int .i64 s.disp)) (b := w.heap.size) (Nat.le_refl _) 3 (.int .i64 s.at_)
        obtain ⟨x0, x1, x2, x3⟩ := sample_cells (sample_put (q := ⟨0, 0, 0, 0⟩) Z5 s)
        have HL := Lib.hid (⟨D5.len, D5.le, D5.cap.1, D5.cap.2⟩ : m = l.length ∧ m ≤ 8 ∧ m ≤ c ∧ c ≤ maxLen)
        clear hst
        go_wp2_with fail
        try simp only [Exit.inBlock, Exit.then]
        refine bodyPost_ret (by simp [results, Tryd.results8, go_sem, x0, x1, x2, x3, r0, r1, r2, r3]; try rfl) rfl ?_
        exact ⟨g, off, c, m, l, s, rfl, HL.out.1, HL.out.2.1, HL.out.2.2.1, HL.out.2.2.2, (by have := D5.new_; omega), S5, G⟩
end Go.Proofs.YthgamidodkkpbaaDoor
