/- The reference's BestOf, JitterOf, Popcorn. -/
import Derived.Test.YthgamidodkkpbaaDoorFilS
namespace Go.Proofs.YthgamidodkkpbaaDoor
open Go.ChangeShapes Go.WideShapes Go.ChangeAt Go.RowKit Go.Sort
set_option linter.unusedVariables false
set_option linter.unusedSimpArgs false

section
variable (l : List Sm) (n : Nat) (hn : Hid (n = l.length)) (hm : n ≤ maxLen) (x : Option Addr) (cap : Nat) (w : World) (h : Sms w.heap.size w x l)
include hn hm h

theorem jitterOf_spec : Calls Tryd.prog 21 #[.slice x n cap] w fun e w' => e = .returned (.int .i64 (if okSms l then jitV l else -1)) ∧ Below w.heap.size w w' := by
  have hF := filterOk_spec l n hn hm x cap w h
  cases ho : okSms l with
  | false =>
    rw [ho] at hF
    have HF := Lib.hid hF
    clear ho hF
    go_enter Tryd.func21, Tryd.ntmps21
    go_wp2_with fail
    refine HF.out.mono ?_
    rintro e w1 ⟨rfl, hb1⟩
    go_wp2_with fail
    go_returns
    exact ⟨rfl, hb1⟩
  | true =>
    rw [ho] at hF
    have HF := Lib.hid hF
    obtain ⟨hA, hle⟩ := okSms_all ho
    have HJ := Lib.hid (fun W h => l4Jitter_c l hA n hn (by rw [hn.out]; exact hle) x cap W h)
    clear ho hF
    go_enter Tryd.func21, Tryd.ntmps21
    go_wp2_with fail
    refine HF.out.mono ?_
    rintro e w1 ⟨rfl, hb1⟩
    go_wp2_with fail
    refine (HJ.out _ (h.next hb1)).mono ?_
    rintro e w2 ⟨rfl, hb2⟩
    go_wp2_with fail
    go_returns
    exact ⟨rfl, grow_next hb1 hb2⟩

set_option maxRecDepth 100000 in
set_option maxHeartbeats 1000000 in
theorem bestOf_spec : Calls Tryd.prog 17 #[.slice x n cap] w fun e w' => e = .returned (.tuple #[.agg #[.int .i64 ((bstV l)).off, .int .i64 ((bstV l)).delay, .int .i64 ((bstV l)).disp, .int .i64 ((bstV l)).at_], .bool (bstOk l)]) ∧ Below w.heap.size w w' := by
  have b0 : Below w.heap.size w (w.alloc (.cells #[.int .i64 0, .int .i64 0, .int .i64 0, .int .i64 0] 26)) := below_new _ _
  have R0 := blk_new w (.cells #[.int .i64 0, .int .i64 0, .int .i64 0, .int .i64 0] 26)
  have h0 := h.next b0
  have hF := filterOk_spec l n hn hm x cap _ h0
  by_cases hp : 0 < n
  · cases ho : okSms l with
    | true =>
      have e1 : bstOk l = true := by unfold bstOk; rw [ho, decide_eq_true (by rw [← hn.out]; exact hp)]; rfl
      have e2 : bstV l = bestV l := by unfold bstV; rw [e1]; rfl
      rw [e1, e2]
      rw [ho] at hF
      obtain ⟨q, hq⟩ : ∃ q, bestV l = q := ⟨_, rfl⟩
      have hB := fun W h => l4Best_c l n hn hp hm x cap W h
      rw [hq] at hB ⊢
      have HB := Lib.hid hB
      have HF := Lib.hid hF
      have hz : ((n : Int) == 0) = false := by simpa using (show n ≠ 0 by omega)
      clear ho e1 e2 hF hB hq
      go_enter Tryd.func17, Tryd.ntmps17
      go_wp2_with fail
      refine HF.out.mono ?_
      rintro e w1 ⟨rfl, hb1⟩
      go_wp2_with fail
      refine (HB.out _ (h0.next hb1)).mono ?_
      rintro e w2 ⟨rfl, hb2⟩
      have R2 := blk_next hb2 (blk_next hb1 R0)
      have b2 := grow_next (grow_next b0 hb1) hb2
      obtain ⟨r0, r1, r2, r3⟩ := sample_cells (q := ⟨0, 0, 0, 0⟩) R2
      obtain ⟨g0, g1, g2, g3⟩ := sample_thaw (q := ⟨0, 0, 0, 0⟩) R2
      go_wp2_with fail
      obtain ⟨x0, x1, x2, x3⟩ := sample_cells (sample_put (q := ⟨0, 0, 0, 0⟩) R2 q)
      have G := below_put (below_put (below_put (below_put b2 (b := w.heap.size) (Nat.le_refl _) 0 (.int .i64 q.off)) (b := w.heap.size) (Nat.le_refl _) 1 (.int .i64 q.delay)) (b := w.heap.size) (Nat.le_refl _) 2 (.int .i64 q.disp)) (b := w.heap.size) (Nat.le_refl _) 3 (.int .i64 q.at_)
      try simp only [Exit.inBlock, Exit.then]
      refine bodyPost_ret (by simp [results, Tryd.results17, go_sem, x0, x1, x2, x3, r0, r1, r2, r3]; try rfl) rfl ?_
      exact ⟨rfl, G⟩
    | false =>
      have e1 : bstOk l = false := by unfold bstOk; rw [ho]; rfl
      have e2 : bstV l = Sm.zero := by unfold bstV; rw [e1]; rfl
      rw [e1, e2]
      rw [ho] at hF
      have HF := Lib.hid hF
      have hz : ((n : Int) == 0) = false := by simpa using (show n ≠ 0 by omega)
      clear ho e1 e2 hF
      go_enter Tryd.func17, Tryd.ntmps17
      go_wp2_with fail
      refine HF.out.mono ?_
      rintro e w1 ⟨rfl, hb1⟩
      have R2 := blk_next hb1 R0
      have b2 := grow_next b0 hb1
      obtain ⟨r0, r1, r2, r3⟩ := sample_cells (q := ⟨0, 0, 0, 0⟩) R2
      obtain ⟨g0, g1, g2, g3⟩ := sample_thaw (q := ⟨0, 0, 0, 0⟩) R2
      go_wp2_with fail
      obtain ⟨x0, x1, x2, x3⟩ := sample_cells (q := ⟨0, 0, 0, 0⟩) (sample_put (q := ⟨0, 0, 0, 0⟩) R2 ⟨0, 0, 0, 0⟩)
      dsimp only at x0 x1 x2 x3
      have G := below_put (below_put (below_put (below_put b2 (b := w.heap.size) (Nat.le_refl _) 0 (.int .i64 0)) (b := w.heap.size) (Nat.le_refl _) 1 (.int .i64 0)) (b := w.heap.size) (Nat.le_refl _) 2 (.int .i64 0)) (b := w.heap.size) (Nat.le_refl _) 3 (.int .i64 0)
      try simp only [Exit.inBlock, Exit.then]
      refine bodyPost_ret (by simp [results, Tryd.results17, go_sem, x0, x1, x2, x3, r0, r1, r2, r3]; try rfl) rfl ?_
      exact ⟨rfl, G⟩
  · have e1 : bstOk l = false := by unfold bstOk; rw [decide_eq_false (by rw [← hn.out]; exact hp), Bool.and_false]
    have e2 : bstV l = Sm.zero := by unfold bstV; rw [e1]; rfl
    rw [e1, e2]
    have hz : ((n : Int) == 0) = true := by simpa using (show n = 0 by omega)
    obtain ⟨ok, hok⟩ : ∃ ok, okSms l = ok := ⟨_, rfl⟩
    rw [hok] at hF
    have HF := Lib.hid hF
    clear e1 e2 hF hok
    cases ok
    all_goals
      go_enter Tryd.func17, Tryd.ntmps17
      go_wp2_with fail
      refine HF.out.mono ?_
      rintro e w1 ⟨rfl, hb1⟩
      have R2 := blk_next hb1 R0
      have b2 := grow_next b0 hb1
      obtain ⟨r0, r1, r2, r3⟩ := sample_cells (q := ⟨0, 0, 0, 0⟩) R2
      obtain ⟨g0, g1, g2, g3⟩ := sample_thaw (q := ⟨0, 0, 0, 0⟩) R2
      go_wp2_with fail
      obtain ⟨x0, x1, x2, x3⟩ := sample_cells (q := ⟨0, 0, 0, 0⟩) (sample_put (q := ⟨0, 0, 0, 0⟩) R2 ⟨0, 0, 0, 0⟩)
      dsimp only at x0 x1 x2 x3
      have G := below_put (below_put (below_put (below_put b2 (b := w.heap.size) (Nat.le_refl _) 0 (.int .i64 0)) (b := w.heap.size) (Nat.le_refl _) 1 (.int .i64 0)) (b := w.heap.size) (Nat.le_refl _) 2 (.int .i64 0)) (b := w.heap.size) (Nat.le_refl _) 3 (.int .i64 0)
      try simp only [Exit.inBlock, Exit.then]
      refine bodyPost_ret (by simp [results, Tryd.results17, go_sem, x0, x1, x2, x3, r0, r1, r2, r3]; try rfl) rfl ?_
      exact ⟨rfl, G⟩

set_option maxRecDepth 100000 in
set_option maxHeartbeats 2000000 in
theorem popcorn_spec (s : Sm) : Calls Tryd.prog 23 #[.slice x n cap, .agg #[.int .i64 s.off, .int .i64 s.delay, .int .i64 s.disp, .int .i64 s.at_]] w fun e w' => e = .returned (.bool (popV l s)) ∧ Below w.heap.size w w' := by
  have b0 : Below w.heap.size w (w.alloc (.cells #[.int .i64 s.off, .int .i64 s.delay, .int .i64 s.disp, .int .i64 s.at_] 26)) := below_new _ _
  have R0 := blk_new w (.cells #[.int .i64 s.off, .int .i64 s.delay, .int .i64 s.disp, .int .i64 s.at_] 26)
  have h0 := h.next b0
  have hF := filterOk_spec l n hn hm x cap _ h0
  cases ho : okSms l with
  | false =>
    have e1 : popV l s = false := by unfold popV; rw [ho]; rfl
    rw [e1]
    rw [ho] at hF
    have HF := Lib.hid hF
    clear ho e1 hF
    go_enter Tryd.func23, Tryd.ntmps23
    go_wp2_with fail
    refine HF.out.mono ?_
    rintro e w1 ⟨rfl, hb1⟩
    go_wp2_with fail
    go_returns
    exact ⟨rfl, grow_next b0 hb1⟩
  | true =>
    rw [ho] at hF
    have HF := Lib.hid hF
    obtain ⟨hA, hle⟩ := okSms_all ho
    cases hs : s.ok with
    | false =>
      have e1 : popV l s = false := by unfold popV; rw [hs]; simp
      rw [e1]
      have HS := fun W => Lib.hid (sampleOk_decS hs W)
      clear ho e1 hs hF
      go_enter Tryd.func23, Tryd.ntmps23
      go_wp2_with fail
      refine HF.out.mono ?_
      rintro e w1 ⟨rfl, hb1⟩
      obtain ⟨r0, r1, r2, r3⟩ := sample_cells (blk_next hb1 R0)
      go_wp2_with fail
      refine (HS _).out.mono ?_
      rintro e w2 ⟨rfl, hb2⟩
      go_wp2_with fail
      go_returns
      exact ⟨rfl, grow_next (grow_next b0 hb1) hb2⟩
    | true =>
      have HS := fun W => Lib.hid (sampleOk_decS hs W)
      by_cases h2 : 2 ≤ n
      · have hne : l ≠ [] := by intro e; have := hn.out; rw [e] at this; simp at this; omega
        have hbk := hA _ (bestV_mem hne)
        have hJ := jitV_in hA hle
        have hso := off_in hs
        have hbo := off_in hbk
        have hAw := awayV_in hso hbo
        have hC := fun W => abs_s (s.off - (bestV l).off) (by omega) (by omega) W
        rw [awayV_sub] at hC
        have hB := fun W h => l4Best_c l n hn (by omega) hm x cap W h
        have hT := fun W h => l4Jitter_c l hA n hn (by rw [hn.out]; exact hle) x cap W h
        have hP : popV l s = decide (3 * max (jitV l) 1 < awayV s.off (bestV l).off) := by
          unfold popV
          rw [ho, hs, decide_eq_true (by rw [← hn.out]; exact h2)]
          simp
        obtain ⟨q, hq⟩ : ∃ q, bestV l = q := ⟨_, rfl⟩
        obtain ⟨j, hj⟩ : ∃ j, jitV l = j := ⟨_, rfl⟩
        rw [hq, hj] at hP
        rw [hq] at hC hAw hB hbo
        rw [hj] at hT hJ
        obtain ⟨d, hd⟩ : ∃ d, awayV s.off q.off = d := ⟨_, rfl⟩
        rw [hd] at hC hP hAw
        have HC := Lib.hid hC
        have HB := Lib.hid hB
        have HT := Lib.hid hT
        have HP := Lib.hid hP
        have hw2 : IntKind.i64.wrap (s.off - q.off) = s.off - q.off := IntWalk.i64_in _ (by omega)
        have hd2 : decide ((n : Int) < 2) = false := decide_eq_false (by omega)
        have hfd : ∀ W, (Instr.field 26 (.agg #[.int .i64 q.off, .int .i64 q.delay, .int .i64 q.disp, .int .i64 q.at_]) 0).run Tryd.prog W = .ok (.int .i64 q.off) W := fun W => by kernel_rfl
        clear hbk hC hB hT hP hq hj hd ho hs hne hF
        go_enter Tryd.func23, Tryd.ntmps23
        go_wp2_with fail
        refine HF.out.mono ?_
        rintro e w1 ⟨rfl, hb1⟩
        obtain ⟨r0, r1, r2, r3⟩ := sample_cells (blk_next hb1 R0)
        go_wp2_with fail
        refine (HS _).out.mono ?_
        rintro e w3 ⟨rfl, hb2⟩
        have h3 := (h0.next hb1).next hb2
        have b3 := grow_next (grow_next b0 hb1) hb2
        obtain ⟨r0, r1, r2, r3⟩ := sample_cells (blk_next hb2 (blk_next hb1 R0))
        have k0 := cell_regrown r0
        have KB := Lib.hid (fun d os => Calls.regrown_of (HB.out (grow (redrawn w3 d) os) (h3.next (below_regrown w3 d os))))
        have KT := Lib.hid (fun d os => Calls.regrown_of (HT.out (grow (redrawn w3 d) os) (h3.next (below_regrown w3 d os))))
        have KC := Lib.hid (fun d os => Calls.regrown_of (HC.out (grow (redrawn w3 d) os)))
        clear r0 r1 r2 r3 HB HT HC HF
        by_cases hj1 : 1 < j
        · have e1 : decide (1 < j) = true := decide_eq_true hj1
          have e2 : max j 1 = j := by omega
          have hw3 : IntKind.i64.wrap (3 * j) = 3 * j := IntWalk.i64_in _ (by omega)
          rw [e2] at HP
          clear e2
          go_wp2_with fail
          refine wp_region_quiet_below (by kernel_rfl) (by kernel_rfl) ?_
          repeat ((with_reducible refine wpQuiet_step (fun K hK => ?_)); go_simp; first | ((with_reducible refine hK _ ?_); clear hK K) | (rw [if_neg (by intro h; exact nomatch h)]; (with_reducible refine hK _ ?_); clear hK K) | (apply Exists.intro; (with_reducible refine ⟨fun _ => ?_, hK _ ?_⟩); (first | with_reducible exact KB.out _ _ | with_reducible exact KT.out _ _ | with_reducible exact KC.out _ _); clear hK K))
          with_reducible refine wpQuiet_nil ?_
          intro _ hw'
          obtain ⟨⟨dq1, osq1⟩, hw''⟩ := hw'
          subst hw''
          have g4 := below_regrown w3 dq1 osq1
          generalize hW1 : grow (redrawn w3 dq1) osq1 = W1 at *
          clear hW1 k0 KB KT KC
          go_wp2_with fail
          go_returns
          exact ⟨by rw [HP.out]; rfl, grow_next b3 g4⟩
        · have e1 : decide (1 < j) = false := decide_eq_false hj1
          have e2 : max j 1 = 1 := by omega
          have hw3 : IntKind.i64.wrap 3 = 3 := IntWalk.i64_in _ (by omega)
          rw [e2] at HP
          clear e2
          go_wp2_with fail
          refine wp_region_quiet_below (by kernel_rfl) (by kernel_rfl) ?_
          repeat ((with_reducible refine wpQuiet_step (fun K hK => ?_)); go_simp; first | ((with_reducible refine hK _ ?_); clear hK K) | (rw [if_neg (by intro h; exact nomatch h)]; (with_reducible refine hK _ ?_); clear hK K) | (apply Exists.intro; (with_reducible refine ⟨fun _ => ?_, hK _ ?_⟩); (first | with_reducible exact KB.out _ _ | with_reducible exact KT.out _ _ | with_reducible exact KC.out _ _); clear hK K))
          with_reducible refine wpQuiet_nil ?_
          intro _ hw'
          obtain ⟨⟨dq1, osq1⟩, hw''⟩ := hw'
          subst hw''
          have g4 := below_regrown w3 dq1 osq1
          generalize hW1 : grow (redrawn w3 dq1) osq1 = W1 at *
          clear hW1 k0 KB KT KC
          go_wp2_with fail
          go_returns
          exact ⟨by rw [HP.out]; rfl, grow_next b3 g4⟩
      · have e1 : popV l s = false := by unfold popV; rw [decide_eq_false (by rw [← hn.out]; exact h2)]; simp
        rw [e1]
        have hd2 : decide ((n : Int) < 2) = true := decide_eq_true (by omega)
        clear ho e1 hs hF
        go_enter Tryd.func23, Tryd.ntmps23
        go_wp2_with fail
        refine HF.out.mono ?_
        rintro e w1 ⟨rfl, hb1⟩
        obtain ⟨r0, r1, r2, r3⟩ := sample_cells (blk_next hb1 R0)
        go_wp2_with fail
        refine (HS _).out.mono ?_
        rintro e w2 ⟨rfl, hb2⟩
        go_wp2_with fail
        go_returns
        exact ⟨rfl, grow_next (grow_next b0 hb1) hb2⟩
end
end Go.Proofs.YthgamidodkkpbaaDoor
