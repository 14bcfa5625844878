/- The program's SampleOf by its numbers, and the reference's. -/
import Derived.Test.YtbabkpcefpacpaaDoorSampleOf
namespace Go.Proofs.YtbabkpcefpacpaaDoor
open Go.ChangeShapes Go.WideShapes Go.ChangeAt Go.RowKit
set_option linter.unusedVariables false
set_option linter.unusedSimpArgs false

theorem dividedDown_c (a : Int) (h0 : -4611686018427387904 ≤ a) (h1 : a ≤ 4611686018427387904) (w : World) :
    Calls Tryd.prog 41 #[.int .i64 a, .int .i64 2] w fun e w' => e = .returned (.int .i64 (a / 2)) ∧ w = w' := by
  have hq := tdiv_two a
  have hm := tmod_two a
  by_cases h : a < 0 ∧ a % 2 ≠ 0
  · rw [if_pos h] at hq hm
    go_enter Tryd.func41, Tryd.ntmps41
    go_wp2
    go_returns
    exact ⟨by congr 2, rfl⟩
  · rw [if_neg h] at hq hm
    have h2 : ¬ a % 2 < 0 := by omega
    go_enter Tryd.func41, Tryd.ntmps41
    go_wp2
    go_returns
    exact ⟨by congr 2, rfl⟩

theorem l1Floor_c (a : Int) (h0 : -4611686018427387904 ≤ a) (h1 : a ≤ 4611686018427387904) (w : World) :
    Calls Tryd.prog 38 #[.int .i64 a, .int .i64 2] w fun e w' => e = .returned (.int .i64 (a / 2)) ∧ Below w.heap.size w w' := by
  have hq := tdiv_two a
  have hm := tmod_two a
  by_cases hn : a < 0
  · by_cases h : a % 2 = 0
    · rw [if_neg (by omega)] at hq hm
      rw [h] at hm
      go_enter Tryd.func38, Tryd.ntmps38
      go_wp2
      go_returns
      exact ⟨by congr 2, by go_grown⟩
    · rw [if_pos (by omega)] at hq hm
      go_enter Tryd.func38, Tryd.ntmps38
      go_wp2
      go_returns
      exact ⟨by congr 2, by go_grown⟩
  · rw [if_neg (by omega)] at hq hm
    by_cases h : a % 2 = 0
    · rw [h] at hm
      go_enter Tryd.func38, Tryd.ntmps38
      go_wp2
      go_returns
      exact ⟨by congr 2, by go_grown⟩
    · go_enter Tryd.func38, Tryd.ntmps38
      go_wp2
      go_returns
      exact ⟨by congr 2, by go_grown⟩

theorem ways_right (a b c d : Int) (h : waysOk a b c d = true) (W : World) :
    Calls Tryd.prog 39 #[.int .i64 a, .int .i64 b, .int .i64 c, .int .i64 d] W fun e w' => e = .returned .nilIface ∧ Below W.heap.size W w' := by
  obtain ⟨⟨a0, a1⟩, ⟨b0, b1⟩, ⟨c0, c1⟩, ⟨d0, d1⟩, ad, bc⟩ := waysOk_iff.1 h
  have h1 := inB_yes a0 a1
  have h2 := inB_yes b0 b1
  have h3 := inB_yes c0 c1
  have h4 := inB_yes d0 d1
  clear h
  go_enter Tryd.func39, Tryd.ntmps39
  go_wp2_with (go_at_call 57; refine (isTime_c _ _).mono ?_; rintro e w1 ⟨rfl, rfl⟩)
  go_returns
  exact ⟨rfl, by go_grown⟩

set_option maxHeartbeats 1000000 in
theorem ways_no (a b c d : Int) (h : waysOk a b c d = false) (W : World) {ao an au ab : Addr} {tx : List UInt8} (L : Ld W ao an au) (B : Sent W 3 tx ab) :
    Calls Tryd.prog 39 #[.int .i64 a, .int .i64 b, .int .i64 c, .int .i64 d] W fun e w' => ∃ why, Refused why W e w' := by
  have l0 := cell_lt L.noTime.cell
  have k0 := L.noTime.cell
  have l1 := cell_lt B.cell
  have k1 := B.cell
  cases h1 : inB 0 a 4000000000000000 with
  | false =>
    go_enter Tryd.func39, Tryd.ntmps39
    go_wp2_with (go_at_call 57; refine (isTime_c _ _).mono ?_; rintro e w1 ⟨rfl, rfl⟩)
    go_returns
    exact ⟨an, _, rfl, by simp, by go_grown⟩
  | true =>
    cases h2 : inB 0 b 4000000000000000 with
    | false =>
      go_enter Tryd.func39, Tryd.ntmps39
      go_wp2_with (go_at_call 57; refine (isTime_c _ _).mono ?_; rintro e w1 ⟨rfl, rfl⟩)
      go_returns
      exact ⟨an, _, rfl, by simp, by go_grown⟩
    | true =>
      cases h3 : inB 0 c 4000000000000000 with
      | false =>
        go_enter Tryd.func39, Tryd.ntmps39
        go_wp2_with (go_at_call 57; refine (isTime_c _ _).mono ?_; rintro e w1 ⟨rfl, rfl⟩)
        go_returns
        exact ⟨an, _, rfl, by simp, by go_grown⟩
      | true =>
        cases h4 : inB 0 d 4000000000000000 with
        | false =>
          go_enter Tryd.func39, Tryd.ntmps39
          go_wp2_with (go_at_call 57; refine (isTime_c _ _).mono ?_; rintro e w1 ⟨rfl, rfl⟩)
          go_returns
          exact ⟨an, _, rfl, by simp, by go_grown⟩
        | true =>
          by_cases h5 : d < a
          · go_enter Tryd.func39, Tryd.ntmps39
            go_wp2_with (go_at_call 57; refine (isTime_c _ _).mono ?_; rintro e w1 ⟨rfl, rfl⟩)
            go_returns
            exact ⟨ab, _, rfl, by simp, by go_grown⟩
          · have h6 : c < b := by
              simp only [waysOk, h1, h2, h3, h4, h5, Bool.true_and, decide_false, Bool.not_false, Bool.not_eq_false', decide_eq_true_eq] at h
              exact h
            go_enter Tryd.func39, Tryd.ntmps39
            go_wp2_with (go_at_call 57; refine (isTime_c _ _).mono ?_; rintro e w1 ⟨rfl, rfl⟩)
            go_returns
            exact ⟨ab, _, rfl, by simp, by go_grown⟩

theorem smOf_heldV (a b c d : Int) (h : waysOk a b c d = true) : (⟨(b - a + c - d) / 2, d - a - (c - b), 1 + (d - a) * 15 / 1000000, d⟩ : Sm).base = (smOf a b c d).ok := by
  obtain ⟨⟨a0, a1⟩, ⟨b0, b1⟩, ⟨c0, c1⟩, ⟨d0, d1⟩, ad, bc⟩ := waysOk_iff.1 h
  rw [Bool.eq_iff_iff, Sm.ok_iff]
  simp only [Sm.base, inB, smOf, Bool.and_eq_true, decide_eq_true_eq]
  omega
theorem smOf_held (a b c d : Int) (h : waysOk a b c d = true) : heldV ⟨(b - a + c - d) / 2, d - a - (c - b), 1 + (d - a) * 15 / 1000000, d⟩ = smOfV a b c d := by
  unfold heldV smOfV smOfOk
  rw [smOf_heldV a b c d h, h, Bool.true_and]
  rfl
theorem smOf_no (a b c d : Int) (h : waysOk a b c d = false) : smOfOk a b c d = false ∧ smOfV a b c d = Sm.zero := by
  have e : smOfOk a b c d = false := by unfold smOfOk; rw [h]; rfl
  exact ⟨e, by unfold smOfV; rw [e]; rfl⟩

set_option maxHeartbeats 1000000 in
theorem sampleOf_impl (a b c d : Int) (W : World) {ao an au ab : Addr} {tx : List UInt8} (L : Ld W ao an au) (B : Sent W 3 tx ab) :
    Calls Tryd.prog 18 #[.int .i64 a, .int .i64 b, .int .i64 c, .int .i64 d] W fun e w' => e = .returned (.tuple #[.agg #[.int .i64 (smOfV a b c d).off, .int .i64 (smOfV a b c d).delay, .int .i64 (smOfV a b c d).disp, .int .i64 (smOfV a b c d).at_], .bool (smOfOk a b c d)]) ∧ Below W.heap.size W w' := by
  cases h : waysOk a b c d with
  | false =>
    obtain ⟨e1, e2⟩ := smOf_no a b c d h
    rw [e1, e2]
    dsimp only [Sm.zero]
    clear e1 e2
    have hw := fun W => @ways_no a b c d h W
    clear h
    go_enter Tryd.func18, Tryd.ntmps18
    go_wp2_with fail
    refine (hw _ (L.next (by go_grown)) (B.next (by go_grown))).mono ?_
    rintro e w1 ⟨why, b1, rfl, hw1, hb1⟩
    have R1 := blk_next hb1 (blk_new W (.cells #[.int .i64 0, .int .i64 0, .int .i64 0, .int .i64 0] 25))
    have g1 := grow_next (show Below W.heap.size W (W.alloc (.cells #[.int .i64 0, .int .i64 0, .int .i64 0, .int .i64 0] 25)) by go_grown) hb1
    have M1 := L.next g1
    go_wp2_with fail
    refine (isRefusal_hit _ _ M1).mono ?_
    rintro e w2 ⟨rfl, hb2⟩
    have R2 := blk_next hb2 R1
    have g2 := grow_next g1 hb2
    obtain ⟨y0, y1, y2, y3⟩ := sample_thaw (q := ⟨0, 0, 0, 0⟩) R2
    obtain ⟨z0, z1, z2, z3⟩ := sample_cells (q := ⟨0, 0, 0, 0⟩) R2
    go_wp2_with fail
    obtain ⟨q0, q1, q2, q3⟩ := sample_cells (sample_put (q := ⟨0, 0, 0, 0⟩) R2 ⟨0, 0, 0, 0⟩)
    dsimp only at q0 q1 q2 q3
    have G : Below W.heap.size W ((((w2.setCell ⟨W.heap.size, 0, none⟩ (.int .i64 0)).setCell ⟨W.heap.size, 1, none⟩ (.int .i64 0)).setCell ⟨W.heap.size, 2, none⟩ (.int .i64 0)).setCell ⟨W.heap.size, 3, none⟩ (.int .i64 0)) := by
      repeat (refine below_put ?_ (by omega) _ _)
      exact g2
    refine bodyPost_ret (by simp [results, Tryd.results18, go_sem, q0, q1, q2, q3]; try rfl) rfl ?_
    exact ⟨rfl, G⟩
  | true =>
    have hN := fun W => @sampleOrNone_c ⟨(b - a + c - d) / 2, d - a - (c - b), 1 + (d - a) * 15 / 1000000, d⟩ W
    rw [smOf_heldV a b c d h, smOf_held a b c d h] at hN
    have e1 : smOfOk a b c d = (smOf a b c d).ok := by unfold smOfOk; rw [h]; rfl
    rw [e1]
    obtain ⟨ok, hok⟩ : ∃ ok, (smOf a b c d).ok = ok := ⟨_, rfl⟩
    rw [hok] at hN ⊢
    clear hok e1
    obtain ⟨v, hv⟩ : ∃ v, smOfV a b c d = v := ⟨_, rfl⟩
    rw [hv] at hN ⊢
    clear hv
    have hw := fun W => @ways_right a b c d h W
    obtain ⟨⟨a0, a1⟩, ⟨b0, b1⟩, ⟨c0, c1⟩, ⟨d0, d1⟩, ad, bc⟩ := waysOk_iff.1 h
    have hD := fun w => dividedDown_c (b - a + c - d) (by omega) (by omega) w
    clear h
    have HN := Lib.hid hN
    have HW := Lib.hid hw
    have HD := Lib.hid hD
    clear hN hw hD
    go_enter Tryd.func18, Tryd.ntmps18
    go_wp2_with fail
    refine (HW.out _).mono ?_
    rintro e w1 ⟨rfl, hb1⟩
    have R1 := blk_next hb1 (blk_new W (.cells #[.int .i64 0, .int .i64 0, .int .i64 0, .int .i64 0] 25))
    have g1 := grow_next (show Below W.heap.size W (W.alloc (.cells #[.int .i64 0, .int .i64 0, .int .i64 0, .int .i64 0] 25)) by go_grown) hb1
    go_wp2_with fail
    refine (isRefusal_nil _).mono ?_
    rintro e w2 ⟨rfl, hb2⟩
    have R2 := blk_next hb2 R1
    have g2 := grow_next g1 hb2
    have M2 := L.next g2
    go_wp2_with (first | (go_at_call 41; refine (HD.out _).mono ?_; rintro e w3 ⟨rfl, rfl⟩) | (go_at_call 40; refine (HN.out _ M2).mono ?_; rintro e w3 ⟨rfl, hb3⟩; have R3 := blk_next hb3 R2; obtain ⟨y0, y1, y2, y3⟩ := sample_thaw (q := ⟨0, 0, 0, 0⟩) R3; obtain ⟨z0, z1, z2, z3⟩ := sample_cells (q := ⟨0, 0, 0, 0⟩) R3))
    obtain ⟨q0, q1, q2, q3⟩ := sample_cells (sample_put (q := ⟨0, 0, 0, 0⟩) R3 v)
    have G : Below W.heap.size W ((((w3.setCell ⟨W.heap.size, 0, none⟩ (.int .i64 v.off)).setCell ⟨W.heap.size, 1, none⟩ (.int .i64 v.delay)).setCell ⟨W.heap.size, 2, none⟩ (.int .i64 v.disp)).setCell ⟨W.heap.size, 3, none⟩ (.int .i64 v.at_)) := by
      repeat (refine below_put ?_ (by omega) _ _)
      exact grow_next g2 hb3
    refine bodyPost_ret (by simp [results, Tryd.results18, go_sem, q0, q1, q2, q3]; try rfl) rfl ?_
    exact ⟨rfl, G⟩

set_option maxHeartbeats 1000000 in
theorem sampleOf_spec (a b c d : Int) (W : World) :
    Calls Tryd.prog 17 #[.int .i64 a, .int .i64 b, .int .i64 c, .int .i64 d] W fun e w' => e = .returned (.tuple #[.agg #[.int .i64 (smOfV a b c d).off, .int .i64 (smOfV a b c d).delay, .int .i64 (smOfV a b c d).disp, .int .i64 (smOfV a b c d).at_], .bool (smOfOk a b c d)]) ∧ Below W.heap.size W w' := by
  have HT := fun t w => l1Time_c t w
  cases h : waysOk a b c d with
  | false =>
    obtain ⟨e1, e2⟩ := smOf_no a b c d h
    rw [e1, e2]
    dsimp only [Sm.zero]
    clear e1 e2
    cases h1 : inB 0 a 4000000000000000 with
    | false =>
      clear h
      go_enter Tryd.func17, Tryd.ntmps17
      go_wp2_with (go_at_call 35; refine (l1Time_c _ _).mono ?_; rintro e w1 ⟨rfl, rfl⟩)
      go_returns
      exact ⟨rfl, by go_grown⟩
    | true =>
      cases h2 : inB 0 b 4000000000000000 with
      | false =>
        clear h
        go_enter Tryd.func17, Tryd.ntmps17
        go_wp2_with (go_at_call 35; refine (l1Time_c _ _).mono ?_; rintro e w1 ⟨rfl, rfl⟩)
        go_returns
        exact ⟨rfl, by go_grown⟩
      | true =>
        cases h3 : inB 0 c 4000000000000000 with
        | false =>
          clear h
          go_enter Tryd.func17, Tryd.ntmps17
          go_wp2_with (go_at_call 35; refine (l1Time_c _ _).mono ?_; rintro e w1 ⟨rfl, rfl⟩)
          go_returns
          exact ⟨rfl, by go_grown⟩
        | true =>
          cases h4 : inB 0 d 4000000000000000 with
          | false =>
            clear h
            go_enter Tryd.func17, Tryd.ntmps17
            go_wp2_with (go_at_call 35; refine (l1Time_c _ _).mono ?_; rintro e w1 ⟨rfl, rfl⟩)
            go_returns
            exact ⟨rfl, by go_grown⟩
          | true =>
            by_cases h5 : d < a
            · clear h
              go_enter Tryd.func17, Tryd.ntmps17
              go_wp2_with (go_at_call 35; refine (l1Time_c _ _).mono ?_; rintro e w1 ⟨rfl, rfl⟩)
              go_returns
              exact ⟨rfl, by go_grown⟩
            · have h6 : c < b := by
                simp only [waysOk, h1, h2, h3, h4, h5, Bool.true_and, decide_false, Bool.not_false, Bool.not_eq_false', decide_eq_true_eq] at h
                exact h
              clear h
              go_enter Tryd.func17, Tryd.ntmps17
              go_wp2_with (go_at_call 35; refine (l1Time_c _ _).mono ?_; rintro e w1 ⟨rfl, rfl⟩)
              go_returns
              exact ⟨rfl, by go_grown⟩
  | true =>
    obtain ⟨ok, hok⟩ : ∃ ok, (smOf a b c d).ok = ok := ⟨_, rfl⟩
    have e1 : smOfOk a b c d = ok := by unfold smOfOk; rw [h, hok]; rfl
    have hS := fun w => sampleOk_spec (smOf a b c d) w
    rw [hok] at hS
    dsimp only [smOf] at hS
    obtain ⟨⟨a0, a1⟩, ⟨b0, b1⟩, ⟨c0, c1⟩, ⟨d0, d1⟩, ad, bc⟩ := waysOk_iff.1 h
    have h1 := inB_yes a0 a1
    have h2 := inB_yes b0 b1
    have h3 := inB_yes c0 c1
    have h4 := inB_yes d0 d1
    have hD := fun w => l1Floor_c (b - a + c - d) (by omega) (by omega) w
    have HS := Lib.hid hS
    have HD := Lib.hid hD
    clear hS hD
    have e2 : smOfV a b c d = if ok then smOf a b c d else Sm.zero := by unfold smOfV; rw [e1]
    rw [e1, e2]
    clear e1 e2 hok h
    have n1 : decide (d < a) = false := by simp only [decide_eq_false_iff_not]; omega
    have n2 : decide (c < b) = false := by simp only [decide_eq_false_iff_not]; omega
    by_cases hm : 16000000 ≤ 1 + (d - a) * 15 / 1000000
    · have em : min 16000000 (1 + (d - a) * 15 / 1000000) = 16000000 := by omega
      have HS : Hid (∀ w, Calls Tryd.prog 14 #[.agg #[.int .i64 ((b - a + c - d) / 2), .int .i64 (d - a - (c - b)), .int .i64 16000000, .int .i64 d]] w fun e w' => e = .returned (.bool ok) ∧ Below w.heap.size w w') := Lib.hid (by have := HS.out; rw [em] at this; exact this)
      have ev : smOf a b c d = ⟨(b - a + c - d) / 2, d - a - (c - b), 16000000, d⟩ := by unfold smOf; rw [em]
      rw [ev]
      clear em ev
      cases ok with
      | false =>
        simp only [Bool.false_eq_true, if_false, Sm.zero]
        go_enter Tryd.func17, Tryd.ntmps17
        go_wp2_with (first | (go_at_call 35; refine (l1Time_c _ _).mono ?_; rintro e w1 ⟨rfl, rfl⟩) | (go_at_call 38; refine (HD.out _).mono ?_; rintro e w1 ⟨rfl, hb1⟩; have s1 := size_lt hb1 (k := W.heap.size) (by simp <;> omega)))
        have P1 := blk_new w1 (.cells #[.int .i64 ((b - a + c - d) / 2), .int .i64 (d - a - (c - b)), .int .i64 (16000000), .int .i64 d] 25)
        have R1 := blk_alloc (blk_next hb1 (blk_new W (.cells #[.int .i64 0, .int .i64 0, .int .i64 0, .int .i64 0] 25))) (.cells #[.int .i64 ((b - a + c - d) / 2), .int .i64 (d - a - (c - b)), .int .i64 (16000000), .int .i64 d] 25)
        have g1 := grow_next (show Below W.heap.size W (W.alloc (.cells #[.int .i64 0, .int .i64 0, .int .i64 0, .int .i64 0] 25)) by go_grown) hb1
        have g2 : Below W.heap.size W (w1.alloc (.cells #[.int .i64 ((b - a + c - d) / 2), .int .i64 (d - a - (c - b)), .int .i64 (16000000), .int .i64 d] 25)) := g1.alloc (by omega) _
        refine (HS.out _).mono ?_
        rintro e w2 ⟨rfl, hb2⟩
        have P2 := blk_next hb2 P1
        have R2 := blk_next hb2 R1
        have g3 := grow_next g2 hb2
        obtain ⟨y0, y1, y2, y3⟩ := sample_thaw (q := ⟨0, 0, 0, 0⟩) R2
        obtain ⟨z0, z1, z2, z3⟩ := sample_cells (q := ⟨0, 0, 0, 0⟩) R2
        obtain ⟨x0, x1, x2, x3⟩ := sample_cells (q := ⟨(b - a + c - d) / 2, d - a - (c - b), 16000000, d⟩) P2
        dsimp only at x0 x1 x2 x3
        go_wp2_with fail
        obtain ⟨q0, q1, q2, q3⟩ := sample_cells (sample_put (q := ⟨0, 0, 0, 0⟩) R2 ⟨0, 0, 0, 0⟩)
        dsimp only at q0 q1 q2 q3
        have G : Below W.heap.size W ((((w2.setCell ⟨W.heap.size, 0, none⟩ (.int .i64 0)).setCell ⟨W.heap.size, 1, none⟩ (.int .i64 0)).setCell ⟨W.heap.size, 2, none⟩ (.int .i64 0)).setCell ⟨W.heap.size, 3, none⟩ (.int .i64 0)) := by
          repeat (refine below_put ?_ (by omega) _ _)
          exact g3
        refine bodyPost_ret (by simp [results, Tryd.results17, go_sem, q0, q1, q2, q3]; try rfl) rfl ?_
        exact ⟨rfl, G⟩
      | true =>
        simp only [if_true]
        go_enter Tryd.func17, Tryd.ntmps17
        go_wp2_with (first | (go_at_call 35; refine (l1Time_c _ _).mono ?_; rintro e w1 ⟨rfl, rfl⟩) | (go_at_call 38; refine (HD.out _).mono ?_; rintro e w1 ⟨rfl, hb1⟩; have s1 := size_lt hb1 (k := W.heap.size) (by simp <;> omega)))
        have P1 := blk_new w1 (.cells #[.int .i64 ((b - a + c - d) / 2), .int .i64 (d - a - (c - b)), .int .i64 (16000000), .int .i64 d] 25)
        have R1 := blk_alloc (blk_next hb1 (blk_new W (.cells #[.int .i64 0, .int .i64 0, .int .i64 0, .int .i64 0] 25))) (.cells #[.int .i64 ((b - a + c - d) / 2), .int .i64 (d - a - (c - b)), .int .i64 (16000000), .int .i64 d] 25)
        have g1 := grow_next (show Below W.heap.size W (W.alloc (.cells #[.int .i64 0, .int .i64 0, .int .i64 0, .int .i64 0] 25)) by go_grown) hb1
        have g2 : Below W.heap.size W (w1.alloc (.cells #[.int .i64 ((b - a + c - d) / 2), .int .i64 (d - a - (c - b)), .int .i64 (16000000), .int .i64 d] 25)) := g1.alloc (by omega) _
        refine (HS.out _).mono ?_
        rintro e w2 ⟨rfl, hb2⟩
        have P2 := blk_next hb2 P1
        have R2 := blk_next hb2 R1
        have g3 := grow_next g2 hb2
        obtain ⟨y0, y1, y2, y3⟩ := sample_thaw (q := ⟨0, 0, 0, 0⟩) R2
        obtain ⟨z0, z1, z2, z3⟩ := sample_cells (q := ⟨0, 0, 0, 0⟩) R2
        obtain ⟨x0, x1, x2, x3⟩ := sample_cells (q := ⟨(b - a + c - d) / 2, d - a - (c - b), 16000000, d⟩) P2
        dsimp only at x0 x1 x2 x3
        go_wp2_with fail
        obtain ⟨q0, q1, q2, q3⟩ := sample_cells (sample_put (q := ⟨0, 0, 0, 0⟩) R2 ⟨(b - a + c - d) / 2, d - a - (c - b), 16000000, d⟩)
        dsimp only at q0 q1 q2 q3
        have G : Below W.heap.size W ((((w2.setCell ⟨W.heap.size, 0, none⟩ (.int .i64 ((b - a + c - d) / 2))).setCell ⟨W.heap.size, 1, none⟩ (.int .i64 (d - a - (c - b)))).setCell ⟨W.heap.size, 2, none⟩ (.int .i64 (16000000))).setCell ⟨W.heap.size, 3, none⟩ (.int .i64 d)) := by
          repeat (refine below_put ?_ (by omega) _ _)
          exact g3
        refine bodyPost_ret (by simp [results, Tryd.results17, go_sem, q0, q1, q2, q3]; try rfl) rfl ?_
        exact ⟨rfl, G⟩
    · have em : min 16000000 (1 + (d - a) * 15 / 1000000) = 1 + (d - a) * 15 / 1000000 := by omega
      have HS : Hid (∀ w, Calls Tryd.prog 14 #[.agg #[.int .i64 ((b - a + c - d) / 2), .int .i64 (d - a - (c - b)), .int .i64 (1 + (d - a) * 15 / 1000000), .int .i64 d]] w fun e w' => e = .returned (.bool ok) ∧ Below w.heap.size w w') := Lib.hid (by have := HS.out; rw [em] at this; exact this)
      have ev : smOf a b c d = ⟨(b - a + c - d) / 2, d - a - (c - b), 1 + (d - a) * 15 / 1000000, d⟩ := by unfold smOf; rw [em]
      rw [ev]
      clear em ev
      cases ok with
      | false =>
        simp only [Bool.false_eq_true, if_false, Sm.zero]
        go_enter Tryd.func17, Tryd.ntmps17
        go_wp2_with (first | (go_at_call 35; refine (l1Time_c _ _).mono ?_; rintro e w1 ⟨rfl, rfl⟩) | (go_at_call 38; refine (HD.out _).mono ?_; rintro e w1 ⟨rfl, hb1⟩; have s1 := size_lt hb1 (k := W.heap.size) (by simp <;> omega)))
        have P1 := blk_new w1 (.cells #[.int .i64 ((b - a + c - d) / 2), .int .i64 (d - a - (c - b)), .int .i64 (1 + (d - a) * 15 / 1000000), .int .i64 d] 25)
        have R1 := blk_alloc (blk_next hb1 (blk_new W (.cells #[.int .i64 0, .int .i64 0, .int .i64 0, .int .i64 0] 25))) (.cells #[.int .i64 ((b - a + c - d) / 2), .int .i64 (d - a - (c - b)), .int .i64 (1 + (d - a) * 15 / 1000000), .int .i64 d] 25)
        have g1 := grow_next (show Below W.heap.size W (W.alloc (.cells #[.int .i64 0, .int .i64 0, .int .i64 0, .int .i64 0] 25)) by go_grown) hb1
        have g2 : Below W.heap.size W (w1.alloc (.cells #[.int .i64 ((b - a + c - d) / 2), .int .i64 (d - a - (c - b)), .int .i64 (1 + (d - a) * 15 / 1000000), .int .i64 d] 25)) := g1.alloc (by omega) _
        refine (HS.out _).mono ?_
        rintro e w2 ⟨rfl, hb2⟩
        have P2 := blk_next hb2 P1
        have R2 := blk_next hb2 R1
        have g3 := grow_next g2 hb2
        obtain ⟨y0, y1, y2, y3⟩ := sample_thaw (q := ⟨0, 0, 0, 0⟩) R2
        obtain ⟨z0, z1, z2, z3⟩ := sample_cells (q := ⟨0, 0, 0, 0⟩) R2
        obtain ⟨x0, x1, x2, x3⟩ := sample_cells (q := ⟨(b - a + c - d) / 2, d - a - (c - b), 1 + (d - a) * 15 / 1000000, d⟩) P2
        dsimp only at x0 x1 x2 x3
        go_wp2_with fail
        obtain ⟨q0, q1, q2, q3⟩ := sample_cells (sample_put (q := ⟨0, 0, 0, 0⟩) R2 ⟨0, 0, 0, 0⟩)
        dsimp only at q0 q1 q2 q3
        have G : Below W.heap.size W ((((w2.setCell ⟨W.heap.size, 0, none⟩ (.int .i64 0)).setCell ⟨W.heap.size, 1, none⟩ (.int .i64 0)).setCell ⟨W.heap.size, 2, none⟩ (.int .i64 0)).setCell ⟨W.heap.size, 3, none⟩ (.int .i64 0)) := by
          repeat (refine below_put ?_ (by omega) _ _)
          exact g3
        refine bodyPost_ret (by simp [results, Tryd.results17, go_sem, q0, q1, q2, q3]; try rfl) rfl ?_
        exact ⟨rfl, G⟩
      | true =>
        simp only [if_true]
        go_enter Tryd.func17, Tryd.ntmps17
        go_wp2_with (first | (go_at_call 35; refine (l1Time_c _ _).mono ?_; rintro e w1 ⟨rfl, rfl⟩) | (go_at_call 38; refine (HD.out _).mono ?_; rintro e w1 ⟨rfl, hb1⟩; have s1 := size_lt hb1 (k := W.heap.size) (by simp <;> omega)))
        have P1 := blk_new w1 (.cells #[.int .i64 ((b - a + c - d) / 2), .int .i64 (d - a - (c - b)), .int .i64 (1 + (d - a) * 15 / 1000000), .int .i64 d] 25)
        have R1 := blk_alloc (blk_next hb1 (blk_new W (.cells #[.int .i64 0, .int .i64 0, .int .i64 0, .int .i64 0] 25))) (.cells #[.int .i64 ((b - a + c - d) / 2), .int .i64 (d - a - (c - b)), .int .i64 (1 + (d - a) * 15 / 1000000), .int .i64 d] 25)
        have g1 := grow_next (show Below W.heap.size W (W.alloc (.cells #[.int .i64 0, .int .i64 0, .int .i64 0, .int .i64 0] 25)) by go_grown) hb1
        have g2 : Below W.heap.size W (w1.alloc (.cells #[.int .i64 ((b - a + c - d) / 2), .int .i64 (d - a - (c - b)), .int .i64 (1 + (d - a) * 15 / 1000000), .int .i64 d] 25)) := g1.alloc (by omega) _
        refine (HS.out _).mono ?_
        rintro e w2 ⟨rfl, hb2⟩
        have P2 := blk_next hb2 P1
        have R2 := blk_next hb2 R1
        have g3 := grow_next g2 hb2
        obtain ⟨y0, y1, y2, y3⟩ := sample_thaw (q := ⟨0, 0, 0, 0⟩) R2
        obtain ⟨z0, z1, z2, z3⟩ := sample_cells (q := ⟨0, 0, 0, 0⟩) R2
        obtain ⟨x0, x1, x2, x3⟩ := sample_cells (q := ⟨(b - a + c - d) / 2, d - a - (c - b), 1 + (d - a) * 15 / 1000000, d⟩) P2
        dsimp only at x0 x1 x2 x3
        go_wp2_with fail
        obtain ⟨q0, q1, q2, q3⟩ := sample_cells (sample_put (q := ⟨0, 0, 0, 0⟩) R2 ⟨(b - a + c - d) / 2, d - a - (c - b), 1 + (d - a) * 15 / 1000000, d⟩)
        dsimp only at q0 q1 q2 q3
        have G : Below W.heap.size W ((((w2.setCell ⟨W.heap.size, 0, none⟩ (.int .i64 ((b - a + c - d) / 2))).setCell ⟨W.heap.size, 1, none⟩ (.int .i64 (d - a - (c - b)))).setCell ⟨W.heap.size, 2, none⟩ (.int .i64 (1 + (d - a) * 15 / 1000000))).setCell ⟨W.heap.size, 3, none⟩ (.int .i64 d)) := by
          repeat (refine below_put ?_ (by omega) _ _)
          exact g3
        refine bodyPost_ret (by simp [results, Tryd.results17, go_sem, q0, q1, q2, q3]; try rfl) rfl ?_
        exact ⟨rfl, G⟩

theorem smOfV_yes {a b c d : Int} (h : smOfOk a b c d = true) : smOfV a b c d = smOf a b c d := by unfold smOfV; rw [h]; rfl
theorem smOfOk_parts {a b c d : Int} (h : smOfOk a b c d = true) : waysOk a b c d = true ∧ (smOf a b c d).ok = true := by simpa [smOfOk] using h
end Go.Proofs.YtbabkpcefpacpaaDoor
