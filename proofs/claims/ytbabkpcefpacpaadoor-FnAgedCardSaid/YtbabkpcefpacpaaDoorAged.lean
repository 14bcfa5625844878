/- A sample that has aged, and how far it reaches: the program's way and the reference's. -/
import Derived.Test.YtbabkpcefpacpaaDoorSampleOf
import Derived.Deep.RegionWith
namespace Go.Proofs.YtbabkpcefpacpaaDoor
open Go.ChangeShapes Go.WideShapes Go.ChangeAt Go.RowKit
set_option linter.unusedVariables false
set_option linter.unusedSimpArgs false

theorem dividedUp_c (a : Int) (h0 : 0 ≤ a) (h1 : a ≤ 4611686018427387904) (w : World) :
    Calls Tryd.prog 43 #[.int .i64 a, .int .i64 1000000] w fun e w' => e = .returned (.int .i64 (begun a)) ∧ w = w' := by
  go_enter Tryd.func43, Tryd.ntmps43
  go_wp2
  go_returns
  refine ⟨?_, rfl⟩
  show Ending.returned (Value.int .i64 ((a + 1000000 - 1) / 1000000)) = _
  rw [show (a + 1000000 - 1) / 1000000 = begun a from by unfold begun; omega]

theorem age_right (s : Sm) (now : Int) (h : agedOk s now = true) (W : World) :
    Calls Tryd.prog 42 #[.agg #[.int .i64 s.off, .int .i64 s.delay, .int .i64 s.disp, .int .i64 s.at_], .int .i64 now] W fun e w' => e = .returned .nilIface ∧ Below W.heap.size W w' := by
  obtain ⟨hs, ⟨n0, n1⟩, ha⟩ := agedOk_iff.1 h
  have hn := inB_yes n0 n1
  have Q := blk_new W (.cells #[.int .i64 s.off, .int .i64 s.delay, .int .i64 s.disp, .int .i64 s.at_] 25)
  have hd : decide (now < s.at_) = false := by simp only [decide_eq_false_iff_not]; omega
  clear h
  go_enter Tryd.func42, Tryd.ntmps42
  go_wp2_with fail
  refine (check_right s hs _).mono ?_
  rintro e w1 ⟨rfl, hb1⟩
  obtain ⟨x0, x1, x2, x3⟩ := sample_cells (blk_next hb1 Q)
  go_wp2_with (go_at_call 57; refine (isTime_c _ _).mono ?_; rintro e w2 ⟨rfl, rfl⟩)
  go_returns
  exact ⟨rfl, grow_next (show Below W.heap.size W (W.alloc (.cells #[.int .i64 s.off, .int .i64 s.delay, .int .i64 s.disp, .int .i64 s.at_] 25)) by go_grown) hb1⟩

theorem age_no (s : Sm) (now : Int) (h : agedOk s now = false) (W : World) {ao an au ab : Addr} {tx : List UInt8} (L : Ld W ao an au) (B : Sent W 3 tx ab) :
    Calls Tryd.prog 42 #[.agg #[.int .i64 s.off, .int .i64 s.delay, .int .i64 s.disp, .int .i64 s.at_], .int .i64 now] W fun e w' => ∃ why, Refused why W e w' := by
  have Q := blk_new W (.cells #[.int .i64 s.off, .int .i64 s.delay, .int .i64 s.disp, .int .i64 s.at_] 25)
  have g0 : Below W.heap.size W (W.alloc (.cells #[.int .i64 s.off, .int .i64 s.delay, .int .i64 s.disp, .int .i64 s.at_] 25)) := by go_grown
  cases hs : s.ok with
  | false =>
    clear h
    go_enter Tryd.func42, Tryd.ntmps42
    go_wp2_with fail
    refine (check_no s hs _ (L.next g0)).mono ?_
    rintro e w1 ⟨why, b, rfl, hw1, hb1⟩
    go_wp2_with fail
    go_returns
    exact ⟨why, b, rfl, hw1, grow_next g0 hb1⟩
  | true =>
    cases hn : inB 0 now 4000000000000000 with
    | false =>
      clear h
      go_enter Tryd.func42, Tryd.ntmps42
      go_wp2_with fail
      refine (check_right s hs _).mono ?_
      rintro e w1 ⟨rfl, hb1⟩
      obtain ⟨x0, x1, x2, x3⟩ := sample_cells (blk_next hb1 Q)
      have g1 := grow_next g0 hb1
      have k0 := (L.next g1).noTime.cell
      have l0 := cell_lt k0
      go_wp2_with (go_at_call 57; refine (isTime_c _ _).mono ?_; rintro e w2 ⟨rfl, rfl⟩)
      go_returns
      exact ⟨an, _, rfl, by simp, g1.alloc (by have := g1.size; omega) _⟩
    | true =>
      have hd : decide (now < s.at_) = true := by
        simpa only [agedOk, hs, hn, Bool.true_and, Bool.not_eq_false'] using h
      clear h
      go_enter Tryd.func42, Tryd.ntmps42
      go_wp2_with fail
      refine (check_right s hs _).mono ?_
      rintro e w1 ⟨rfl, hb1⟩
      obtain ⟨x0, x1, x2, x3⟩ := sample_cells (blk_next hb1 Q)
      have g1 := grow_next g0 hb1
      have k0 := (B.next g1).cell
      have l0 := cell_lt k0
      go_wp2_with (go_at_call 57; refine (isTime_c _ _).mono ?_; rintro e w2 ⟨rfl, rfl⟩)
      go_returns
      exact ⟨ab, _, rfl, by simp, g1.alloc (by have := g1.size; omega) _⟩

theorem aged_held (s : Sm) (now : Int) (h : agedOk s now = true) :
    (⟨s.off, s.delay, s.disp + 15 * begun (now - s.at_), now⟩ : Sm).base = true ∧ heldV ⟨s.off, s.delay, s.disp + 15 * begun (now - s.at_), now⟩ = agedV s now := by
  obtain ⟨hs, ⟨n0, n1⟩, ha⟩ := agedOk_iff.1 h
  obtain ⟨⟨a0, a1⟩, ⟨b0, b1⟩, ⟨c0, c1⟩, ⟨d0, d1⟩⟩ := Sm.ok_iff.1 hs
  have hb : 0 ≤ begun (now - s.at_) := by unfold begun; omega
  have e : (⟨s.off, s.delay, s.disp + 15 * begun (now - s.at_), now⟩ : Sm).base = true := by
    simp only [Sm.base, inB, Bool.and_eq_true, decide_eq_true_eq]
    omega
  refine ⟨e, ?_⟩
  unfold heldV agedV
  rw [e, h]
  simp only [if_true, agedOf, Int.mul_comm 15]

theorem below_drew {B : Nat} {a w : World} (h : Below B a w) : Below B a w.drew := h.trans ⟨rfl, rfl, rfl, Nat.le_refl _, fun _ _ => rfl⟩

set_option maxRecDepth 100000 in
set_option maxHeartbeats 2000000 in
theorem aged_impl (s : Sm) (now : Int) (W : World) {ao an au ab : Addr} {tx : List UInt8} (L : Ld W ao an au) (B : Sent W 3 tx ab) :
    Calls Tryd.prog 21 #[.agg #[.int .i64 s.off, .int .i64 s.delay, .int .i64 s.disp, .int .i64 s.at_], .int .i64 now] W fun e w' => e = .returned (.tuple #[.agg #[.int .i64 (agedV s now).off, .int .i64 (agedV s now).delay, .int .i64 (agedV s now).disp, .int .i64 (agedV s now).at_], .bool (agedOk s now)]) ∧ Below W.heap.size W w' := by
  have Q := blk_alloc (blk_new W (.cells #[.int .i64 s.off, .int .i64 s.delay, .int .i64 s.disp, .int .i64 s.at_] 25)) (.cells #[.int .i64 0, .int .i64 0, .int .i64 0, .int .i64 0] 25)
  have R := blk_new (W.alloc (.cells #[.int .i64 s.off, .int .i64 s.delay, .int .i64 s.disp, .int .i64 s.at_] 25)) (.cells #[.int .i64 0, .int .i64 0, .int .i64 0, .int .i64 0] 25)
  simp only [World.size_alloc] at R
  have g0 : Below W.heap.size W ((W.alloc (.cells #[.int .i64 s.off, .int .i64 s.delay, .int .i64 s.disp, .int .i64 s.at_] 25)).alloc (.cells #[.int .i64 0, .int .i64 0, .int .i64 0, .int .i64 0] 25)) := by go_grown
  cases h : agedOk s now with
  | false =>
    have e2 : agedV s now = Sm.zero := by unfold agedV; rw [h]; rfl
    rw [e2]
    dsimp only [Sm.zero]
    have hw := fun W => @age_no s now h W
    clear h e2
    go_enter Tryd.func21, Tryd.ntmps21
    go_wp2_with fail
    refine (hw _ (L.next g0) (B.next g0)).mono ?_
    rintro e w1 ⟨why, b1, rfl, hw1, hb1⟩
    have R1 := blk_next hb1 R
    have g1 := grow_next g0 hb1
    have M1 := L.next g1
    go_wp2_with fail
    refine (isRefusal_hit _ _ M1).mono ?_
    rintro e w2 ⟨rfl, hb2⟩
    have R2 := blk_next hb2 R1
    have g2 := grow_next g1 hb2
    obtain ⟨y0, y1, y2, y3⟩ := sample_thaw (q := ⟨0, 0, 0, 0⟩) R2
    obtain ⟨z0, z1, z2, z3⟩ := sample_cells (q := ⟨0, 0, 0, 0⟩) R2
    go_wp2_with fail
    obtain ⟨q0, q1, q2, q3⟩ := sample_cells (sample_put (q := ⟨0, 0, 0, 0⟩) R2 ⟨0, 0, 0, 0⟩)
    dsimp only at q0 q1 q2 q3
    have G : Below W.heap.size W ((((w2.setCell ⟨W.heap.size + 1, 0, none⟩ (.int .i64 0)).setCell ⟨W.heap.size + 1, 1, none⟩ (.int .i64 0)).setCell ⟨W.heap.size + 1, 2, none⟩ (.int .i64 0)).setCell ⟨W.heap.size + 1, 3, none⟩ (.int .i64 0)) := by
      repeat (refine below_put ?_ (by omega) _ _)
      exact g2
    refine bodyPost_ret (by simp [results, Tryd.results21, go_sem, q0, q1, q2, q3]; try rfl) rfl ?_
    exact ⟨rfl, G⟩
  | true =>
    obtain ⟨hs, ⟨n0, n1⟩, ha⟩ := agedOk_iff.1 h
    obtain ⟨⟨a0, a1⟩, ⟨b0, b1⟩, ⟨c0, c1⟩, ⟨d0, d1⟩⟩ := Sm.ok_iff.1 hs
    obtain ⟨eb, eh⟩ := aged_held s now h
    have hN := fun W => @sampleOrNone_c ⟨s.off, s.delay, s.disp + 15 * begun (now - s.at_), now⟩ W
    rw [eb, eh] at hN
    obtain ⟨v, hv⟩ : ∃ v, agedV s now = v := ⟨_, rfl⟩
    rw [hv] at hN ⊢
    have hD := fun w => dividedUp_c (now - s.at_) (by omega) (by omega) w
    have b0 : 0 ≤ begun (now - s.at_) := by unfold begun; omega
    have b1 : begun (now - s.at_) ≤ 4000000000000000 := by unfold begun; omega
    obtain ⟨bg, hbg⟩ : ∃ bg, begun (now - s.at_) = bg := ⟨_, rfl⟩
    rw [hbg] at hN hD b0 b1
    have hw := fun W => @age_right s now h W
    clear hv hbg eb eh h
    have w1e : IntKind.i64.wrap (now - s.at_) = now - s.at_ := Go.IntWalk.i64_in _ (by omega)
    rw [← w1e] at hD
    have HN := Lib.hid hN
    have HW := Lib.hid hw
    have HD := Lib.hid hD
    clear hN hw hD w1e
    go_enter Tryd.func21, Tryd.ntmps21
    go_wp2_with fail
    refine (HW.out _).mono ?_
    rintro e w1 ⟨rfl, hb1⟩
    have R1 := blk_next hb1 R
    have Q1 := blk_next hb1 Q
    have g1 := grow_next g0 hb1
    go_wp2_with fail
    refine (isRefusal_nil _).mono ?_
    rintro e w2 ⟨rfl, hb2⟩
    have R2 := blk_next hb2 R1
    have Q2 := blk_next hb2 Q1
    have g2 := grow_next g1 hb2
    obtain ⟨f0, f1, f2, f3⟩ := sample_thaw Q2
    obtain ⟨p0, p1, p2, p3⟩ := sample_cells Q2
    go_wp2_with fail
    go_region_with (go_at_call 43; refine (HD.out _).mono ?_; rintro e w3 ⟨rfl, rfl⟩)
    all_goals
      go_wp2_with fail
      refine (HN.out _ (L.next ?_)).mono ?_
      · repeat (first | exact g2 | refine below_put ?_ (by omega) _ _ | refine below_drew ?_ | refine grow_drew ?_ _)
      rintro e w3 ⟨rfl, hb3⟩
      have g3 : Below W.heap.size W w3 := grow_next (by repeat (first | exact g2 | refine below_put ?_ (by omega) _ _ | refine below_drew ?_ | refine grow_drew ?_ _)) hb3
      have R3 := blk_next hb3 (b := W.heap.size + 1) (o := .cells #[.int .i64 0, .int .i64 0, .int .i64 0, .int .i64 0] 25) (by simp [World.setCell, Array.getElem?_modify, World.drew, World.drewN, R2])
      obtain ⟨y0, y1, y2, y3⟩ := sample_thaw (q := ⟨0, 0, 0, 0⟩) R3
      obtain ⟨z0, z1, z2, z3⟩ := sample_cells (q := ⟨0, 0, 0, 0⟩) R3
      go_wp2_with fail
      obtain ⟨q0, q1, q2, q3⟩ := sample_cells (sample_put (q := ⟨0, 0, 0, 0⟩) R3 v)
      have G : Below W.heap.size W ((((w3.setCell ⟨W.heap.size + 1, 0, none⟩ (.int .i64 v.off)).setCell ⟨W.heap.size + 1, 1, none⟩ (.int .i64 v.delay)).setCell ⟨W.heap.size + 1, 2, none⟩ (.int .i64 v.disp)).setCell ⟨W.heap.size + 1, 3, none⟩ (.int .i64 v.at_)) := by
        repeat (refine below_put ?_ (by omega) _ _)
        exact g3
      refine bodyPost_ret (by simp [results, Tryd.results21, go_sem, q0, q1, q2, q3]; try rfl) rfl ?_
      exact ⟨rfl, G⟩

theorem sampleOk_dec {s : Sm} {b : Bool} (h : s.ok = b) (w : World) : Calls Tryd.prog 14 #[.agg #[.int .i64 s.off, .int .i64 s.delay, .int .i64 s.disp, .int .i64 s.at_]] w fun e w' => e = .returned (.bool b) ∧ Below w.heap.size w w' := h ▸ sampleOk_spec s w
theorem sampleOk_decI {s : Sm} {b : Bool} (h : s.ok = b) (W : World) {ao an au : Addr} (L : Ld W ao an au) : Calls Tryd.prog 16 #[.agg #[.int .i64 s.off, .int .i64 s.delay, .int .i64 s.disp, .int .i64 s.at_]] W fun e w' => e = .returned (.bool b) ∧ Below W.heap.size W w' := h ▸ sampleOk_impl s W L

set_option maxHeartbeats 1000000 in
theorem aged_spec (s : Sm) (now : Int) (W : World) :
    Calls Tryd.prog 20 #[.agg #[.int .i64 s.off, .int .i64 s.delay, .int .i64 s.disp, .int .i64 s.at_], .int .i64 now] W fun e w' => e = .returned (.tuple #[.agg #[.int .i64 (agedV s now).off, .int .i64 (agedV s now).delay, .int .i64 (agedV s now).disp, .int .i64 (agedV s now).at_], .bool (agedOk s now)]) ∧ Below W.heap.size W w' := by
  have Q := blk_alloc (blk_new W (.cells #[.int .i64 s.off, .int .i64 s.delay, .int .i64 s.disp, .int .i64 s.at_] 25)) (.cells #[.int .i64 0, .int .i64 0, .int .i64 0, .int .i64 0] 25)
  have R := blk_new (W.alloc (.cells #[.int .i64 s.off, .int .i64 s.delay, .int .i64 s.disp, .int .i64 s.at_] 25)) (.cells #[.int .i64 0, .int .i64 0, .int .i64 0, .int .i64 0] 25)
  simp only [World.size_alloc] at R
  have g0 : Below W.heap.size W ((W.alloc (.cells #[.int .i64 s.off, .int .i64 s.delay, .int .i64 s.disp, .int .i64 s.at_] 25)).alloc (.cells #[.int .i64 0, .int .i64 0, .int .i64 0, .int .i64 0] 25)) := by go_grown
  have no : ∀ w2 : World, w2.heap[W.heap.size + 1]? = some (.cells #[.int .i64 0, .int .i64 0, .int .i64 0, .int .i64 0] 25) → Below W.heap.size W w2 → 
      ((((w2.setCell ⟨W.heap.size + 1, 0, none⟩ (.int .i64 0)).setCell ⟨W.heap.size + 1, 1, none⟩ (.int .i64 0)).setCell ⟨W.heap.size + 1, 2, none⟩ (.int .i64 0)).setCell ⟨W.heap.size + 1, 3, none⟩ (.int .i64 0)).heap[W.heap.size + 1]? = some (.cells #[.int .i64 0, .int .i64 0, .int .i64 0, .int .i64 0] 25) ∧
      Below W.heap.size W ((((w2.setCell ⟨W.heap.size + 1, 0, none⟩ (.int .i64 0)).setCell ⟨W.heap.size + 1, 1, none⟩ (.int .i64 0)).setCell ⟨W.heap.size + 1, 2, none⟩ (.int .i64 0)).setCell ⟨W.heap.size + 1, 3, none⟩ (.int .i64 0)) := fun w2 h g => ⟨sample_put (q := ⟨0, 0, 0, 0⟩) h ⟨0, 0, 0, 0⟩, by
        repeat (refine below_put ?_ (by omega) _ _)
        exact g⟩
  cases hs : s.ok with
  | false =>
    have e1 : agedOk s now = false := by simp only [agedOk, hs, Bool.false_and]
    have e2 : agedV s now = Sm.zero := by unfold agedV; rw [e1]; rfl
    rw [e1, e2]
    dsimp only [Sm.zero]
    clear e1 e2
    have HS := Lib.hid (fun w => sampleOk_dec hs w)
    go_enter Tryd.func20, Tryd.ntmps20
    go_wp2_with fail
    refine (HS.out _).mono ?_
    rintro e w1 ⟨rfl, hb1⟩
    have R1 := blk_next hb1 R
    obtain ⟨y0, y1, y2, y3⟩ := sample_thaw (q := ⟨0, 0, 0, 0⟩) R1
    obtain ⟨z0, z1, z2, z3⟩ := sample_cells (q := ⟨0, 0, 0, 0⟩) R1
    go_wp2_with fail
    obtain ⟨K, G⟩ := no w1 R1 (grow_next g0 hb1)
    obtain ⟨q0, q1, q2, q3⟩ := sample_cells (q := ⟨0, 0, 0, 0⟩) K
    refine bodyPost_ret (by simp [results, Tryd.results20, go_sem, q0, q1, q2, q3]; try rfl) rfl ?_
    exact ⟨rfl, G⟩
  | true =>
    have HS := Lib.hid (fun w => sampleOk_dec hs w)
    cases hn : inB 0 now 4000000000000000 with
    | false =>
      have e1 : agedOk s now = false := by simp only [agedOk, hn, Bool.and_false, Bool.false_and]
      have e2 : agedV s now = Sm.zero := by unfold agedV; rw [e1]; rfl
      rw [e1, e2]
      dsimp only [Sm.zero]
      clear e1 e2
      go_enter Tryd.func20, Tryd.ntmps20
      go_wp2_with fail
      refine (HS.out _).mono ?_
      rintro e w1 ⟨rfl, hb1⟩
      have R1 := blk_next hb1 R
      obtain ⟨y0, y1, y2, y3⟩ := sample_thaw (q := ⟨0, 0, 0, 0⟩) R1
      obtain ⟨z0, z1, z2, z3⟩ := sample_cells (q := ⟨0, 0, 0, 0⟩) R1
      go_wp2_with (go_at_call 35; refine (l1Time_c _ _).mono ?_; rintro e w2 ⟨rfl, rfl⟩)
      obtain ⟨K, G⟩ := no w1 R1 (grow_next g0 hb1)
      obtain ⟨q0, q1, q2, q3⟩ := sample_cells (q := ⟨0, 0, 0, 0⟩) K
      refine bodyPost_ret (by simp [results, Tryd.results20, go_sem, q0, q1, q2, q3]; try rfl) rfl ?_
      exact ⟨rfl, G⟩
    | true =>
      by_cases hd : now < s.at_
      · have e1 : agedOk s now = false := by simp only [agedOk, hd, decide_true, Bool.not_true, Bool.and_false]
        have e2 : agedV s now = Sm.zero := by unfold agedV; rw [e1]; rfl
        rw [e1, e2]
        dsimp only [Sm.zero]
        clear e1 e2
        go_enter Tryd.func20, Tryd.ntmps20
        go_wp2_with fail
        refine (HS.out _).mono ?_
        rintro e w1 ⟨rfl, hb1⟩
        have R1 := blk_next hb1 R
        obtain ⟨x0, x1, x2, x3⟩ := sample_cells (blk_next hb1 Q)
        obtain ⟨y0, y1, y2, y3⟩ := sample_thaw (q := ⟨0, 0, 0, 0⟩) R1
        obtain ⟨z0, z1, z2, z3⟩ := sample_cells (q := ⟨0, 0, 0, 0⟩) R1
        go_wp2_with (go_at_call 35; refine (l1Time_c _ _).mono ?_; rintro e w2 ⟨rfl, rfl⟩)
        obtain ⟨K, G⟩ := no w1 R1 (grow_next g0 hb1)
        obtain ⟨q0, q1, q2, q3⟩ := sample_cells (q := ⟨0, 0, 0, 0⟩) K
        refine bodyPost_ret (by simp [results, Tryd.results20, go_sem, q0, q1, q2, q3]; try rfl) rfl ?_
        exact ⟨rfl, G⟩
      · have hd' : decide (now < s.at_) = false := decide_eq_false hd
        have e1 : agedOk s now = true := by simp only [agedOk, hs, hn, hd', Bool.not_false, Bool.and_self]
        obtain ⟨_, ⟨n0, n1⟩, ha⟩ := agedOk_iff.1 e1
        obtain ⟨⟨a0, a1⟩, ⟨b0, b1⟩, ⟨c0, c1⟩, ⟨d0, d1⟩⟩ := Sm.ok_iff.1 hs
        have e2 : agedV s now = agedOf s now := by unfold agedV; rw [e1]; rfl
        rw [e1, e2]
        clear e1 e2
        obtain ⟨D, hD, hD'⟩ : ∃ D, min 16000000 (s.disp + begun (now - s.at_) * 15) = D ∧ (16000000 ≤ s.disp + (now - s.at_ + 999999) / 1000000 * 15 ∧ D = 16000000 ∨ s.disp + (now - s.at_ + 999999) / 1000000 * 15 < 16000000 ∧ D = s.disp + (now - s.at_ + 999999) / 1000000 * 15) := ⟨_, rfl, by unfold begun; omega⟩
        unfold agedOf
        rw [hD]
        clear hD
        rcases hD' with ⟨hm, rfl⟩ | ⟨hm, rfl⟩
        · dsimp only
          go_enter Tryd.func20, Tryd.ntmps20
          go_wp2_with fail
          refine (HS.out _).mono ?_
          rintro e w1 ⟨rfl, hb1⟩
          have Q1 := blk_next hb1 Q
          have R1 := blk_next hb1 R
          have g1 := grow_next g0 hb1
          obtain ⟨x0, x1, x2, x3⟩ := sample_cells Q1
          obtain ⟨u0, u1, u2, u3⟩ := sample_thaw Q1
          obtain ⟨y0, y1, y2, y3⟩ := sample_thaw (q := ⟨0, 0, 0, 0⟩) R1
          obtain ⟨z0, z1, z2, z3⟩ := sample_cells (q := ⟨0, 0, 0, 0⟩) R1
          go_wp2_with (go_at_call 35; refine (l1Time_c _ _).mono ?_; rintro e w2 ⟨rfl, rfl⟩)
          have R2 : ((w1.setCell ⟨W.heap.size, 2, none⟩ (.int .i64 (16000000))).setCell ⟨W.heap.size, 3, none⟩ (.int .i64 now)).heap[W.heap.size + 1]? = some (.cells #[.int .i64 0, .int .i64 0, .int .i64 0, .int .i64 0] 25) := by
            simp [World.setCell, Array.getElem?_modify, R1]
          obtain ⟨q0, q1, q2, q3⟩ := sample_cells (sample_put (q := ⟨0, 0, 0, 0⟩) R2 ⟨s.off, s.delay, 16000000, now⟩)
          dsimp only at q0 q1 q2 q3
          have G : Below W.heap.size W ((((((w1.setCell ⟨W.heap.size, 2, none⟩ (.int .i64 (16000000))).setCell ⟨W.heap.size, 3, none⟩ (.int .i64 now)).setCell ⟨W.heap.size + 1, 0, none⟩ (.int .i64 s.off)).setCell ⟨W.heap.size + 1, 1, none⟩ (.int .i64 s.delay)).setCell ⟨W.heap.size + 1, 2, none⟩ (.int .i64 (16000000))).setCell ⟨W.heap.size + 1, 3, none⟩ (.int .i64 now)) := by
            repeat (refine below_put ?_ (by omega) _ _)
            exact g1
          refine bodyPost_ret (by simp [results, Tryd.results20, go_sem, q0, q1, q2, q3]; try rfl) rfl ?_
          exact ⟨rfl, G⟩
        · dsimp only
          go_enter Tryd.func20, Tryd.ntmps20
          go_wp2_with fail
          refine (HS.out _).mono ?_
          rintro e w1 ⟨rfl, hb1⟩
          have Q1 := blk_next hb1 Q
          have R1 := blk_next hb1 R
          have g1 := grow_next g0 hb1
          obtain ⟨x0, x1, x2, x3⟩ := sample_cells Q1
          obtain ⟨u0, u1, u2, u3⟩ := sample_thaw Q1
          obtain ⟨y0, y1, y2, y3⟩ := sample_thaw (q := ⟨0, 0, 0, 0⟩) R1
          obtain ⟨z0, z1, z2, z3⟩ := sample_cells (q := ⟨0, 0, 0, 0⟩) R1
          go_wp2_with (go_at_call 35; refine (l1Time_c _ _).mono ?_; rintro e w2 ⟨rfl, rfl⟩)
          have R2 : ((w1.setCell ⟨W.heap.size, 2, none⟩ (.int .i64 (s.disp + (now - s.at_ + 999999) / 1000000 * 15))).setCell ⟨W.heap.size, 3, none⟩ (.int .i64 now)).heap[W.heap.size + 1]? = some (.cells #[.int .i64 0, .int .i64 0, .int .i64 0, .int .i64 0] 25) := by
            simp [World.setCell, Array.getElem?_modify, R1]
          obtain ⟨q0, q1, q2, q3⟩ := sample_cells (sample_put (q := ⟨0, 0, 0, 0⟩) R2 ⟨s.off, s.delay, s.disp + (now - s.at_ + 999999) / 1000000 * 15, now⟩)
          dsimp only at q0 q1 q2 q3
          have G : Below W.heap.size W ((((((w1.setCell ⟨W.heap.size, 2, none⟩ (.int .i64 (s.disp + (now - s.at_ + 999999) / 1000000 * 15))).setCell ⟨W.heap.size, 3, none⟩ (.int .i64 now)).setCell ⟨W.heap.size + 1, 0, none⟩ (.int .i64 s.off)).setCell ⟨W.heap.size + 1, 1, none⟩ (.int .i64 s.delay)).setCell ⟨W.heap.size + 1, 2, none⟩ (.int .i64 (s.disp + (now - s.at_ + 999999) / 1000000 * 15))).setCell ⟨W.heap.size + 1, 3, none⟩ (.int .i64 now)) := by
            repeat (refine below_put ?_ (by omega) _ _)
            exact g1
          refine bodyPost_ret (by simp [results, Tryd.results20, go_sem, q0, q1, q2, q3]; try rfl) rfl ?_
          exact ⟨rfl, G⟩

theorem reachV_bounds (s : Sm) (h : s.ok = true) : reachV s = (s.delay + 1) / 2 + s.disp ∧ 0 ≤ reachV s ∧ reachV s ≤ 1000000000000 := by
  obtain ⟨⟨a0, a1⟩, ⟨b0, b1⟩, ⟨c0, c1⟩, ⟨d0, d1⟩⟩ := Sm.ok_iff.1 h
  have e : reachV s = (s.delay + 1) / 2 + s.disp := by unfold reachV; rw [h]; rfl
  rw [e]
  omega
theorem reachV_no (s : Sm) (h : s.ok = false) : reachV s = -1 := by unfold reachV; rw [h]; rfl

theorem reach_impl (s : Sm) (W : World) {ao an au : Addr} (L : Ld W ao an au) :
    Calls Tryd.prog 23 #[.agg #[.int .i64 s.off, .int .i64 s.delay, .int .i64 s.disp, .int .i64 s.at_]] W fun e w' => e = .returned (.int .i64 (reachV s)) ∧ Below W.heap.size W w' := by
  have Q := blk_new W (.cells #[.int .i64 s.off, .int .i64 s.delay, .int .i64 s.disp, .int .i64 s.at_] 25)
  have g0 : Below W.heap.size W (W.alloc (.cells #[.int .i64 s.off, .int .i64 s.delay, .int .i64 s.disp, .int .i64 s.at_] 25)) := by go_grown
  cases hs : s.ok with
  | false =>
    rw [reachV_no s hs]
    have HS := Lib.hid (sampleOk_decI hs _ (L.next g0))
    clear hs
    go_enter Tryd.func23, Tryd.ntmps23
    go_wp2_with fail
    refine (HS.out).mono ?_
    rintro e w1 ⟨rfl, hb1⟩
    go_wp2_with fail
    go_returns
    exact ⟨rfl, grow_next g0 hb1⟩
  | true =>
    rw [(reachV_bounds s hs).1]
    obtain ⟨⟨a0, a1⟩, ⟨b0, b1⟩, ⟨c0, c1⟩, ⟨d0, d1⟩⟩ := Sm.ok_iff.1 hs
    have HS := Lib.hid (sampleOk_decI hs _ (L.next g0))
    clear hs
    go_enter Tryd.func23, Tryd.ntmps23
    go_wp2_with fail
    refine (HS.out).mono ?_
    rintro e w1 ⟨rfl, hb1⟩
    obtain ⟨x0, x1, x2, x3⟩ := sample_cells (blk_next hb1 Q)
    go_wp2_with fail
    go_returns
    exact ⟨rfl, grow_next g0 hb1⟩

theorem l3Reach_c (s : Sm) (h : s.ok = true) (W : World) :
    Calls Tryd.prog 44 #[.agg #[.int .i64 s.off, .int .i64 s.delay, .int .i64 s.disp, .int .i64 s.at_]] W fun e w' => e = .returned (.int .i64 ((s.delay + 1) / 2 + s.disp)) ∧ Below W.heap.size W w' := by
  obtain ⟨⟨a0, a1⟩, ⟨b0, b1⟩, ⟨c0, c1⟩, ⟨d0, d1⟩⟩ := Sm.ok_iff.1 h
  clear h
  go_enter Tryd.func44, Tryd.ntmps44
  go_wp2
  go_returns
  exact ⟨rfl, by go_grown⟩

theorem reach_spec (s : Sm) (W : World) :
    Calls Tryd.prog 22 #[.agg #[.int .i64 s.off, .int .i64 s.delay, .int .i64 s.disp, .int .i64 s.at_]] W fun e w' => e = .returned (.int .i64 (reachV s)) ∧ Below W.heap.size W w' := by
  have Q := blk_new W (.cells #[.int .i64 s.off, .int .i64 s.delay, .int .i64 s.disp, .int .i64 s.at_] 25)
  have g0 : Below W.heap.size W (W.alloc (.cells #[.int .i64 s.off, .int .i64 s.delay, .int .i64 s.disp, .int .i64 s.at_] 25)) := by go_grown
  cases hs : s.ok with
  | false =>
    rw [reachV_no s hs]
    have HS := Lib.hid (fun w => sampleOk_dec hs w)
    clear hs
    go_enter Tryd.func22, Tryd.ntmps22
    go_wp2_with fail
    refine (HS.out _).mono ?_
    rintro e w1 ⟨rfl, hb1⟩
    go_wp2_with fail
    go_returns
    exact ⟨rfl, grow_next g0 hb1⟩
  | true =>
    rw [(reachV_bounds s hs).1]
    have HS := Lib.hid (fun w => sampleOk_dec hs w)
    have HR := Lib.hid (fun w => l3Reach_c s hs w)
    clear hs
    go_enter Tryd.func22, Tryd.ntmps22
    go_wp2_with fail
    refine (HS.out _).mono ?_
    rintro e w1 ⟨rfl, hb1⟩
    obtain ⟨x0, x1, x2, x3⟩ := sample_cells (blk_next hb1 Q)
    go_wp2_with fail
    refine (HR.out _).mono ?_
    rintro e w2 ⟨rfl, hb2⟩
    go_wp2_with fail
    go_returns
    exact ⟨rfl, grow_next (grow_next g0 hb1) hb2⟩
end Go.Proofs.YtbabkpcefpacpaaDoor
