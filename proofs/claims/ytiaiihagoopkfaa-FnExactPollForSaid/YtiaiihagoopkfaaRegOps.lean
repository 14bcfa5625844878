/- Registers: an answer more; whether one came; how often to ask: the program's way and the reference's. -/
import Derived.Test.YtiaiihagoopkfaaRegOnes
import Derived.WalkLawsBesides
namespace Go.Proofs.Ytiaiihagoopkfaa
open Go.ChangeShapes Go.WideShapes Go.ChangeAt Go.RowKit Go.Shelf
set_option linter.unusedVariables false
set_option linter.unusedSimpArgs false

attribute [local go_sem] Oper.semAt_some

/-- A register with an answer more. -/
def shiftR (n : Int) (got : Bool) : Int := 2 * n % 256 + (if got then 1 else 0)
def shiftV (n : Int) (got : Bool) : Int := if regB n then shiftR n got else -1
theorem shiftV_reg {n : Int} {g : Bool} (h : regB n = true) : shiftV n g = shiftR n g := by simp [shiftV, h]
theorem shiftV_no {n : Int} {g : Bool} (h : regB n = false) : shiftV n g = -1 := by simp [shiftV, h]
theorem shiftR_reg (n : Int) (g : Bool) : regB (shiftR n g) = true := by
  rw [regB_iff]
  unfold shiftR
  cases g <;> simp <;> omega

theorem shifted_impl (n : Int) (g : Bool) (w : World) : Calls Try.prog 14 #[.int .i64 n, .bool g] w fun e W' => e = .returned (.int .i64 (shiftV n g)) ∧ w = W' := by
  cases h : regB n with
  | true =>
    obtain ⟨g0, g1⟩ := regB_iff.1 h
    rw [shiftV_reg h]
    cases g with
    | true =>
      go_enter Try.func14, Try.ntmps14
      go_wp2_with (first | (go_at_call 38; refine (isReg_c _ _).mono ?_; rintro e w1 ⟨rfl, rfl⟩))
      go_returns
      exact ⟨rfl, rfl⟩
    | false =>
      go_enter Try.func14, Try.ntmps14
      go_wp2_with (first | (go_at_call 38; refine (isReg_c _ _).mono ?_; rintro e w1 ⟨rfl, rfl⟩))
      go_returns
      exact ⟨by simp [shiftR], rfl⟩
  | false =>
    rw [shiftV_no h]
    go_enter Try.func14, Try.ntmps14
    go_wp2_with (first | (go_at_call 38; refine (isReg_c _ _).mono ?_; rintro e w1 ⟨rfl, rfl⟩))
    go_returns
    exact ⟨rfl, rfl⟩

theorem shifted_spec (n : Int) (g : Bool) (w : World) : Calls Try.prog 13 #[.int .i64 n, .bool g] w fun e W' => e = .returned (.int .i64 (shiftV n g)) ∧ w = W' := by
  cases h : regB n with
  | true =>
    obtain ⟨g0, g1⟩ := regB_iff.1 h
    rw [shiftV_reg h]
    cases g with
    | true =>
      go_enter Try.func13, Try.ntmps13
      go_wp2_with (first | (go_at_call 37; refine (l13Ok_c _ _).mono ?_; rintro e w1 ⟨rfl, rfl⟩))
      go_returns
      exact ⟨rfl, rfl⟩
    | false =>
      go_enter Try.func13, Try.ntmps13
      go_wp2_with (first | (go_at_call 37; refine (l13Ok_c _ _).mono ?_; rintro e w1 ⟨rfl, rfl⟩))
      go_returns
      exact ⟨by simp [shiftR], rfl⟩
  | false =>
    rw [shiftV_no h]
    go_enter Try.func13, Try.ntmps13
    go_wp2_with (first | (go_at_call 37; refine (l13Ok_c _ _).mono ?_; rintro e w1 ⟨rfl, rfl⟩))
    go_returns
    exact ⟨rfl, rfl⟩

/-- Has a register a one? -/
def reachV (n : Int) : Bool := regB n && decide (0 < n)
theorem reachV_no {n : Int} (h : regB n = false) : reachV n = false := by simp [reachV, h]
theorem reach_some {n : Int} {k : Nat} (h : regB n = true) (hm : true ∈ bitsTo n k) : reachV n = true := by
  obtain ⟨g0, g1⟩ := regB_iff.1 h
  unfold reachV
  rw [h]
  by_cases hn : 0 < n
  · simp [hn]
  · obtain rfl : n = 0 := by omega
    simp [bitsTo, bit] at hm
theorem reach_none {n : Int} (h : regB n = true) (hm : true ∉ bitsTo n 8) : reachV n = false := by
  have := reg_all (p := fun n => (bitsTo n 8).contains true == decide (0 < n)) (by decide +kernel) h
  unfold reachV
  rw [h]
  simp only [beq_iff_eq] at this
  rw [← this]
  simp [hm]

theorem reachable_spec (n : Int) (w : World) : Calls Try.prog 17 #[.int .i64 n] w fun e W' => e = .returned (.bool (reachV n)) ∧ w = W' := by
  cases h : regB n with
  | true =>
    have hv : reachV n = decide (0 < n) := by simp [reachV, h]
    rw [hv]
    clear hv
    by_cases hp : 0 < n
    · go_enter Try.func17, Try.ntmps17
      go_wp2_with (first | (go_at_call 37; refine (l13Ok_c _ _).mono ?_; rintro e w1 ⟨rfl, rfl⟩))
      go_returns
      exact ⟨by simp [hp], rfl⟩
    · go_enter Try.func17, Try.ntmps17
      go_wp2_with (first | (go_at_call 37; refine (l13Ok_c _ _).mono ?_; rintro e w1 ⟨rfl, rfl⟩))
      go_returns
      exact ⟨by simp, rfl⟩
  | false =>
    rw [reachV_no h]
    go_enter Try.func17, Try.ntmps17
    go_wp2_with (first | (go_at_call 37; refine (l13Ok_c _ _).mono ?_; rintro e w1 ⟨rfl, rfl⟩))
    go_returns
    exact ⟨rfl, rfl⟩

set_option maxHeartbeats 2000000 in
theorem reachable_in (F : Fence) (m : Nat) (h1 : F.fn 18) (h4 : F.fn 40) (h5 : F.fn 50) (hro : F.round = none) (hm : 3 ≤ m) (hw : ∀ n w, CallsIn F (m - 1) Try.prog 38 #[.int .i64 n] w fun e w' => e = .returned (.bool (regB n)) ∧ w = w') (h2 : F.fn 38) (n : Int) (w : World) :
    CallsIn F m Try.prog 18 #[.int .i64 n] w fun e W' => e = .returned (.bool (reachV n)) ∧ Below w.heap.size w W' := by
  have h1m : 1 ≤ m := by omega
  by_cases hr : regB n = true
  · obtain ⟨g0, g1⟩ := regB_iff.1 hr
    refine callsIn_of_wp_marks Try.func18 rfl h1 ?_ hro
    simp only [Try.ntmps18, List.size_toArray, List.length_cons, List.length_nil, Nat.reduceAdd, Nat.reduceSub, Array.replicate_succ, Array.replicate_zero, List.push_toArray, List.append_toArray, List.nil_append, List.cons_append]
    gi_wp2_with (first | (gi_at_call 38; refine (hw _ _).mono ?_; rintro e w1 ⟨rfl, rfl⟩) | (gi_at_call 40; refine (answersMk_in F (m - 1) h4 hro _ _).mono ?_; rintro e w' ⟨rfl, rfl⟩))
    have bK := Boxed.new w 4 (.bool false)
    have bN := Boxed.new (w.alloc (.cells #[.bool false] 4)) 2 (.int .i64 n)
    simp only [World.size_alloc] at bN
    have bK' := bK.alloc (.cells #[.int .i64 n] 2)
    have hB0 : Below w.heap.size w ((w.alloc (.cells #[.bool false] 4)).alloc (.cells #[.int .i64 n] 2)) := by go_grown
    obtain ⟨w0, hw0⟩ : ∃ w0, (w.alloc (.cells #[.bool false] 4)).alloc (.cells #[.int .i64 n] 2) = w0 := ⟨_, rfl⟩
    have hsz0 : w0.heap.size = w.heap.size + 1 + 1 := by rw [← hw0]; simp
    rw [hw0] at bN bK' hB0 ⊢
    clear hw0 bK
    refine wpIn_rangeFunc_ownG hro h1m (gf := 50) (lb := #[.pointer (some ⟨w.heap.size + 1, 0, none⟩)]) rfl h5 (enters_of Try.func50 (by kernel_rfl) rfl)
      (answers_stops F (m - 1) h5 hro (by omega) (w.heap.size + 1) n g0 g1 w0 bN) (fun h h' x => h' (h x))
      (fun W l o o' hle hl hc _ hx => hx.kept (grownBy_putObj' W l o') (fun e => by cases e; rw [show W.heap[_]? = _ from hx] at hl; cases hl; cases hc))
      (Below.refl _ _) (fun _ => rfl)
      (fun pre W => (Boxed W w.heap.size 4 (.bool false) ∧ true ∉ pre) ∧ Below w.heap.size w W)
      (fun c pre W => (Boxed W w.heap.size 4 (.bool true) ∧ c = .ret ∧ true ∈ pre) ∧ Below w.heap.size w W)
      (OwnFrom.and (fun s X Y row hs hg hr => ⟨(Own.from (boxed_own _ _ (fun pre : List Bool => .bool false)) _) s X Y row hs.1 hg hr, hs.2⟩) (ownFrom_below (Nat.le_refl _) (by omega)))
      (fun c => OwnFrom.and (fun s X Y row hs hg hr => ⟨(Own.from (boxed_own _ _ (fun pre : List Bool => .bool true)) _) s X Y row hs.1 hg hr, hs.2⟩) (ownFrom_below (Nat.le_refl _) (by omega)))
      ⟨⟨bK', by simp⟩, hB0⟩
      (fun x => { tmps := #[.int .i64 n, undef, .pointer (some ⟨w.heap.size, 0, none⟩), .bool x, .int .i64 n, .bool true, .bool false, .int .i64 n, .func (.func 50) #[] #[.pointer (some ⟨w.heap.size + 1, 0, none⟩)], .bool x, undef], defers := [] }) ?assign ?body ?done ?stop
    case assign =>
      intro l x W K hK
      gi_wp2
      exact hK
    case body =>
      rintro l pre x W ⟨⟨hk, hx⟩, hB⟩ hlt
      have hc := hk.cell
      have hf := hk.frozen
      cases x with
      | true =>
        gi_wp2
        exact ⟨(KeepsOthers.setCell _ _ _).from _, ⟨hk.set _, rfl, by simp⟩, hB.setCell (p := ⟨w.heap.size, 0, none⟩) (Nat.le_refl _) _⟩
      | false =>
        gi_wp2
        exact ⟨(KeepsOthers.refl _).from _, fun hx => hx, ⟨hk, by simpa using hx⟩, hB⟩
    case done =>
      rintro D ys W hD rfl ⟨⟨hk, hx⟩, hB⟩ hK
      have hv := Lib.hid (reach_none hr hx)
      have hc := hk.cell
      have hf := hk.frozen
      gi_wp2
      have hK' := (KeepsOthers.setCell W ⟨w.heap.size, 0, none⟩ (.bool false)).same D _ hK rfl
      refine ⟨by simp, .inl ⟨_, _, rfl, run_takeDeferred hK', ?_⟩⟩
      have hc5 := cell_kept (World.cell?_setCell_same' W ⟨w.heap.size, 0, none⟩ (.bool false) (by rw [hc]; rfl)) (grownBy_putObj' _ D (.deferred none)) (fun r e => by cases e; exact ⟨_, hK', rfl⟩)
      have hb5 := (hB.setCell (p := ⟨w.heap.size, 0, none⟩) (Nat.le_refl _) (.bool false)).trans (belowK_b (w := w) (Nat.le_refl _) _ D _ (.deferred none) (by omega) hK' rfl rfl)
      refine ⟨.bool false, ?_, by rw [hv.out], hb5⟩
      simp [results, Try.f18, go_sem, hc5]
    case stop =>
      rintro D c pre W hD ⟨k, _, rfl⟩ ⟨⟨hk, rfl, hm'⟩, hB⟩ hK
      have hv := Lib.hid (reach_some hr hm')
      have hc := hk.cell
      gi_wp2
      refine ⟨by simp, .inl ⟨_, _, rfl, run_takeDeferred hK, ?_⟩⟩
      have hc5 := cell_kept hc (grownBy_putObj' _ D (.deferred none)) (fun r e => by cases e; exact ⟨_, hK, rfl⟩)
      have hb5 := hB.trans (belowK_b (w := w) (Nat.le_refl _) W D _ (.deferred none) (by omega) hK rfl rfl)
      refine ⟨.bool true, ?_, by rw [hv.out], hb5⟩
      simp [results, Try.f18, go_sem, hc5]
  · have hr' : regB n = false := by simpa using hr
    rw [reachV_no hr']
    refine callsIn_of_wp_marks Try.func18 rfl h1 ?_ hro
    simp only [Try.ntmps18, List.size_toArray, List.length_cons, List.length_nil, Nat.reduceAdd, Nat.reduceSub, Array.replicate_succ, Array.replicate_zero, List.push_toArray, List.append_toArray, List.nil_append, List.cons_append]
    gi_wp2_with (first | (gi_at_call 38; refine (hw _ _).mono ?_; rintro e w1 ⟨rfl, rfl⟩))
    refine ⟨.bool false, ?_, rfl, by go_grown⟩
    simp [results, Try.f18, go_sem]

theorem reachable_impl (n : Int) (w : World) : Calls Try.prog 18 #[.int .i64 n] w fun e W' => e = .returned (.bool (reachV n)) ∧ Below w.heap.size w W' :=
  (callsIn_wide (n := 5)).1 (reachable_in Fence.wide 5 trivial trivial trivial rfl (by omega) (fun n w => callsIn_wide.2 (isReg_c n w)) trivial n w)

/-- How often to ask from now on. -/
def pollV (n p : Int) : Int := if regB n && inB 4 p 10 then (if onesV n = 0 then min (p + 1) 10 else if onesV n < 4 then max (p - 1) 4 else p) else -1
theorem zero_ones {n : Int} (h : regB n = true) : decide (n = 0) = decide (cameN (bitsTo n 8) = 0) := by
  have := reg_all (p := fun n => decide (n = 0) == decide (cameN (bitsTo n 8) = 0)) (by decide +kernel) h
  simpa using this

set_option maxHeartbeats 1000000 in
theorem pollFor_impl (n p : Int) (w : World) : Calls Try.prog 20 #[.int .i64 n, .int .i64 p] w fun e W' => e = .returned (.int .i64 (pollV n p)) ∧ Below w.heap.size w W' := by
  cases h : regB n with
  | false =>
    have hv : pollV n p = -1 := by simp [pollV, h]
    rw [hv]
    go_enter Try.func20, Try.ntmps20
    go_wp2_with (first | (go_at_call 38; refine (isReg_c _ _).mono ?_; rintro e w1 ⟨rfl, rfl⟩))
    go_returns
    exact ⟨rfl, Below.refl _ _⟩
  | true =>
    cases hp : inB 4 p 10 with
    | false =>
      have hv : pollV n p = -1 := by simp [pollV, h, hp]
      rw [hv]
      go_enter Try.func20, Try.ntmps20
      go_wp2_with (first | (go_at_call 38; refine (isReg_c _ _).mono ?_; rintro e w1 ⟨rfl, rfl⟩) | (go_at_call 42; refine (within_c _ _ _ _).mono ?_; rintro e w1 ⟨rfl, rfl⟩))
      go_returns
      exact ⟨rfl, Below.refl _ _⟩
    | true =>
      obtain ⟨p0, p1⟩ := inB_iff.1 hp
      have hv : pollV n p = if onesV n = 0 then min (p + 1) 10 else if onesV n < 4 then max (p - 1) 4 else p := by simp [pollV, h, hp]
      have HO := Lib.hid (ones_impl n)
      have hb0 : onesV n = cameN (bitsTo n 8) := onesV_reg h
      have hb1 := cameN_ge (bitsTo n 8)
      have hb2 := cameN_le (bitsTo n 8)
      rw [bitsTo_length] at hb2
      rw [← hb0] at hb1 hb2
      clear hb0
      obtain ⟨k, hk⟩ : ∃ k, onesV n = k := ⟨_, rfl⟩
      rw [hk] at HO hv hb1 hb2
      rw [hv]
      clear hv hk
      by_cases k0 : k = 0
      · subst k0
        go_enter Try.func20, Try.ntmps20
        go_wp2_with (first | (go_at_call 38; refine (isReg_c _ _).mono ?_; rintro e w1 ⟨rfl, rfl⟩) | (go_at_call 42; refine (within_c _ _ _ _).mono ?_; rintro e w1 ⟨rfl, rfl⟩) | (go_at_call 16; refine (HO.out _).mono ?_; rintro e w1 ⟨rfl, hb⟩))
        all_goals (go_returns; refine ⟨?_, hb⟩; first | (simp; done) | (simp; omega))
      · have k1 : (k == 0) = false := by simpa using k0
        by_cases k4 : k < 4
        · go_enter Try.func20, Try.ntmps20
          go_wp2_with (first | (go_at_call 38; refine (isReg_c _ _).mono ?_; rintro e w1 ⟨rfl, rfl⟩) | (go_at_call 42; refine (within_c _ _ _ _).mono ?_; rintro e w1 ⟨rfl, rfl⟩) | (go_at_call 16; refine (HO.out _).mono ?_; rintro e w1 ⟨rfl, hb⟩))
          all_goals (go_returns; refine ⟨?_, hb⟩; first | (simp [k0, k4]; done) | (simp [k0, k4]; omega))
        · go_enter Try.func20, Try.ntmps20
          go_wp2_with (first | (go_at_call 38; refine (isReg_c _ _).mono ?_; rintro e w1 ⟨rfl, rfl⟩) | (go_at_call 42; refine (within_c _ _ _ _).mono ?_; rintro e w1 ⟨rfl, rfl⟩) | (go_at_call 16; refine (HO.out _).mono ?_; rintro e w1 ⟨rfl, hb⟩))
          all_goals (go_returns; refine ⟨?_, hb⟩; first | (simp [k0, k4]; done) | (simp [k0, k4]; omega))

set_option maxHeartbeats 1000000 in
theorem pollFor_spec (n p : Int) (w : World) : Calls Try.prog 19 #[.int .i64 n, .int .i64 p] w fun e W' => e = .returned (.int .i64 (pollV n p)) ∧ w = W' := by
  cases h : regB n with
  | false =>
    have hv : pollV n p = -1 := by simp [pollV, h]
    rw [hv]
    go_enter Try.func19, Try.ntmps19
    go_wp2_with (first | (go_at_call 37; refine (l13Ok_c _ _).mono ?_; rintro e w1 ⟨rfl, rfl⟩))
    go_returns
    exact ⟨rfl, rfl⟩
  | true =>
    cases hp : inB 4 p 10 with
    | false =>
      have hv : pollV n p = -1 := by simp [pollV, h, hp]
      rw [hv]
      go_enter Try.func19, Try.ntmps19
      go_wp2_with (first | (go_at_call 37; refine (l13Ok_c _ _).mono ?_; rintro e w1 ⟨rfl, rfl⟩) | (go_at_call 41; refine (l1In_c _ _ _ _).mono ?_; rintro e w1 ⟨rfl, rfl⟩))
      go_returns
      exact ⟨rfl, rfl⟩
    | true =>
      obtain ⟨p0, p1⟩ := inB_iff.1 hp
      have hv : pollV n p = if onesV n = 0 then min (p + 1) 10 else if onesV n < 4 then max (p - 1) 4 else p := by simp [pollV, h, hp]
      have HO := Lib.hid (l13Ones_c n h)
      have hz := zero_ones h
      have hb0 : onesV n = cameN (bitsTo n 8) := onesV_reg h
      have hb1 := cameN_ge (bitsTo n 8)
      have hb2 := cameN_le (bitsTo n 8)
      rw [bitsTo_length] at hb2
      rw [hb0] at hv
      clear hb0
      obtain ⟨k, hk⟩ : ∃ k, cameN (bitsTo n 8) = k := ⟨_, rfl⟩
      rw [hk] at HO hv hb1 hb2 hz
      rw [hv]
      clear hv hk
      by_cases k0 : k = 0
      · subst k0
        obtain rfl : n = 0 := by simpa using hz
        go_enter Try.func19, Try.ntmps19
        go_wp2_with (first | (go_at_call 37; refine (l13Ok_c _ _).mono ?_; rintro e w1 ⟨rfl, rfl⟩) | (go_at_call 41; refine (l1In_c _ _ _ _).mono ?_; rintro e w1 ⟨rfl, rfl⟩) | (go_at_call 39; refine (HO.out _).mono ?_; rintro e w1 ⟨rfl, rfl⟩))
        all_goals (go_returns; refine ⟨?_, rfl⟩; first | (simp [Int.min_comm]; done) | (simp [Int.min_comm]; omega))
      · have k1 : (n == 0) = false := by
          rw [decide_eq_false k0] at hz
          simpa using hz
        by_cases k4 : k < 4
        · go_enter Try.func19, Try.ntmps19
          go_wp2_with (first | (go_at_call 37; refine (l13Ok_c _ _).mono ?_; rintro e w1 ⟨rfl, rfl⟩) | (go_at_call 41; refine (l1In_c _ _ _ _).mono ?_; rintro e w1 ⟨rfl, rfl⟩) | (go_at_call 39; refine (HO.out _).mono ?_; rintro e w1 ⟨rfl, rfl⟩))
          all_goals (go_returns; refine ⟨?_, rfl⟩; first | (simp [k0, k4, Int.max_comm]; done) | (simp [k0, k4, Int.max_comm]; omega))
        · go_enter Try.func19, Try.ntmps19
          go_wp2_with (first | (go_at_call 37; refine (l13Ok_c _ _).mono ?_; rintro e w1 ⟨rfl, rfl⟩) | (go_at_call 41; refine (l1In_c _ _ _ _).mono ?_; rintro e w1 ⟨rfl, rfl⟩) | (go_at_call 39; refine (HO.out _).mono ?_; rintro e w1 ⟨rfl, rfl⟩))
          all_goals (go_returns; refine ⟨?_, rfl⟩; first | (simp [k0, k4]; done) | (simp [k0, k4]; omega))
end Go.Proofs.Ytiaiihagoopkfaa
